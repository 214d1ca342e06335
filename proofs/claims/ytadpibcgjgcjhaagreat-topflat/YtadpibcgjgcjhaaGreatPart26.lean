/- TopFlat: own; an act of one guest, by its flat memory; the flat memories in memory. -/
import Derived.Test.YtadpibcgjgcjhaaGreatPart25
namespace Go.Proofs.YtadpibcgjgcjhaaGreat
open Go.ChangeShapes Go.WideShapes Go.ChangeAt Go.RowKit
set_option maxRecDepth 100000
attribute [local go_sem ↓] Go.wp_at_zero Go.wp_at_succ

/-- A guest's own acts. -/
def ownB (s : ByteArray) : Bool := (s.toList == [108, 111, 97, 100]) || (s.toList == [115, 116, 111, 114, 101]) || (s.toList == [114, 111, 111, 116]) || (s.toList == [102, 111, 114, 103, 101, 116]) || (s.toList == [100, 114, 111, 112]) || (s.toList == [112, 108, 117, 103]) || (s.toList == [117, 110, 112, 108, 117, 103]) || (s.toList == [103, 105, 118, 101]) || (s.toList == [98, 97, 99, 107])
set_option maxHeartbeats 4000000 in
theorem own_any (w : World) (s : ByteArray) : Calls Tryz.prog 32 #[.string s] w fun e w' => e = .returned (.bool (ownB s)) ∧ w' = w := by
  cases k0 : (s.toList == [108, 111, 97, 100]) with
  | true =>
    have HO : Hid (ownB s = true) := show _ = _ by unfold ownB; simp only [k0]; rfl
    go_enter Tryz.func32, Tryz.ntmps32
    go_wp2_with fail
    go_ret
    exact ⟨by rw [HO.out]; rfl, rfl⟩
  | false =>
    cases k1 : (s.toList == [115, 116, 111, 114, 101]) with
    | true =>
      have HO : Hid (ownB s = true) := show _ = _ by unfold ownB; simp only [k0, k1]; rfl
      go_enter Tryz.func32, Tryz.ntmps32
      go_wp2_with fail
      go_ret
      exact ⟨by rw [HO.out]; rfl, rfl⟩
    | false =>
      cases k2 : (s.toList == [114, 111, 111, 116]) with
      | true =>
        have HO : Hid (ownB s = true) := show _ = _ by unfold ownB; simp only [k0, k1, k2]; rfl
        go_enter Tryz.func32, Tryz.ntmps32
        go_wp2_with fail
        go_ret
        exact ⟨by rw [HO.out]; rfl, rfl⟩
      | false =>
        cases k3 : (s.toList == [102, 111, 114, 103, 101, 116]) with
        | true =>
          have HO : Hid (ownB s = true) := show _ = _ by unfold ownB; simp only [k0, k1, k2, k3]; rfl
          go_enter Tryz.func32, Tryz.ntmps32
          go_wp2_with fail
          go_ret
          exact ⟨by rw [HO.out]; rfl, rfl⟩
        | false =>
          cases k4 : (s.toList == [100, 114, 111, 112]) with
          | true =>
            have HO : Hid (ownB s = true) := show _ = _ by unfold ownB; simp only [k0, k1, k2, k3, k4]; rfl
            go_enter Tryz.func32, Tryz.ntmps32
            go_wp2_with fail
            go_ret
            exact ⟨by rw [HO.out]; rfl, rfl⟩
          | false =>
            cases k5 : (s.toList == [112, 108, 117, 103]) with
            | true =>
              have HO : Hid (ownB s = true) := show _ = _ by unfold ownB; simp only [k0, k1, k2, k3, k4, k5]; rfl
              go_enter Tryz.func32, Tryz.ntmps32
              go_wp2_with fail
              go_ret
              exact ⟨by rw [HO.out]; rfl, rfl⟩
            | false =>
              cases k6 : (s.toList == [117, 110, 112, 108, 117, 103]) with
              | true =>
                have HO : Hid (ownB s = true) := show _ = _ by unfold ownB; simp only [k0, k1, k2, k3, k4, k5, k6]; rfl
                go_enter Tryz.func32, Tryz.ntmps32
                go_wp2_with fail
                go_ret
                exact ⟨by rw [HO.out]; rfl, rfl⟩
              | false =>
                cases k7 : (s.toList == [103, 105, 118, 101]) with
                | true =>
                  have HO : Hid (ownB s = true) := show _ = _ by unfold ownB; simp only [k0, k1, k2, k3, k4, k5, k6, k7]; rfl
                  go_enter Tryz.func32, Tryz.ntmps32
                  go_wp2_with fail
                  go_ret
                  exact ⟨by rw [HO.out]; rfl, rfl⟩
                | false =>
                  cases k8 : (s.toList == [98, 97, 99, 107]) with
                  | true =>
                    have HO : Hid (ownB s = true) := show _ = _ by unfold ownB; simp only [k0, k1, k2, k3, k4, k5, k6, k7, k8]; rfl
                    go_enter Tryz.func32, Tryz.ntmps32
                    go_wp2_with fail
                    go_ret
                    exact ⟨by rw [HO.out]; rfl, rfl⟩
                  | false =>
                    have HO : Hid (ownB s = false) := show _ = _ by unfold ownB; simp only [k0, k1, k2, k3, k4, k5, k6, k7, k8]; rfl
                    go_enter Tryz.func32, Tryz.ntmps32
                    go_wp2_with fail
                    go_ret
                    exact ⟨by rw [HO.out]; rfl, rfl⟩
/-- What an act of one guest is told, and what it sees behind it. -/
structure Mine (F : Nat → Option Fl) (N k : Nat) (f : Fl) (x : Ac) : Prop where
  ans : (flR f x (fDid F N x).1.1 (fDid F N x).1.2).1 = (fDid F N x).1
  nx : (fDid F N x).2 = setAt F k (some (flR f x (fDid F N x).1.1 (fDid F N x).1.2).2)
  ne : (fDid F N x).1.2 ≠ 3
  hb : (fDid F N x).1.2 = 0 → (x.kind.toList == [112, 108, 117, 103]) = true ∨ (x.kind.toList == [117, 110, 112, 108, 117, 103]) = true → 0 ≤ x.a ∧ x.a < 4
  hg : (fDid F N x).1.2 = 0 → (x.kind.toList == [103, 105, 118, 101]) = true ∨ (x.kind.toList == [98, 97, 99, 107]) = true → 0 ≤ x.a ∧ x.a < 16
theorem flAt_self {F : Nat → Option Fl} {k : Nat} {f : Fl} (h : F k = some f) : setAt F k (some f) = F := by
  funext i
  by_cases e : i = k
  · subst e; rw [setAt_same, h]
  · rw [setAt_other _ _ _ _ e]
theorem fWho_at {F : Nat → Option Fl} {k : Nat} {f : Fl} (h : F k = some f) (hk : k < 4) : fWho F k = 0 := by
  unfold fWho
  rw [if_neg (by omega), Int.toNat_natCast, h]
theorem fAt_ne3 (f : Fl) (a : Int) (wt : Bool) : (fAt f a wt).1.2 ≠ 3 := by
  have hp : ∀ z, pgCode z ≠ 3 := fun z => by unfold pgCode; repeat' split <;> omega
  unfold fAt fStep
  repeat' split
  all_goals first | exact hp _ | simp
theorem mine {F : Nat → Option Fl} {N k : Nat} {f : Fl} {x : Ac} (hF : F k = some f) (hk : k < 4) (hn : x.n = (k : Int)) (ho : ownB x.kind = true) : Mine F N k f x := by
  have hw := fWho_at hF hk
  have fact : ∀ r : Fl → (Int × Int) × Fl, fAct F x.n r = ((r f).1, setAt F k (some (r f).2)) := fun r => by
    unfold fAct
    rw [hn, hw, if_neg (by omega), Int.toNat_natCast, hF]
    rfl
  unfold ownB at ho
  simp only [Bool.or_eq_true] at ho
  rcases ho with (((((((k0 | k1) | k2) | k3) | k4) | k5) | k6) | k7) | k8
  · have hk : x.kind.toList = [108, 111, 97, 100] := by simpa using k0
    have tadd : (x.kind.toList == [97, 100, 100]) = false := by rw [hk]; rfl
    have tremove : (x.kind.toList == [114, 101, 109, 111, 118, 101]) = false := by rw [hk]; rfl
    have tplug : (x.kind.toList == [112, 108, 117, 103]) = false := by rw [hk]; rfl
    have tunplug : (x.kind.toList == [117, 110, 112, 108, 117, 103]) = false := by rw [hk]; rfl
    have tgive : (x.kind.toList == [103, 105, 118, 101]) = false := by rw [hk]; rfl
    have tback : (x.kind.toList == [98, 97, 99, 107]) = false := by rw [hk]; rfl
    have tstore : (x.kind.toList == [115, 116, 111, 114, 101]) = false := by rw [hk]; rfl
    have troot : (x.kind.toList == [114, 111, 111, 116]) = false := by rw [hk]; rfl
    have tforget : (x.kind.toList == [102, 111, 114, 103, 101, 116]) = false := by rw [hk]; rfl
    have tdrop : (x.kind.toList == [100, 114, 111, 112]) = false := by rw [hk]; rfl
    have tscan : (x.kind.toList == [115, 99, 97, 110]) = false := by rw [hk]; rfl
    have tscanall : (x.kind.toList == [115, 99, 97, 110, 97, 108, 108]) = false := by rw [hk]; rfl
    clear hk
    have hd : fDid F N x = fAct F x.n fun f => fLoad f x.a := by unfold fDid; simp only [tadd, tremove, tplug, tunplug, tgive, tback, k0, Bool.false_eq_true, if_false, if_true]
    have hr : ∀ n e, flR f x n e = fLoad f x.a := fun n e => by unfold flR; simp only [k0, if_true]
    rw [fact] at hd
    refine ⟨by rw [hd, hr], by rw [hd, hr], ?_, fun _ h => ?_, fun _ h => ?_⟩
    · rw [hd]
      exact by show (fLoad f x.a).1.2 ≠ 3; unfold fLoad; split <;> first | exact fAt_ne3 _ _ _ | simp
    · rcases h with h | h
      · rw [tplug] at h; cases h
      · rw [tunplug] at h; cases h
    · rcases h with h | h
      · rw [tgive] at h; cases h
      · rw [tback] at h; cases h
  · have hk : x.kind.toList = [115, 116, 111, 114, 101] := by simpa using k1
    have tadd : (x.kind.toList == [97, 100, 100]) = false := by rw [hk]; rfl
    have tremove : (x.kind.toList == [114, 101, 109, 111, 118, 101]) = false := by rw [hk]; rfl
    have tplug : (x.kind.toList == [112, 108, 117, 103]) = false := by rw [hk]; rfl
    have tunplug : (x.kind.toList == [117, 110, 112, 108, 117, 103]) = false := by rw [hk]; rfl
    have tgive : (x.kind.toList == [103, 105, 118, 101]) = false := by rw [hk]; rfl
    have tback : (x.kind.toList == [98, 97, 99, 107]) = false := by rw [hk]; rfl
    have tload : (x.kind.toList == [108, 111, 97, 100]) = false := by rw [hk]; rfl
    have troot : (x.kind.toList == [114, 111, 111, 116]) = false := by rw [hk]; rfl
    have tforget : (x.kind.toList == [102, 111, 114, 103, 101, 116]) = false := by rw [hk]; rfl
    have tdrop : (x.kind.toList == [100, 114, 111, 112]) = false := by rw [hk]; rfl
    have tscan : (x.kind.toList == [115, 99, 97, 110]) = false := by rw [hk]; rfl
    have tscanall : (x.kind.toList == [115, 99, 97, 110, 97, 108, 108]) = false := by rw [hk]; rfl
    clear hk
    have hd : fDid F N x = fAct F x.n fun f => ((0, (fStore f x.a x.v).1), (fStore f x.a x.v).2) := by unfold fDid; simp only [tadd, tremove, tplug, tunplug, tgive, tback, tload, k1, Bool.false_eq_true, if_false, if_true]
    have hr : ∀ n e, flR f x n e = ((0, (fStore f x.a x.v).1), (fStore f x.a x.v).2) := fun n e => by unfold flR; simp only [tload, k1, Bool.false_eq_true, if_false, if_true]
    rw [fact] at hd
    refine ⟨by rw [hd, hr], by rw [hd, hr], ?_, fun _ h => ?_, fun _ h => ?_⟩
    · rw [hd]
      exact by show (fStore f x.a x.v).1 ≠ 3; unfold fStore; split <;> first | exact fAt_ne3 _ _ _ | simp
    · rcases h with h | h
      · rw [tplug] at h; cases h
      · rw [tunplug] at h; cases h
    · rcases h with h | h
      · rw [tgive] at h; cases h
      · rw [tback] at h; cases h
  · have hk : x.kind.toList = [114, 111, 111, 116] := by simpa using k2
    have tadd : (x.kind.toList == [97, 100, 100]) = false := by rw [hk]; rfl
    have tremove : (x.kind.toList == [114, 101, 109, 111, 118, 101]) = false := by rw [hk]; rfl
    have tplug : (x.kind.toList == [112, 108, 117, 103]) = false := by rw [hk]; rfl
    have tunplug : (x.kind.toList == [117, 110, 112, 108, 117, 103]) = false := by rw [hk]; rfl
    have tgive : (x.kind.toList == [103, 105, 118, 101]) = false := by rw [hk]; rfl
    have tback : (x.kind.toList == [98, 97, 99, 107]) = false := by rw [hk]; rfl
    have tload : (x.kind.toList == [108, 111, 97, 100]) = false := by rw [hk]; rfl
    have tstore : (x.kind.toList == [115, 116, 111, 114, 101]) = false := by rw [hk]; rfl
    have tforget : (x.kind.toList == [102, 111, 114, 103, 101, 116]) = false := by rw [hk]; rfl
    have tdrop : (x.kind.toList == [100, 114, 111, 112]) = false := by rw [hk]; rfl
    have tscan : (x.kind.toList == [115, 99, 97, 110]) = false := by rw [hk]; rfl
    have tscanall : (x.kind.toList == [115, 99, 97, 110, 97, 108, 108]) = false := by rw [hk]; rfl
    clear hk
    have hd : fDid F N x = fAct F x.n fun f => ((0, (fRoot f x.a).1), (fRoot f x.a).2) := by unfold fDid; simp only [tadd, tremove, tplug, tunplug, tgive, tback, tload, tstore, k2, Bool.false_eq_true, if_false, if_true]
    have hr : ∀ n e, flR f x n e = ((0, (fRoot f x.a).1), (fRoot f x.a).2) := fun n e => by unfold flR; simp only [tload, tstore, k2, Bool.false_eq_true, if_false, if_true]
    rw [fact] at hd
    refine ⟨by rw [hd, hr], by rw [hd, hr], ?_, fun _ h => ?_, fun _ h => ?_⟩
    · rw [hd]
      exact by show (fRoot f x.a).1 ≠ 3; unfold fRoot; split <;> simp
    · rcases h with h | h
      · rw [tplug] at h; cases h
      · rw [tunplug] at h; cases h
    · rcases h with h | h
      · rw [tgive] at h; cases h
      · rw [tback] at h; cases h
  · have hk : x.kind.toList = [102, 111, 114, 103, 101, 116] := by simpa using k3
    have tadd : (x.kind.toList == [97, 100, 100]) = false := by rw [hk]; rfl
    have tremove : (x.kind.toList == [114, 101, 109, 111, 118, 101]) = false := by rw [hk]; rfl
    have tplug : (x.kind.toList == [112, 108, 117, 103]) = false := by rw [hk]; rfl
    have tunplug : (x.kind.toList == [117, 110, 112, 108, 117, 103]) = false := by rw [hk]; rfl
    have tgive : (x.kind.toList == [103, 105, 118, 101]) = false := by rw [hk]; rfl
    have tback : (x.kind.toList == [98, 97, 99, 107]) = false := by rw [hk]; rfl
    have tload : (x.kind.toList == [108, 111, 97, 100]) = false := by rw [hk]; rfl
    have tstore : (x.kind.toList == [115, 116, 111, 114, 101]) = false := by rw [hk]; rfl
    have troot : (x.kind.toList == [114, 111, 111, 116]) = false := by rw [hk]; rfl
    have tdrop : (x.kind.toList == [100, 114, 111, 112]) = false := by rw [hk]; rfl
    have tscan : (x.kind.toList == [115, 99, 97, 110]) = false := by rw [hk]; rfl
    have tscanall : (x.kind.toList == [115, 99, 97, 110, 97, 108, 108]) = false := by rw [hk]; rfl
    clear hk
    have hd : fDid F N x = fAct F x.n fun f => ((0, (fForget f x.a).1), (fForget f x.a).2) := by unfold fDid; simp only [tadd, tremove, tplug, tunplug, tgive, tback, tload, tstore, troot, k3, Bool.false_eq_true, if_false, if_true]
    have hr : ∀ n e, flR f x n e = ((0, (fForget f x.a).1), (fForget f x.a).2) := fun n e => by unfold flR; simp only [tload, tstore, troot, k3, Bool.false_eq_true, if_false, if_true]
    rw [fact] at hd
    refine ⟨by rw [hd, hr], by rw [hd, hr], ?_, fun _ h => ?_, fun _ h => ?_⟩
    · rw [hd]
      exact by show (fForget f x.a).1 ≠ 3; unfold fForget; split <;> simp
    · rcases h with h | h
      · rw [tplug] at h; cases h
      · rw [tunplug] at h; cases h
    · rcases h with h | h
      · rw [tgive] at h; cases h
      · rw [tback] at h; cases h
  · have hk : x.kind.toList = [100, 114, 111, 112] := by simpa using k4
    have tadd : (x.kind.toList == [97, 100, 100]) = false := by rw [hk]; rfl
    have tremove : (x.kind.toList == [114, 101, 109, 111, 118, 101]) = false := by rw [hk]; rfl
    have tplug : (x.kind.toList == [112, 108, 117, 103]) = false := by rw [hk]; rfl
    have tunplug : (x.kind.toList == [117, 110, 112, 108, 117, 103]) = false := by rw [hk]; rfl
    have tgive : (x.kind.toList == [103, 105, 118, 101]) = false := by rw [hk]; rfl
    have tback : (x.kind.toList == [98, 97, 99, 107]) = false := by rw [hk]; rfl
    have tload : (x.kind.toList == [108, 111, 97, 100]) = false := by rw [hk]; rfl
    have tstore : (x.kind.toList == [115, 116, 111, 114, 101]) = false := by rw [hk]; rfl
    have troot : (x.kind.toList == [114, 111, 111, 116]) = false := by rw [hk]; rfl
    have tforget : (x.kind.toList == [102, 111, 114, 103, 101, 116]) = false := by rw [hk]; rfl
    have tscan : (x.kind.toList == [115, 99, 97, 110]) = false := by rw [hk]; rfl
    have tscanall : (x.kind.toList == [115, 99, 97, 110, 97, 108, 108]) = false := by rw [hk]; rfl
    clear hk
    have hd : fDid F N x = fAct F x.n fun f => ((0, (fDrop f x.a).1), (fDrop f x.a).2) := by unfold fDid; simp only [tadd, tremove, tplug, tunplug, tgive, tback, tload, tstore, troot, tforget, k4, Bool.false_eq_true, if_false, if_true]
    have hr : ∀ n e, flR f x n e = ((0, (fDrop f x.a).1), (fDrop f x.a).2) := fun n e => by unfold flR; simp only [tload, tstore, troot, tforget, k4, Bool.false_eq_true, if_false, if_true]
    rw [fact] at hd
    refine ⟨by rw [hd, hr], by rw [hd, hr], ?_, fun _ h => ?_, fun _ h => ?_⟩
    · rw [hd]
      exact by show (fDrop f x.a).1 ≠ 3; unfold fDrop; split <;> simp
    · rcases h with h | h
      · rw [tplug] at h; cases h
      · rw [tunplug] at h; cases h
    · rcases h with h | h
      · rw [tgive] at h; cases h
      · rw [tback] at h; cases h
  · have hk : x.kind.toList = [112, 108, 117, 103] := by simpa using k5
    have tadd : (x.kind.toList == [97, 100, 100]) = false := by rw [hk]; rfl
    have tremove : (x.kind.toList == [114, 101, 109, 111, 118, 101]) = false := by rw [hk]; rfl
    have tunplug : (x.kind.toList == [117, 110, 112, 108, 117, 103]) = false := by rw [hk]; rfl
    have tgive : (x.kind.toList == [103, 105, 118, 101]) = false := by rw [hk]; rfl
    have tback : (x.kind.toList == [98, 97, 99, 107]) = false := by rw [hk]; rfl
    have tload : (x.kind.toList == [108, 111, 97, 100]) = false := by rw [hk]; rfl
    have tstore : (x.kind.toList == [115, 116, 111, 114, 101]) = false := by rw [hk]; rfl
    have troot : (x.kind.toList == [114, 111, 111, 116]) = false := by rw [hk]; rfl
    have tforget : (x.kind.toList == [102, 111, 114, 103, 101, 116]) = false := by rw [hk]; rfl
    have tdrop : (x.kind.toList == [100, 114, 111, 112]) = false := by rw [hk]; rfl
    have tscan : (x.kind.toList == [115, 99, 97, 110]) = false := by rw [hk]; rfl
    have tscanall : (x.kind.toList == [115, 99, 97, 110, 97, 108, 108]) = false := by rw [hk]; rfl
    clear hk
    have hd : fDid F N x = ((0, cPlug F N x.n x.a), if cPlug F N x.n x.a = 0 then setAt F x.n.toNat ((F x.n.toNat).map fun f => fTurnTo f x.a.toNat 1 4) else F) := by unfold fDid; simp only [tadd, tremove, k5, Bool.false_eq_true, if_false, if_true]
    have hr : ∀ n e, flR f x n e = ((n, e), if e = 0 then fTurnTo f x.a.toNat 1 4 else f) := fun n e => by unfold flR; simp only [tload, tstore, troot, tforget, tdrop, k5, Bool.false_eq_true, if_false, if_true]
    have hc : cPlug F N x.n x.a ≠ 3 ∧ (cPlug F N x.n x.a = 0 → 0 ≤ x.a ∧ x.a < 4) := by
      unfold cPlug
      rw [show fWho F x.n = 0 by rw [hn]; exact hw]
      constructor
      · repeat' split
        all_goals omega
      · intro h
        repeat' split at h
        all_goals omega
    refine ⟨by rw [hd, hr], ?_, by rw [hd]; exact hc.1, fun h0 h => ?_, fun h0 h => ?_⟩
    · rw [hd, hr]
      simp only
      rw [hn, Int.toNat_natCast, hF]
      split
      · rfl
      · exact (flAt_self hF).symm
    · rw [hd] at h0; exact hc.2 h0
    · rcases h with h | h
      · rw [tgive] at h; cases h
      · rw [tback] at h; cases h
  · have hk : x.kind.toList = [117, 110, 112, 108, 117, 103] := by simpa using k6
    have tadd : (x.kind.toList == [97, 100, 100]) = false := by rw [hk]; rfl
    have tremove : (x.kind.toList == [114, 101, 109, 111, 118, 101]) = false := by rw [hk]; rfl
    have tplug : (x.kind.toList == [112, 108, 117, 103]) = false := by rw [hk]; rfl
    have tgive : (x.kind.toList == [103, 105, 118, 101]) = false := by rw [hk]; rfl
    have tback : (x.kind.toList == [98, 97, 99, 107]) = false := by rw [hk]; rfl
    have tload : (x.kind.toList == [108, 111, 97, 100]) = false := by rw [hk]; rfl
    have tstore : (x.kind.toList == [115, 116, 111, 114, 101]) = false := by rw [hk]; rfl
    have troot : (x.kind.toList == [114, 111, 111, 116]) = false := by rw [hk]; rfl
    have tforget : (x.kind.toList == [102, 111, 114, 103, 101, 116]) = false := by rw [hk]; rfl
    have tdrop : (x.kind.toList == [100, 114, 111, 112]) = false := by rw [hk]; rfl
    have tscan : (x.kind.toList == [115, 99, 97, 110]) = false := by rw [hk]; rfl
    have tscanall : (x.kind.toList == [115, 99, 97, 110, 97, 108, 108]) = false := by rw [hk]; rfl
    clear hk
    have hd : fDid F N x = ((0, cUnplug F x.n x.a), if cUnplug F x.n x.a = 0 then setAt F x.n.toNat ((F x.n.toNat).map fun f => fTurnTo f x.a.toNat 0 4) else F) := by unfold fDid; simp only [tadd, tremove, tplug, k6, Bool.false_eq_true, if_false, if_true]
    have hr : ∀ n e, flR f x n e = ((n, e), if e = 0 then fTurnTo f x.a.toNat 0 4 else f) := fun n e => by unfold flR; simp only [tload, tstore, troot, tforget, tdrop, tplug, k6, Bool.false_eq_true, if_false, if_true]
    have hc : cUnplug F x.n x.a ≠ 3 ∧ (cUnplug F x.n x.a = 0 → 0 ≤ x.a ∧ x.a < 4) := by
      unfold cUnplug
      rw [show fWho F x.n = 0 by rw [hn]; exact hw]
      constructor
      · repeat' split
        all_goals omega
      · intro h
        repeat' split at h
        all_goals omega
    refine ⟨by rw [hd, hr], ?_, by rw [hd]; exact hc.1, fun h0 h => ?_, fun h0 h => ?_⟩
    · rw [hd, hr]
      simp only
      rw [hn, Int.toNat_natCast, hF]
      split
      · rfl
      · exact (flAt_self hF).symm
    · rw [hd] at h0; exact hc.2 h0
    · rcases h with h | h
      · rw [tgive] at h; cases h
      · rw [tback] at h; cases h
  · have hk : x.kind.toList = [103, 105, 118, 101] := by simpa using k7
    have tadd : (x.kind.toList == [97, 100, 100]) = false := by rw [hk]; rfl
    have tremove : (x.kind.toList == [114, 101, 109, 111, 118, 101]) = false := by rw [hk]; rfl
    have tplug : (x.kind.toList == [112, 108, 117, 103]) = false := by rw [hk]; rfl
    have tunplug : (x.kind.toList == [117, 110, 112, 108, 117, 103]) = false := by rw [hk]; rfl
    have tback : (x.kind.toList == [98, 97, 99, 107]) = false := by rw [hk]; rfl
    have tload : (x.kind.toList == [108, 111, 97, 100]) = false := by rw [hk]; rfl
    have tstore : (x.kind.toList == [115, 116, 111, 114, 101]) = false := by rw [hk]; rfl
    have troot : (x.kind.toList == [114, 111, 111, 116]) = false := by rw [hk]; rfl
    have tforget : (x.kind.toList == [102, 111, 114, 103, 101, 116]) = false := by rw [hk]; rfl
    have tdrop : (x.kind.toList == [100, 114, 111, 112]) = false := by rw [hk]; rfl
    have tscan : (x.kind.toList == [115, 99, 97, 110]) = false := by rw [hk]; rfl
    have tscanall : (x.kind.toList == [115, 99, 97, 110, 97, 108, 108]) = false := by rw [hk]; rfl
    clear hk
    have hd : fDid F N x = ((0, cGive F N x.n x.a false), if cGive F N x.n x.a false = 0 then setAt F x.n.toNat ((F x.n.toNat).map fun f => fTurn f x.a.toNat 2) else F) := by unfold fDid; simp only [tadd, tremove, tplug, tunplug, k7, Bool.false_eq_true, if_false, if_true]
    have hr : ∀ n e, flR f x n e = ((n, e), if e = 0 then fTurn f x.a.toNat 2 else f) := fun n e => by unfold flR; simp only [tload, tstore, troot, tforget, tdrop, tplug, tunplug, k7, Bool.false_eq_true, if_false, if_true]
    have hc : cGive F N x.n x.a false ≠ 3 ∧ (cGive F N x.n x.a false = 0 → 0 ≤ x.a ∧ x.a < 16) := by
      unfold cGive
      rw [show fWho F x.n = 0 by rw [hn]; exact hw]
      cases hq : onB x.a with
      | true =>
        have := (onB_iff x.a).1 hq
        constructor
        · repeat' split
          all_goals omega
        · intro _; omega
      | false =>
        rw [if_neg (show ¬ (0 : Int) < 0 by omega)]
        simp only [Bool.false_eq_true, if_false]
        exact ⟨by omega, fun h => by omega⟩
    refine ⟨by rw [hd, hr], ?_, by rw [hd]; exact hc.1, fun h0 h => ?_, fun h0 h => ?_⟩
    · rw [hd, hr]
      simp only
      rw [hn, Int.toNat_natCast, hF]
      split
      · rfl
      · exact (flAt_self hF).symm
    · rcases h with h | h
      · rw [tplug] at h; cases h
      · rw [tunplug] at h; cases h
    · rw [hd] at h0; exact hc.2 h0
  · have hk : x.kind.toList = [98, 97, 99, 107] := by simpa using k8
    have tadd : (x.kind.toList == [97, 100, 100]) = false := by rw [hk]; rfl
    have tremove : (x.kind.toList == [114, 101, 109, 111, 118, 101]) = false := by rw [hk]; rfl
    have tplug : (x.kind.toList == [112, 108, 117, 103]) = false := by rw [hk]; rfl
    have tunplug : (x.kind.toList == [117, 110, 112, 108, 117, 103]) = false := by rw [hk]; rfl
    have tgive : (x.kind.toList == [103, 105, 118, 101]) = false := by rw [hk]; rfl
    have tload : (x.kind.toList == [108, 111, 97, 100]) = false := by rw [hk]; rfl
    have tstore : (x.kind.toList == [115, 116, 111, 114, 101]) = false := by rw [hk]; rfl
    have troot : (x.kind.toList == [114, 111, 111, 116]) = false := by rw [hk]; rfl
    have tforget : (x.kind.toList == [102, 111, 114, 103, 101, 116]) = false := by rw [hk]; rfl
    have tdrop : (x.kind.toList == [100, 114, 111, 112]) = false := by rw [hk]; rfl
    have tscan : (x.kind.toList == [115, 99, 97, 110]) = false := by rw [hk]; rfl
    have tscanall : (x.kind.toList == [115, 99, 97, 110, 97, 108, 108]) = false := by rw [hk]; rfl
    clear hk
    have hd : fDid F N x = ((0, cGive F N x.n x.a true), if cGive F N x.n x.a true = 0 then setAt F x.n.toNat ((F x.n.toNat).map fun f => fTurn f x.a.toNat 1) else F) := by unfold fDid; simp only [tadd, tremove, tplug, tunplug, tgive, k8, Bool.false_eq_true, if_false, if_true]
    have hr : ∀ n e, flR f x n e = ((n, e), if e = 0 then fTurn f x.a.toNat 1 else f) := fun n e => by unfold flR; simp only [tload, tstore, troot, tforget, tdrop, tplug, tunplug, tgive, k8, Bool.false_eq_true, if_false, if_true]
    have hc : cGive F N x.n x.a true ≠ 3 ∧ (cGive F N x.n x.a true = 0 → 0 ≤ x.a ∧ x.a < 16) := by
      unfold cGive
      rw [show fWho F x.n = 0 by rw [hn]; exact hw]
      cases hq : onB x.a with
      | true =>
        have := (onB_iff x.a).1 hq
        constructor
        · repeat' split
          all_goals omega
        · intro _; omega
      | false =>
        rw [if_neg (show ¬ (0 : Int) < 0 by omega)]
        simp only [Bool.false_eq_true, if_false]
        exact ⟨by omega, fun h => by omega⟩
    refine ⟨by rw [hd, hr], ?_, by rw [hd]; exact hc.1, fun h0 h => ?_, fun h0 h => ?_⟩
    · rw [hd, hr]
      simp only
      rw [hn, Int.toNat_natCast, hF]
      split
      · rfl
      · exact (flAt_self hF).symm
    · rcases h with h | h
      · rw [tplug] at h; cases h
      · rw [tunplug] at h; cases h
    · rw [hd] at h0; exact hc.2 h0
end Go.Proofs.YtadpibcgjgcjhaaGreat
/- TopFlat: the flat memories in memory. -/
namespace Go.Proofs.YtadpibcgjgcjhaaGreat
open Go.ChangeShapes Go.WideShapes Go.ChangeAt Go.RowKit
set_option maxRecDepth 100000

/-- No guest: nothing turns. -/
theorem nobody {F : Nat → Option Fl} {N : Nat} {x : Ac} (hw : 0 < fWho F x.n) (ho : ownB x.kind = true) : (fDid F N x).2 = F := by
  have fact : ∀ r : Fl → (Int × Int) × Fl, (fAct F x.n r).2 = F := fun r => by
    unfold fAct
    rw [if_pos hw]
  unfold ownB at ho
  simp only [Bool.or_eq_true] at ho
  rcases ho with (((((((k0 | k1) | k2) | k3) | k4) | k5) | k6) | k7) | k8
  · have hk : x.kind.toList = [108, 111, 97, 100] := by simpa using k0
    have tadd : (x.kind.toList == [97, 100, 100]) = false := by rw [hk]; rfl
    have tremove : (x.kind.toList == [114, 101, 109, 111, 118, 101]) = false := by rw [hk]; rfl
    have tplug : (x.kind.toList == [112, 108, 117, 103]) = false := by rw [hk]; rfl
    have tunplug : (x.kind.toList == [117, 110, 112, 108, 117, 103]) = false := by rw [hk]; rfl
    have tgive : (x.kind.toList == [103, 105, 118, 101]) = false := by rw [hk]; rfl
    have tback : (x.kind.toList == [98, 97, 99, 107]) = false := by rw [hk]; rfl
    have hd : fDid F N x = fAct F x.n fun f => fLoad f x.a := by unfold fDid; simp only [tadd, tremove, tplug, tunplug, tgive, tback, k0, Bool.false_eq_true, if_false, if_true]
    rw [hd]
    exact fact _
  · have hk : x.kind.toList = [115, 116, 111, 114, 101] := by simpa using k1
    have tadd : (x.kind.toList == [97, 100, 100]) = false := by rw [hk]; rfl
    have tremove : (x.kind.toList == [114, 101, 109, 111, 118, 101]) = false := by rw [hk]; rfl
    have tplug : (x.kind.toList == [112, 108, 117, 103]) = false := by rw [hk]; rfl
    have tunplug : (x.kind.toList == [117, 110, 112, 108, 117, 103]) = false := by rw [hk]; rfl
    have tgive : (x.kind.toList == [103, 105, 118, 101]) = false := by rw [hk]; rfl
    have tback : (x.kind.toList == [98, 97, 99, 107]) = false := by rw [hk]; rfl
    have tload : (x.kind.toList == [108, 111, 97, 100]) = false := by rw [hk]; rfl
    have hd : fDid F N x = fAct F x.n fun f => ((0, (fStore f x.a x.v).1), (fStore f x.a x.v).2) := by unfold fDid; simp only [tadd, tremove, tplug, tunplug, tgive, tback, tload, k1, Bool.false_eq_true, if_false, if_true]
    rw [hd]
    exact fact _
  · have hk : x.kind.toList = [114, 111, 111, 116] := by simpa using k2
    have tadd : (x.kind.toList == [97, 100, 100]) = false := by rw [hk]; rfl
    have tremove : (x.kind.toList == [114, 101, 109, 111, 118, 101]) = false := by rw [hk]; rfl
    have tplug : (x.kind.toList == [112, 108, 117, 103]) = false := by rw [hk]; rfl
    have tunplug : (x.kind.toList == [117, 110, 112, 108, 117, 103]) = false := by rw [hk]; rfl
    have tgive : (x.kind.toList == [103, 105, 118, 101]) = false := by rw [hk]; rfl
    have tback : (x.kind.toList == [98, 97, 99, 107]) = false := by rw [hk]; rfl
    have tload : (x.kind.toList == [108, 111, 97, 100]) = false := by rw [hk]; rfl
    have tstore : (x.kind.toList == [115, 116, 111, 114, 101]) = false := by rw [hk]; rfl
    have hd : fDid F N x = fAct F x.n fun f => ((0, (fRoot f x.a).1), (fRoot f x.a).2) := by unfold fDid; simp only [tadd, tremove, tplug, tunplug, tgive, tback, tload, tstore, k2, Bool.false_eq_true, if_false, if_true]
    rw [hd]
    exact fact _
  · have hk : x.kind.toList = [102, 111, 114, 103, 101, 116] := by simpa using k3
    have tadd : (x.kind.toList == [97, 100, 100]) = false := by rw [hk]; rfl
    have tremove : (x.kind.toList == [114, 101, 109, 111, 118, 101]) = false := by rw [hk]; rfl
    have tplug : (x.kind.toList == [112, 108, 117, 103]) = false := by rw [hk]; rfl
    have tunplug : (x.kind.toList == [117, 110, 112, 108, 117, 103]) = false := by rw [hk]; rfl
    have tgive : (x.kind.toList == [103, 105, 118, 101]) = false := by rw [hk]; rfl
    have tback : (x.kind.toList == [98, 97, 99, 107]) = false := by rw [hk]; rfl
    have tload : (x.kind.toList == [108, 111, 97, 100]) = false := by rw [hk]; rfl
    have tstore : (x.kind.toList == [115, 116, 111, 114, 101]) = false := by rw [hk]; rfl
    have troot : (x.kind.toList == [114, 111, 111, 116]) = false := by rw [hk]; rfl
    have hd : fDid F N x = fAct F x.n fun f => ((0, (fForget f x.a).1), (fForget f x.a).2) := by unfold fDid; simp only [tadd, tremove, tplug, tunplug, tgive, tback, tload, tstore, troot, k3, Bool.false_eq_true, if_false, if_true]
    rw [hd]
    exact fact _
  · have hk : x.kind.toList = [100, 114, 111, 112] := by simpa using k4
    have tadd : (x.kind.toList == [97, 100, 100]) = false := by rw [hk]; rfl
    have tremove : (x.kind.toList == [114, 101, 109, 111, 118, 101]) = false := by rw [hk]; rfl
    have tplug : (x.kind.toList == [112, 108, 117, 103]) = false := by rw [hk]; rfl
    have tunplug : (x.kind.toList == [117, 110, 112, 108, 117, 103]) = false := by rw [hk]; rfl
    have tgive : (x.kind.toList == [103, 105, 118, 101]) = false := by rw [hk]; rfl
    have tback : (x.kind.toList == [98, 97, 99, 107]) = false := by rw [hk]; rfl
    have tload : (x.kind.toList == [108, 111, 97, 100]) = false := by rw [hk]; rfl
    have tstore : (x.kind.toList == [115, 116, 111, 114, 101]) = false := by rw [hk]; rfl
    have troot : (x.kind.toList == [114, 111, 111, 116]) = false := by rw [hk]; rfl
    have tforget : (x.kind.toList == [102, 111, 114, 103, 101, 116]) = false := by rw [hk]; rfl
    have hd : fDid F N x = fAct F x.n fun f => ((0, (fDrop f x.a).1), (fDrop f x.a).2) := by unfold fDid; simp only [tadd, tremove, tplug, tunplug, tgive, tback, tload, tstore, troot, tforget, k4, Bool.false_eq_true, if_false, if_true]
    rw [hd]
    exact fact _
  · have hk : x.kind.toList = [112, 108, 117, 103] := by simpa using k5
    have tadd : (x.kind.toList == [97, 100, 100]) = false := by rw [hk]; rfl
    have tremove : (x.kind.toList == [114, 101, 109, 111, 118, 101]) = false := by rw [hk]; rfl
    have hd : fDid F N x = ((0, cPlug F N x.n x.a), if cPlug F N x.n x.a = 0 then setAt F x.n.toNat ((F x.n.toNat).map fun f => fTurnTo f x.a.toNat 1 4) else F) := by unfold fDid; simp only [tadd, tremove, k5, Bool.false_eq_true, if_false, if_true]
    rw [hd]
    have hc : cPlug F N x.n x.a = fWho F x.n := by unfold cPlug; rw [if_pos hw]
    simp only
    rw [if_neg (by rw [hc]; omega)]
  · have hk : x.kind.toList = [117, 110, 112, 108, 117, 103] := by simpa using k6
    have tadd : (x.kind.toList == [97, 100, 100]) = false := by rw [hk]; rfl
    have tremove : (x.kind.toList == [114, 101, 109, 111, 118, 101]) = false := by rw [hk]; rfl
    have tplug : (x.kind.toList == [112, 108, 117, 103]) = false := by rw [hk]; rfl
    have hd : fDid F N x = ((0, cUnplug F x.n x.a), if cUnplug F x.n x.a = 0 then setAt F x.n.toNat ((F x.n.toNat).map fun f => fTurnTo f x.a.toNat 0 4) else F) := by unfold fDid; simp only [tadd, tremove, tplug, k6, Bool.false_eq_true, if_false, if_true]
    rw [hd]
    have hc : cUnplug F x.n x.a = fWho F x.n := by unfold cUnplug; rw [if_pos hw]
    simp only
    rw [if_neg (by rw [hc]; omega)]
  · have hk : x.kind.toList = [103, 105, 118, 101] := by simpa using k7
    have tadd : (x.kind.toList == [97, 100, 100]) = false := by rw [hk]; rfl
    have tremove : (x.kind.toList == [114, 101, 109, 111, 118, 101]) = false := by rw [hk]; rfl
    have tplug : (x.kind.toList == [112, 108, 117, 103]) = false := by rw [hk]; rfl
    have tunplug : (x.kind.toList == [117, 110, 112, 108, 117, 103]) = false := by rw [hk]; rfl
    have hd : fDid F N x = ((0, cGive F N x.n x.a false), if cGive F N x.n x.a false = 0 then setAt F x.n.toNat ((F x.n.toNat).map fun f => fTurn f x.a.toNat 2) else F) := by unfold fDid; simp only [tadd, tremove, tplug, tunplug, k7, Bool.false_eq_true, if_false, if_true]
    rw [hd]
    have hc : cGive F N x.n x.a false = fWho F x.n := by unfold cGive; rw [if_pos hw]
    simp only
    rw [if_neg (by rw [hc]; omega)]
  · have hk : x.kind.toList = [98, 97, 99, 107] := by simpa using k8
    have tadd : (x.kind.toList == [97, 100, 100]) = false := by rw [hk]; rfl
    have tremove : (x.kind.toList == [114, 101, 109, 111, 118, 101]) = false := by rw [hk]; rfl
    have tplug : (x.kind.toList == [112, 108, 117, 103]) = false := by rw [hk]; rfl
    have tunplug : (x.kind.toList == [117, 110, 112, 108, 117, 103]) = false := by rw [hk]; rfl
    have tgive : (x.kind.toList == [103, 105, 118, 101]) = false := by rw [hk]; rfl
    have hd : fDid F N x = ((0, cGive F N x.n x.a true), if cGive F N x.n x.a true = 0 then setAt F x.n.toNat ((F x.n.toNat).map fun f => fTurn f x.a.toNat 1) else F) := by unfold fDid; simp only [tadd, tremove, tplug, tunplug, tgive, k8, Bool.false_eq_true, if_false, if_true]
    rw [hd]
    have hc : cGive F N x.n x.a true = fWho F x.n := by unfold cGive; rw [if_pos hw]
    simp only
    rw [if_neg (by rw [hc]; omega)]
theorem other {F : Nat → Option Fl} {N : Nat} {x : Ac} (h1 : (x.kind.toList == [97, 100, 100]) = false) (h2 : (x.kind.toList == [114, 101, 109, 111, 118, 101]) = false) (ho : ownB x.kind = false) : (fDid F N x).2 = F := by
  unfold ownB at ho
  simp only [Bool.or_eq_false_iff] at ho
  obtain ⟨⟨⟨⟨⟨⟨⟨⟨k0, k1⟩, k2⟩, k3⟩, k4⟩, k5⟩, k6⟩, k7⟩, k8⟩ := ho
  unfold fDid
  simp only [h1, h2, k5, k6, k7, k8, k0, k1, k2, k3, k4, Bool.false_eq_true, if_false]
  by_cases ka : (x.kind.toList == [115, 99, 97, 110]) = true
  · rw [if_pos ka]
  · rw [if_neg ka]
    by_cases kb : (x.kind.toList == [115, 99, 97, 110, 97, 108, 108]) = true
    · rw [if_pos kb]
    · rw [if_neg kb]
theorem did_add {F : Nat → Option Fl} {N : Nat} {x : Ac} (h1 : (x.kind.toList == [97, 100, 100]) = true) : fDid F N x = (cAdd F, if (cAdd F).2 = 0 then setAt F (cAdd F).1.toNat (some fl0) else F) := by
  unfold fDid
  simp only [h1, if_true]
theorem did_remove {F : Nat → Option Fl} {N : Nat} {x : Ac} (h1 : (x.kind.toList == [114, 101, 109, 111, 118, 101]) = true) : fDid F N x = ((0, fWho F x.n), if fWho F x.n = 0 then setAt F x.n.toNat none else F) := by
  have hk : x.kind.toList = [114, 101, 109, 111, 118, 101] := by simpa using h1
  have t : (x.kind.toList == [97, 100, 100]) = false := by rw [hk]; rfl
  unfold fDid
  simp only [t, h1, Bool.false_eq_true, if_false, if_true]
theorem cAdd_cases (F : Nat → Option Fl) : (∃ j : Nat, j < 4 ∧ F j = none ∧ cAdd F = ((j : Int), 0)) ∨ cAdd F = (0, 4) := by
  unfold cAdd
  cases h0 : F 0 with
  | none => exact Or.inl ⟨0, by omega, h0, rfl⟩
  | some a =>
    cases h1 : F 1 with
    | none => exact Or.inl ⟨1, by omega, h1, rfl⟩
    | some b =>
      cases h2 : F 2 with
      | none => exact Or.inl ⟨2, by omega, h2, rfl⟩
      | some c =>
        cases h3 : F 3 with
        | none => exact Or.inl ⟨3, by omega, h3, rfl⟩
        | some d => exact Or.inr rfl
theorem fWho_cases (F : Nat → Option Fl) (n : Int) : (n < 0 ∧ 0 < fWho F n) ∨ (3 < n ∧ 0 < fWho F n) ∨ (∃ k : Nat, n = (k : Int) ∧ k < 4 ∧ F k = none ∧ 0 < fWho F n) ∨ ∃ (k : Nat) (f : Fl), n = (k : Int) ∧ k < 4 ∧ F k = some f ∧ fWho F n = 0 := by
  by_cases h0 : n < 0
  · exact Or.inl ⟨h0, by unfold fWho; rw [if_pos (Or.inl h0)]; omega⟩
  · by_cases h3 : 3 < n
    · exact Or.inr (Or.inl ⟨h3, by unfold fWho; rw [if_pos (Or.inr h3)]; omega⟩)
    · obtain ⟨k, rfl⟩ := Int.eq_ofNat_of_zero_le (show 0 ≤ n by omega)
      cases hx : F k with
      | none => exact Or.inr (Or.inr (Or.inl ⟨k, rfl, by omega, hx, by unfold fWho; rw [if_neg (by omega), Int.toNat_natCast, hx]; simp⟩))
      | some f => exact Or.inr (Or.inr (Or.inr ⟨k, f, rfl, by omega, hx, fWho_at hx (by omega)⟩))
/-- A pointer to a flat memory, or none. -/
def fPtr (o : Option Fl) (b : Nat) : Value := match o with
  | some _ => .pointer (some ⟨b, 0, none⟩)
  | none => .pointer none
/-- The law's flat memories: the array qf, their blocks B, their lists V. -/
structure FA (W w : World) (qf : Nat) (B : Nat → Nat) (V : Nat → Value) (F : Nat → Option Fl) : Prop where
  c : ∀ i, i < 4 → w.cell? ⟨qf, i, none⟩ = some (fPtr (F i) (B i))
  z : ∀ o, w.frozen? ⟨qf, o, none⟩ = false
  fl : ∀ i f, i < 4 → F i = some f → RFl w (B i) (V i) f
  nx : ∀ i j f g, i < 4 → j < 4 → F i = some f → F j = some g → i ≠ j → ∀ k, FOwn (B i) (V i) k → ¬ FOwn (B j) (V j) k
  nq : ∀ i f, i < 4 → F i = some f → ¬ FOwn (B i) (V i) qf
  new : ∀ i f k, i < 4 → F i = some f → FOwn (B i) (V i) k → W.heap.size ≤ k
  q : W.heap.size ≤ qf
/-- Their blocks. -/
def AOwn (qf : Nat) (B : Nat → Nat) (V : Nat → Value) (F : Nat → Option Fl) (k : Nat) : Prop := k = qf ∨ ∃ i f, i < 4 ∧ F i = some f ∧ FOwn (B i) (V i) k
variable {W w w' : World} {qf : Nat} {B : Nat → Nat} {V : Nat → Value} {F : Nat → Option Fl}
theorem FA.lt (a : FA W w qf B V F) {k : Nat} (hk : AOwn qf B V F k) : k < w.heap.size := by
  rcases hk with rfl | ⟨i, f, hi, hf, hk⟩
  · exact World.block_lt_of_cell? w _ (a.c 0 (by omega))
  · exact (a.fl i f hi hf).lt hk
theorem FA.old (a : FA W w qf B V F) {k : Nat} (hk : AOwn qf B V F k) : W.heap.size ≤ k := by
  rcases hk with rfl | ⟨i, f, hi, hf, hk⟩
  · exact a.q
  · exact a.new i f k hi hf hk
theorem FA.upd {S : Nat → Prop} (a : FA W w qf B V F) (u : Upd S w w') (hS : ∀ k, AOwn qf B V F k → ¬ S k) : FA W w' qf B V F :=
  ⟨fun i hi => u.cell (a.c i hi) (hS _ (Or.inl rfl)), fun o => by rw [World.frozen?_of_block (w := w) (u.block qf (a.lt (Or.inl rfl)) (hS _ (Or.inl rfl)))]; exact a.z o,
   fun i f hi hf => (a.fl i f hi hf).upd u (fun k hk => hS k (Or.inr ⟨i, f, hi, hf, hk⟩)), a.nx, a.nq, a.new, a.q⟩
/-- One guest's flat memory turned. -/
theorem FA.step {k : Nat} {f f' : Fl} (a : FA W w qf B V F) (hk : k < 4) (hf : F k = some f) (hW : W.heap.size ≤ w.heap.size) (p : FlPost w (B k) (V k) f' w') : ∃ V', FA W w' qf B V' (setAt F k (some f')) ∧ (∀ j, AOwn qf B V' (setAt F k (some f')) j → AOwn qf B V F j ∨ w.heap.size ≤ j) := by
  obtain ⟨v', r, hn⟩ := p.ex
  have hne : ∀ i g, i ≠ k → setAt F k (some f') i = some g → F i = some g := fun i g e h => by rw [setAt_other _ _ _ _ e] at h; exact h
  refine ⟨setAt V k v', ⟨fun i hi => ?_, fun o => ?_, fun i g hi hg => ?_, fun i j g g' hi hj hg hg' e j0 h1 h2 => ?_, fun i g hi hg h1 => ?_, fun i g j hi hg h1 => ?_, a.q⟩, fun j hj => ?_⟩
  · rw [p.up.cell (a.c i hi) (a.nq k f hk hf)]
    by_cases e : i = k
    · subst e; rw [setAt_same, hf]; rfl
    · rw [setAt_other _ _ _ _ e]
  · rw [World.frozen?_of_block (w := w) (p.up.block qf (a.lt (Or.inl rfl)) (a.nq k f hk hf))]; exact a.z o
  · by_cases e : i = k
    · subst e
      rw [setAt_same] at hg ⊢
      cases hg
      exact r
    · rw [setAt_other V _ _ _ e]
      exact (a.fl i g hi (hne i g e hg)).upd p.up (fun j h1 h2 => a.nx i k g f hi hk (hne i g e hg) hf e j h1 h2)
  · by_cases e1 : i = k
    · subst e1
      rw [setAt_same] at h1
      rw [setAt_other V _ _ _ (fun h => e h.symm)] at h2
      have hg2 := hne j g' (fun h => e h.symm) hg'
      rcases hn j0 h1 with h | h
      · exact a.nx i j f g' hi hj hf hg2 e j0 h h2
      · have := (a.fl j g' hj hg2).lt h2; omega
    · rw [setAt_other V _ _ _ e1] at h1
      have hg1 := hne i g e1 hg
      by_cases e2 : j = k
      · subst e2
        rw [setAt_same] at h2
        rcases hn j0 h2 with h | h
        · exact a.nx i j g f hi hj hg1 hf e j0 h1 h
        · have := (a.fl i g hi hg1).lt h1; omega
      · rw [setAt_other V _ _ _ e2] at h2
        exact a.nx i j g g' hi hj hg1 (hne j g' e2 hg') e j0 h1 h2
  · by_cases e : i = k
    · subst e
      rw [setAt_same] at h1
      rcases hn qf h1 with h | h
      · exact a.nq i f hi hf h
      · have := a.lt (Or.inl rfl); omega
    · rw [setAt_other V _ _ _ e] at h1
      exact a.nq i g hi (hne i g e hg) h1
  · by_cases e : i = k
    · subst e
      rw [setAt_same] at h1
      rcases hn j h1 with h | h
      · exact a.new i f j hi hf h
      · omega
    · rw [setAt_other V _ _ _ e] at h1
      exact a.new i g j hi (hne i g e hg) h1
  · rcases hj with h | ⟨i, g, hi, hg, h⟩
    · exact Or.inl (Or.inl h)
    · by_cases e : i = k
      · subst e
        rw [setAt_same] at h
        rcases hn j h with h' | h'
        · exact Or.inl (Or.inr ⟨i, f, hi, hf, h'⟩)
        · exact Or.inr h'
      · rw [setAt_other V _ _ _ e] at h
        exact Or.inl (Or.inr ⟨i, g, hi, hne i g e hg, h⟩)
/-- One is laid. -/
theorem FA.laid {k b : Nat} (a : FA W w qf B V F) (hk : k < 4) (hf : F k = none) (u0 : Upd (fun _ => False) w w') (hW : W.heap.size ≤ w.heap.size) (r : RFl w' b (.slice none 0 0) fl0) (hb : w.heap.size ≤ b) : FA W (w'.setCell ⟨qf, k, none⟩ (.pointer (some ⟨b, 0, none⟩))) qf (setAt B k b) (setAt V k (.slice none 0 0)) (setAt F k (some fl0)) ∧ (∀ j, AOwn qf (setAt B k b) (setAt V k (.slice none 0 0)) (setAt F k (some fl0)) j → AOwn qf B V F j ∨ w.heap.size ≤ j) := by
  have a1 := a.upd u0 (fun _ _ f => f)
  have hq := a.lt (Or.inl rfl : AOwn qf B V F qf)
  have uq := Upd.one w' qf k (.pointer (some ⟨b, 0, none⟩))
  have hne : ∀ i g, i ≠ k → setAt F k (some fl0) i = some g → F i = some g := fun i g e h => by rw [setAt_other _ _ _ _ e] at h; exact h
  have hown : ∀ j, FOwn b (.slice none 0 0) j → j = b := fun j h => by
    rcases h with h | h
    · exact h
    · cases h
  refine ⟨⟨fun i hi => ?_, fun o => by rw [World.frozen?_setCell]; exact a1.z o, fun i g hi hg => ?_, fun i j g g' hi hj hg hg' e j0 h1 h2 => ?_, fun i g hi hg h1 => ?_, fun i g j hi hg h1 => ?_, a.q⟩, fun j hj => ?_⟩
  · by_cases e : i = k
    · subst e
      rw [World.cell?_setCell_same _ _ _ (a1.c i hi), setAt_same, setAt_same]; rfl
    · rw [World.cell?_setCell_other _ _ _ _ (addr_ne (Or.inr (by omega))), a1.c i hi, setAt_other _ _ _ _ e, setAt_other _ _ _ _ e]
  · by_cases e : i = k
    · subst e
      rw [setAt_same] at hg ⊢
      rw [setAt_same]
      cases hg
      exact r.upd uq (fun j h1 h2 => by have := hown j h1; omega)
    · rw [setAt_other V _ _ _ e, setAt_other B _ _ _ e]
      have hg1 := hne i g e hg
      exact (a1.fl i g hi hg1).upd uq (fun j h1 h2 => a.nq i g hi hg1 (by rw [← h2]; exact h1))
  · by_cases e1 : i = k
    · subst e1
      rw [setAt_same, setAt_same] at h1
      rw [setAt_other V _ _ _ (fun h => e h.symm), setAt_other B _ _ _ (fun h => e h.symm)] at h2
      have := (a.fl j g' hj (hne j g' (fun h => e h.symm) hg')).lt h2
      have := hown j0 h1
      omega
    · rw [setAt_other V _ _ _ e1, setAt_other B _ _ _ e1] at h1
      have hg1 := hne i g e1 hg
      by_cases e2 : j = k
      · subst e2
        rw [setAt_same, setAt_same] at h2
        have := (a.fl i g hi hg1).lt h1
        have := hown j0 h2
        omega
      · rw [setAt_other V _ _ _ e2, setAt_other B _ _ _ e2] at h2
        exact a.nx i j g g' hi hj hg1 (hne j g' e2 hg') e j0 h1 h2
  · by_cases e : i = k
    · subst e
      rw [setAt_same, setAt_same] at h1
      have := hown qf h1
      omega
    · rw [setAt_other V _ _ _ e, setAt_other B _ _ _ e] at h1
      exact a.nq i g hi (hne i g e hg) h1
  · by_cases e : i = k
    · subst e
      rw [setAt_same, setAt_same] at h1
      have := hown j h1
      omega
    · rw [setAt_other V _ _ _ e, setAt_other B _ _ _ e] at h1
      exact a.new i g j hi (hne i g e hg) h1
  · rcases hj with h | ⟨i, g, hi, hg, h⟩
    · exact Or.inl (Or.inl h)
    · by_cases e : i = k
      · subst e
        rw [setAt_same, setAt_same] at h
        have := hown j h
        exact Or.inr (by omega)
      · rw [setAt_other V _ _ _ e, setAt_other B _ _ _ e] at h
        exact Or.inl (Or.inr ⟨i, g, hi, hne i g e hg, h⟩)
/-- One is taken away. -/
theorem FA.gone {k : Nat} (a : FA W w qf B V F) (hk : k < 4) : FA W (w.setCell ⟨qf, k, none⟩ (.pointer none)) qf B V (setAt F k none) ∧ (∀ j, AOwn qf B V (setAt F k none) j → AOwn qf B V F j) := by
  have uq := Upd.one w qf k (.pointer none)
  have hne : ∀ i g, setAt F k none i = some g → F i = some g := fun i g h => by
    by_cases e : i = k
    · subst e; rw [setAt_same] at h; cases h
    · rw [setAt_other _ _ _ _ e] at h; exact h
  refine ⟨⟨fun i hi => ?_, fun o => by rw [World.frozen?_setCell]; exact a.z o, fun i g hi hg => (a.fl i g hi (hne i g hg)).upd uq (fun j h1 h2 => a.nq i g hi (hne i g hg) (by rw [← h2]; exact h1)), fun i j g g' hi hj hg hg' => a.nx i j g g' hi hj (hne i g hg) (hne j g' hg'), fun i g hi hg => a.nq i g hi (hne i g hg), fun i g j hi hg => a.new i g j hi (hne i g hg), a.q⟩, fun j hj => ?_⟩
  · by_cases e : i = k
    · subst e
      rw [World.cell?_setCell_same _ _ _ (a.c i hi), setAt_same]; rfl
    · rw [World.cell?_setCell_other _ _ _ _ (addr_ne (Or.inr (by omega))), a.c i hi, setAt_other _ _ _ _ e]
  · rcases hj with h | ⟨i, g, hi, hg, h⟩
    · exact Or.inl h
    · exact Or.inr ⟨i, g, hi, hne i g hg, h⟩
end Go.Proofs.YtadpibcgjgcjhaaGreat
