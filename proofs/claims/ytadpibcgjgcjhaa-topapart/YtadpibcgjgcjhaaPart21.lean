/- TopApart, plainly: two hosts whose pages have the same states, and one guest that sees the same. -/
import Derived.Test.YtadpibcgjgcjhaaPart20
namespace Go.Proofs.Ytadpibcgjgcjhaa
open Go.RowKit
variable {F F' : Nat → Option Fl} {g : Int}

/-- What two hosts have in common for a guest g. -/
structure Apn (g : Int) (F F' : Nat → Option Fl) : Prop where
  alk : Alk F F'
  own : 0 ≤ g → ∀ f f', F g.toNat = some f → F' g.toNat = some f' → f = f'
theorem Apn.some (a : Apn g F F') {i : Nat} {f : Fl} (hf : F i = some f) : ∃ f', F' i = some f' ∧ f.st = f'.st := by
  cases hq : F' i with
  | none => have := ((a.alk i).1).2 hq; rw [hf] at this; cases this
  | some f' => exact ⟨f', rfl, (a.alk i).2 f f' hf hq⟩
/-- Both turn alike, by what keeps states alike. -/
theorem Apn.map (a : Apn g F F') (n : Nat) (m : Fl → Fl) (hm : ∀ f f', f.st = f'.st → (m f).st = (m f').st) : Apn g (setAt F n ((F n).map m)) (setAt F' n ((F' n).map m)) := by
  refine ⟨fun i => ?_, fun g0 f f' hf hf' => ?_⟩
  · by_cases e : i = n
    · subst e
      rw [setAt_same, setAt_same]
      refine ⟨?_, fun f f' hf hf' => ?_⟩
      · have := (a.alk i).1
        cases h1 : F i <;> cases h2 : F' i <;> simp_all
      · cases h1 : F i with
        | none => rw [h1] at hf; cases hf
        | some y =>
          cases h2 : F' i with
          | none => rw [h2] at hf'; cases hf'
          | some y' =>
            rw [h1] at hf
            rw [h2] at hf'
            cases hf
            cases hf'
            exact hm _ _ ((a.alk i).2 y y' h1 h2)
    · rw [setAt_other _ _ _ _ e, setAt_other _ _ _ _ e]
      exact a.alk i
  · by_cases e : g.toNat = n
    · rw [e, setAt_same] at hf hf'
      cases h1 : F n with
      | none => rw [h1] at hf; cases hf
      | some y =>
        cases h2 : F' n with
        | none => rw [h2] at hf'; cases hf'
        | some y' =>
          rw [h1] at hf
          rw [h2] at hf'
          cases hf
          cases hf'
          rw [a.own g0 y y' (by rw [e]; exact h1) (by rw [e]; exact h2)]
    · rw [setAt_other _ _ _ _ e] at hf hf'
      exact a.own g0 f f' hf hf'
theorem Apn.put (a : Apn g F F') (n : Nat) (o : Option Fl) : Apn g (setAt F n o) (setAt F' n o) := by
  refine ⟨fun i => ?_, fun g0 f f' hf hf' => ?_⟩
  · by_cases e : i = n
    · subst e
      rw [setAt_same, setAt_same]
      exact ⟨Iff.rfl, fun f f' h1 h2 => by rw [h1] at h2; cases h2; rfl⟩
    · rw [setAt_other _ _ _ _ e, setAt_other _ _ _ _ e]
      exact a.alk i
  · by_cases e : g.toNat = n
    · rw [e, setAt_same] at hf hf'
      rw [hf] at hf'
      cases hf'
      rfl
    · rw [setAt_other _ _ _ _ e] at hf hf'
      exact a.own g0 f f' hf hf'
/-- Another guest's processor does something: the states stay. -/
theorem Apn.left (a : Apn g F F') {n : Int} (hn : n ≠ g) {r : Fl → (Int × Int) × Fl} (hr : ∀ f, (r f).2.st = f.st) : Apn g (fAct F n r).2 F' := by
  unfold fAct
  split
  · exact a
  · next h0 =>
    have hle : 0 ≤ n ∧ n ≤ 3 ∧ ∃ f, F n.toNat = Option.some f := by
      unfold fWho at h0
      split at h0
      · omega
      · next hb =>
        cases hq : F n.toNat with
        | none => rw [hq] at h0; simp at h0
        | some f => exact ⟨by omega, by omega, f, rfl⟩
    obtain ⟨n0, n3, f0, hf0⟩ := hle
    rw [hf0, Option.getD_some]
    simp only
    refine ⟨fun i => ?_, fun g0 f f' hf hf' => ?_⟩
    · by_cases e : i = n.toNat
      · subst e
        rw [setAt_same]
        obtain ⟨f', hf', hst⟩ := a.some hf0
        refine ⟨⟨fun c => (by cases c), fun c => (by rw [hf'] at c; cases c)⟩, fun y y' hy hy' => ?_⟩
        cases hy
        rw [hf'] at hy'
        cases hy'
        rw [hr]
        exact hst
      · rw [setAt_other _ _ _ _ e]
        exact a.alk i
    · rw [setAt_other _ _ _ _ (by omega)] at hf
      exact a.own g0 f f' hf hf'
/-- The guest's own processor does something. -/
theorem Apn.both (a : Apn g F F') (r : Fl → (Int × Int) × Fl) : (fAct F g r).1 = (fAct F' g r).1 ∧ Apn g (fAct F g r).2 (fAct F' g r).2 := by
  unfold fAct
  rw [← a.alk.who g]
  split
  · exact ⟨rfl, a⟩
  · next h0 =>
    have hle : 0 ≤ g ∧ ∃ f, F g.toNat = Option.some f := by
      unfold fWho at h0
      split at h0
      · omega
      · next hb =>
        cases hq : F g.toNat with
        | none => rw [hq] at h0; simp at h0
        | some f => exact ⟨by omega, f, rfl⟩
    obtain ⟨g0, f0, hf0⟩ := hle
    obtain ⟨f', hf', _⟩ := a.some hf0
    have := a.own g0 f0 f' hf0 hf'
    subst this
    rw [hf0, hf', Option.getD_some]
    exact ⟨rfl, a.put _ _⟩
theorem turn_alike (k : Nat) (z : Int) (f f' : Fl) (hs : f.st = f'.st) : (fTurn f k z).st = (fTurn f' k z).st := by
  unfold fTurn
  simp only [hs]
theorem turnTo_alike (b : Nat) (z : Int) (f f' : Fl) (hs : f.st = f'.st) : ∀ j, (fTurnTo f b z j).st = (fTurnTo f' b z j).st
  | 0 => hs
  | j + 1 => turn_alike _ _ _ _ (turnTo_alike b z f f' hs j)
theorem fStep_st (f : Fl) (y : En) (fd wt : Bool) : (fStep f y fd wt).2.st = f.st := by
  unfold fStep
  repeat' split
  all_goals rfl
theorem fAt_st (f : Fl) (a : Int) (wt : Bool) : (fAt f a wt).2.st = f.st := by
  unfold fAt
  repeat' split
  all_goals first | rfl | exact fStep_st _ _ _ _
theorem fLoad_st (f : Fl) (a : Int) : (fLoad f a).2.st = f.st := by
  unfold fLoad
  repeat' split
  all_goals exact fAt_st _ _ _
theorem fStore_st (f : Fl) (a v : Int) : (fStore f a v).2.st = f.st := by
  unfold fStore
  repeat' split
  all_goals exact fAt_st _ _ _
theorem fRoot_st (f : Fl) (a : Int) : (fRoot f a).2.st = f.st := by unfold fRoot; split <;> rfl
theorem fForget_st (f : Fl) (a : Int) : (fForget f a).2.st = f.st := by unfold fForget; split <;> rfl
theorem fDrop_st (f : Fl) (a : Int) : (fDrop f a).2.st = f.st := by unfold fDrop; split <;> rfl
/-- What the law passes by at the second host. -/
def inner (x : Ac) : Bool := (x.kind.toList == [108, 111, 97, 100]) || (x.kind.toList == [115, 116, 111, 114, 101]) || (x.kind.toList == [114, 111, 111, 116]) || (x.kind.toList == [102, 111, 114, 103, 101, 116]) || (x.kind.toList == [100, 114, 111, 112])
def passes (x : Ac) (g : Int) : Bool := (x.kind.toList == [115, 99, 97, 110]) || (x.kind.toList == [115, 99, 97, 110, 97, 108, 108]) || (inner x && (x.n != g))
theorem fDid_cases {P : (Int × Int) × (Nat → Option Fl) → (Int × Int) × (Nat → Option Fl) → Prop} (N : Nat) (x : Ac) (h0 : (x.kind.toList == [97, 100, 100]) = true → P ((cAdd F, if (cAdd F).2 = 0 then setAt F (cAdd F).1.toNat (some fl0) else F)) ((cAdd F', if (cAdd F').2 = 0 then setAt F' (cAdd F').1.toNat (some fl0) else F'))) (h1 : (x.kind.toList == [114, 101, 109, 111, 118, 101]) = true → P (((0, fWho F x.n), if fWho F x.n = 0 then setAt F x.n.toNat none else F)) (((0, fWho F' x.n), if fWho F' x.n = 0 then setAt F' x.n.toNat none else F'))) (h2 : (x.kind.toList == [112, 108, 117, 103]) = true → P (((0, cPlug F N x.n x.a), if cPlug F N x.n x.a = 0 then setAt F x.n.toNat ((F x.n.toNat).map fun f => fTurnTo f x.a.toNat 1 4) else F)) (((0, cPlug F' N x.n x.a), if cPlug F' N x.n x.a = 0 then setAt F' x.n.toNat ((F' x.n.toNat).map fun f => fTurnTo f x.a.toNat 1 4) else F'))) (h3 : (x.kind.toList == [117, 110, 112, 108, 117, 103]) = true → P (((0, cUnplug F x.n x.a), if cUnplug F x.n x.a = 0 then setAt F x.n.toNat ((F x.n.toNat).map fun f => fTurnTo f x.a.toNat 0 4) else F)) (((0, cUnplug F' x.n x.a), if cUnplug F' x.n x.a = 0 then setAt F' x.n.toNat ((F' x.n.toNat).map fun f => fTurnTo f x.a.toNat 0 4) else F'))) (h4 : (x.kind.toList == [103, 105, 118, 101]) = true → P (((0, cGive F N x.n x.a false), if cGive F N x.n x.a false = 0 then setAt F x.n.toNat ((F x.n.toNat).map fun f => fTurn f x.a.toNat 2) else F)) (((0, cGive F' N x.n x.a false), if cGive F' N x.n x.a false = 0 then setAt F' x.n.toNat ((F' x.n.toNat).map fun f => fTurn f x.a.toNat 2) else F'))) (h5 : (x.kind.toList == [98, 97, 99, 107]) = true → P (((0, cGive F N x.n x.a true), if cGive F N x.n x.a true = 0 then setAt F x.n.toNat ((F x.n.toNat).map fun f => fTurn f x.a.toNat 1) else F)) (((0, cGive F' N x.n x.a true), if cGive F' N x.n x.a true = 0 then setAt F' x.n.toNat ((F' x.n.toNat).map fun f => fTurn f x.a.toNat 1) else F'))) (h6 : (x.kind.toList == [108, 111, 97, 100]) = true → P (fAct F x.n fun f => fLoad f x.a) (fAct F' x.n fun f => fLoad f x.a)) (h7 : (x.kind.toList == [115, 116, 111, 114, 101]) = true → P (fAct F x.n fun f => ((0, (fStore f x.a x.v).1), (fStore f x.a x.v).2)) (fAct F' x.n fun f => ((0, (fStore f x.a x.v).1), (fStore f x.a x.v).2))) (h8 : (x.kind.toList == [114, 111, 111, 116]) = true → P (fAct F x.n fun f => ((0, (fRoot f x.a).1), (fRoot f x.a).2)) (fAct F' x.n fun f => ((0, (fRoot f x.a).1), (fRoot f x.a).2))) (h9 : (x.kind.toList == [102, 111, 114, 103, 101, 116]) = true → P (fAct F x.n fun f => ((0, (fForget f x.a).1), (fForget f x.a).2)) (fAct F' x.n fun f => ((0, (fForget f x.a).1), (fForget f x.a).2))) (h10 : (x.kind.toList == [100, 114, 111, 112]) = true → P (fAct F x.n fun f => ((0, (fDrop f x.a).1), (fDrop f x.a).2)) (fAct F' x.n fun f => ((0, (fDrop f x.a).1), (fDrop f x.a).2))) (h11 : (x.kind.toList == [115, 99, 97, 110]) = true → P (((0, cScan F x.n x.a), F)) (((0, cScan F' x.n x.a), F'))) (h12 : (x.kind.toList == [115, 99, 97, 110, 97, 108, 108]) = true → P (((0, 0), F)) (((0, 0), F'))) (he : P ((0, 0), F) ((0, 0), F')) : P (fDid F N x) (fDid F' N x) := by
  unfold fDid
  by_cases k0 : (x.kind.toList == [97, 100, 100]) = true
  · rw [if_pos k0, if_pos k0]; exact h0 k0
  · rw [if_neg k0, if_neg k0]
    by_cases k1 : (x.kind.toList == [114, 101, 109, 111, 118, 101]) = true
    · rw [if_pos k1, if_pos k1]; exact h1 k1
    · rw [if_neg k1, if_neg k1]
      by_cases k2 : (x.kind.toList == [112, 108, 117, 103]) = true
      · rw [if_pos k2, if_pos k2]; exact h2 k2
      · rw [if_neg k2, if_neg k2]
        by_cases k3 : (x.kind.toList == [117, 110, 112, 108, 117, 103]) = true
        · rw [if_pos k3, if_pos k3]; exact h3 k3
        · rw [if_neg k3, if_neg k3]
          by_cases k4 : (x.kind.toList == [103, 105, 118, 101]) = true
          · rw [if_pos k4, if_pos k4]; exact h4 k4
          · rw [if_neg k4, if_neg k4]
            by_cases k5 : (x.kind.toList == [98, 97, 99, 107]) = true
            · rw [if_pos k5, if_pos k5]; exact h5 k5
            · rw [if_neg k5, if_neg k5]
              by_cases k6 : (x.kind.toList == [108, 111, 97, 100]) = true
              · rw [if_pos k6, if_pos k6]; exact h6 k6
              · rw [if_neg k6, if_neg k6]
                by_cases k7 : (x.kind.toList == [115, 116, 111, 114, 101]) = true
                · rw [if_pos k7, if_pos k7]; exact h7 k7
                · rw [if_neg k7, if_neg k7]
                  by_cases k8 : (x.kind.toList == [114, 111, 111, 116]) = true
                  · rw [if_pos k8, if_pos k8]; exact h8 k8
                  · rw [if_neg k8, if_neg k8]
                    by_cases k9 : (x.kind.toList == [102, 111, 114, 103, 101, 116]) = true
                    · rw [if_pos k9, if_pos k9]; exact h9 k9
                    · rw [if_neg k9, if_neg k9]
                      by_cases k10 : (x.kind.toList == [100, 114, 111, 112]) = true
                      · rw [if_pos k10, if_pos k10]; exact h10 k10
                      · rw [if_neg k10, if_neg k10]
                        by_cases k11 : (x.kind.toList == [115, 99, 97, 110]) = true
                        · rw [if_pos k11, if_pos k11]; exact h11 k11
                        · rw [if_neg k11, if_neg k11]
                          by_cases k12 : (x.kind.toList == [115, 99, 97, 110, 97, 108, 108]) = true
                          · rw [if_pos k12, if_pos k12]; exact h12 k12
                          · rw [if_neg k12, if_neg k12]
                            exact he
theorem Apn.pass (a : Apn g F F') (N : Nat) (x : Ac) (hp : passes x g = true) : Apn g (fDid F N x).2 F' := by
  have hk : ∀ l : List UInt8, (x.kind.toList == l) = true → x.kind.toList = l := fun l h => by simpa using h
  refine fDid_cases (F' := F') (P := fun r _ => Apn g r.2 F') N x (fun k => ?_) (fun k => ?_) (fun k => ?_) (fun k => ?_) (fun k => ?_) (fun k => ?_) (fun k => ?_) (fun k => ?_) (fun k => ?_) (fun k => ?_) (fun k => ?_) (fun k => ?_) (fun k => ?_) a
  · exfalso
    unfold passes inner at hp
    rw [hk _ k] at hp
    simp at hp
  · exfalso
    unfold passes inner at hp
    rw [hk _ k] at hp
    simp at hp
  · exfalso
    unfold passes inner at hp
    rw [hk _ k] at hp
    simp at hp
  · exfalso
    unfold passes inner at hp
    rw [hk _ k] at hp
    simp at hp
  · exfalso
    unfold passes inner at hp
    rw [hk _ k] at hp
    simp at hp
  · exfalso
    unfold passes inner at hp
    rw [hk _ k] at hp
    simp at hp
  · refine a.left (fun e => ?_) (fun f => fLoad_st f x.a)
    unfold passes inner at hp
    rw [hk _ k] at hp
    simp [e] at hp
  · refine a.left (fun e => ?_) (fun f => fStore_st f x.a x.v)
    unfold passes inner at hp
    rw [hk _ k] at hp
    simp [e] at hp
  · refine a.left (fun e => ?_) (fun f => fRoot_st f x.a)
    unfold passes inner at hp
    rw [hk _ k] at hp
    simp [e] at hp
  · refine a.left (fun e => ?_) (fun f => fForget_st f x.a)
    unfold passes inner at hp
    rw [hk _ k] at hp
    simp [e] at hp
  · refine a.left (fun e => ?_) (fun f => fDrop_st f x.a)
    unfold passes inner at hp
    rw [hk _ k] at hp
    simp [e] at hp
  · exact a
  · exact a
theorem Apn.step (a : Apn g F F') (N : Nat) (x : Ac) (hp : passes x g = false) : (fDid F N x).1 = (fDid F' N x).1 ∧ Apn g (fDid F N x).2 (fDid F' N x).2 := by
  have hk : ∀ l : List UInt8, (x.kind.toList == l) = true → x.kind.toList = l := fun l h => by simpa using h
  refine fDid_cases (P := fun r q => r.1 = q.1 ∧ Apn g r.2 q.2) N x (fun k => ?_) (fun k => ?_) (fun k => ?_) (fun k => ?_) (fun k => ?_) (fun k => ?_) (fun k => ?_) (fun k => ?_) (fun k => ?_) (fun k => ?_) (fun k => ?_) (fun k => ?_) (fun k => ?_) ⟨rfl, a⟩
  · rw [a.alk.add]
    refine ⟨rfl, ?_⟩
    simp only
    split
    · exact a.put _ _
    · exact a
  · rw [a.alk.who]
    refine ⟨rfl, ?_⟩
    simp only
    split
    · exact a.put _ _
    · exact a
  · rw [a.alk.plug]
    refine ⟨rfl, ?_⟩
    simp only
    split
    · exact a.map _ _ (fun f f' hs => turnTo_alike _ _ f f' hs 4)
    · exact a
  · rw [a.alk.unplug]
    refine ⟨rfl, ?_⟩
    simp only
    split
    · exact a.map _ _ (fun f f' hs => turnTo_alike _ _ f f' hs 4)
    · exact a
  · rw [a.alk.give]
    refine ⟨rfl, ?_⟩
    simp only
    split
    · exact a.map _ _ (turn_alike _ _)
    · exact a
  · rw [a.alk.give]
    refine ⟨rfl, ?_⟩
    simp only
    split
    · exact a.map _ _ (turn_alike _ _)
    · exact a
  · have e : x.n = g := by
      unfold passes inner at hp
      rw [hk _ k] at hp
      simpa using hp
    rw [e]
    exact a.both (fun f => fLoad f x.a)
  · have e : x.n = g := by
      unfold passes inner at hp
      rw [hk _ k] at hp
      simpa using hp
    rw [e]
    exact a.both (fun f => ((0, (fStore f x.a x.v).1), (fStore f x.a x.v).2))
  · have e : x.n = g := by
      unfold passes inner at hp
      rw [hk _ k] at hp
      simpa using hp
    rw [e]
    exact a.both (fun f => ((0, (fRoot f x.a).1), (fRoot f x.a).2))
  · have e : x.n = g := by
      unfold passes inner at hp
      rw [hk _ k] at hp
      simpa using hp
    rw [e]
    exact a.both (fun f => ((0, (fForget f x.a).1), (fForget f x.a).2))
  · have e : x.n = g := by
      unfold passes inner at hp
      rw [hk _ k] at hp
      simpa using hp
    rw [e]
    exact a.both (fun f => ((0, (fDrop f x.a).1), (fDrop f x.a).2))
  · exfalso
    unfold passes inner at hp
    rw [hk _ k] at hp
    simp at hp
  · exfalso
    unfold passes inner at hp
    rw [hk _ k] at hp
    simp at hp
end Go.Proofs.Ytadpibcgjgcjhaa
/- TopApart: where it begins; both hosts in one state. -/
namespace Go.Proofs.Ytadpibcgjgcjhaa
open Go.ChangeShapes Go.WideShapes Go.ChangeAt Go.RowKit
set_option maxRecDepth 100000
attribute [local go_sem ↓] Go.wp_at_zero Go.wp_at_succ

theorem lightH_yes (w : World) (a : Option Addr) (len cap : Nat) (h : len ≤ 100) :
    Calls Try.prog 11 #[.slice a len cap, .int .i64 100] w fun e w' => e = .returned (.bool true) ∧ w' = w := by
  have hd : decide ((len : Int) ≤ 100) = true := by simp; omega
  go_enter Try.func11, Try.ntmps11
  go_wp2
  go_ret
  exact ⟨rfl, rfl⟩
theorem lightH_no (w : World) (a : Option Addr) (len cap : Nat) (h : 100 < len) :
    Calls Try.prog 11 #[.slice a len cap, .int .i64 100] w fun e w' => e = .returned (.bool false) ∧ w' = w := by
  have hd : decide ((len : Int) ≤ 100) = false := by simp; omega
  go_enter Try.func11, Try.ntmps11
  go_wp2
  go_ret
  exact ⟨rfl, rfl⟩
theorem cntTo_off {L : Nat → Lf} (f : Int) (hl : ∀ k, (L k).there = false) : ∀ K, cntTo L f K = 0
  | 0 => rfl
  | K + 1 => by
    rw [cntTo_succ, cntTo_off f hl K]
    unfold inIn
    rw [hl K]
    simp
theorem pln_off {S : Nat → Int} (hs : ∀ k, S k = 0) : ∀ K, pln S K = 0
  | 0 => rfl
  | K + 1 => by
    simp only [pln]
    rw [pln_off hs K, hs K]
    simp
/-- A new host. -/
theorem HF.start (n : Nat) : HF (hs0 n) (fun _ _ => 0) (fun _ => none) 0 := by
  have hl : ∀ k, (rowL (hs0 n) k).there = false := fun _ => rfl
  have no : ∀ k, (rowL (hs0 n) k).there = true → False := fun k ht => by rw [hl k] at ht; cases ht
  have ng : ∀ i x, (hs0 n).g i = some x → False := fun i x hx => by cases hx
  have hs : ∀ k, rowS (hs0 n) k = 0 := fun _ => rfl
  have hp := pln_off hs 64
  refine ⟨⟨⟨⟨fun f _ => (by rw [cntTo_off f hl]; rfl), fun k _ ht => (no k ht).elim⟩, fun _ _ => ⟨Int.le_refl _, (by show (0 : Int) ≤ 255; omega)⟩, fun i x hx => (ng i x hx).elim⟩, ⟨fun k _ ht => (no k ht).elim, fun _ _ _ _ _ => rfl, fun k _ ht => (no k ht).elim⟩, (by rw [hp]; exact Nat.zero_le _)⟩, fun i x hx => (ng i x hx).elim, fun _ => ⟨fun _ => rfl, fun _ => rfl⟩, fun i x f hx => (ng i x hx).elim⟩
/-- A host in memory, with what its guests see; its blocks are new. -/
structure HS (W w : World) (n k : Nat) (bh bp bf : Nat) (G : Nat → G3) (h : Hs) (F : Nat → Option Fl) : Prop where
  m : HM w bh bp bf G h
  hf : ∃ t, HF h t F (k : Int)
  n : h.s.n = n
  new : ∀ j, Own bh bp bf G h j → W.heap.size ≤ j
theorem HS.start {W w w' : World} {n bh bp bf : Nat} (hn : ∀ G, HM w' bh bp bf G (hs0 n)) (u : Upd (fun _ => False) W w) (h1 : w.heap.size ≤ bh) (h2 : w.heap.size ≤ bp) (h3 : w.heap.size ≤ bf) (G : Nat → G3) : HS W w' n 0 bh bp bf G (hs0 n) (fun _ => none) := by
  refine ⟨hn G, ⟨_, HF.start n⟩, rfl, fun j hj => ?_⟩
  have := u.size
  rcases hj with e | e | e | ⟨i, x, hx, _⟩
  · omega
  · omega
  · omega
  · cases hx
theorem HS.keep {W w w' : World} {n k bh bp bf : Nat} {G : Nat → G3} {h : Hs} {F : Nat → Option Fl} {S : Nat → Prop} (s : HS W w n k bh bp bf G h F) (u : Upd S w w') (hS : ∀ j, Own bh bp bf G h j → ¬ S j) : HS W w' n k bh bp bf G h F := ⟨s.m.upd u hS, s.hf, s.n, s.new⟩
theorem HS.more {W w : World} {n k bh bp bf : Nat} {G : Nat → G3} {h : Hs} {F : Nat → Option Fl} (s : HS W w n k bh bp bf G h F) : HS W w n (k + 1) bh bp bf G h F := ⟨s.m, by obtain ⟨t, ht⟩ := s.hf; exact ⟨t, ht.more (by omega)⟩, s.n, s.new⟩
/-- An act. -/
theorem HS.act {W w w' : World} {n k bh bp bf : Nat} {G : Nat → G3} {h : Hs} {F : Nat → Option Fl} (s : HS W w n k bh bp bf G h F) (uW : Upd (fun _ => False) W w) (x : Ac) (v0 : 0 ≤ x.v) (v1 : x.v ≤ 255) (hd : DPost w bh bp bf G h (hDid h x) w') :
    ∃ G', HS W w' n (k + 1) bh bp bf G' (hDid h x).2 (fDid F n x).2 ∧ (∀ j, Own bh bp bf G' (hDid h x).2 j → Own bh bp bf G h j ∨ w.heap.size ≤ j) := by
  obtain ⟨⟨G', hm, ho⟩, hu⟩ := hd
  obtain ⟨t, ht⟩ := s.hf
  obtain ⟨_, ⟨t', h2⟩, h3⟩ := ht.tells (by omega) x v0 v1
  rw [s.n] at h2 h3
  refine ⟨G', ⟨hm, ⟨t', ?_⟩, h3, fun j hj => ?_⟩, ho⟩
  · have e : ((k + 1 : Nat) : Int) = (k : Int) + 1 := by omega
    rw [e]
    exact h2
  · have := uW.size
    rcases ho j hj with e | e
    · exact s.new j e
    · omega
theorem HS.ans {W w : World} {n k bh bp bf : Nat} {G : Nat → G3} {h : Hs} {F : Nat → Option Fl} (s : HS W w n k bh bp bf G h F) (x : Ac) (v0 : 0 ≤ x.v) (v1 : x.v ≤ 255) : (hDid h x).1 = (fDid F n x).1 := by
  obtain ⟨t, ht⟩ := s.hf
  have := (ht.tells (by omega) x v0 v1).ans
  rw [s.n] at this
  exact this
theorem HS.did {W w : World} {n k bh bp bf : Nat} {G : Nat → G3} {h : Hs} {F : Nat → Option Fl} (s : HS W w n k bh bp bf G h F) (hk : k ≤ 1000) (x : Ac) (v0 : 0 ≤ x.v) (v1 : x.v ≤ 255) :
    Calls Try.prog 59 #[.pointer (some ⟨bh, 0, none⟩), .agg #[.string x.kind, .int .i64 x.n, .int .i64 x.a, .int .i64 x.b, .int .u8 x.v, .bool x.on]] w
      fun e w' => e = .returned (.tuple #[.int .i64 (fDid F n x).1.1, .int .i64 (fDid F n x).1.2]) ∧ DPost w bh bp bf G h (hDid h x) w' := by
  obtain ⟨t, ht⟩ := s.hf
  have := did_any s.m ht (by omega) (by omega) x v0 v1
  rw [s.ans x v0 v1] at this
  exact this
/-- Both hosts of TopApart. -/
structure A2 (W w : World) (n k : Nat) (g : Int) (bh bp bf ch cp cf : Nat) : Prop where
  ex : ∃ G h F G' o F', HS W w n k bh bp bf G h F ∧ HS W w n k ch cp cf G' o F' ∧ Apn g F F' ∧ ∀ j, Own bh bp bf G h j → ¬ Own ch cp cf G' o j
  up : Upd (fun _ => False) W w
theorem A2.same {W w w' : World} {n k : Nat} {g : Int} {bh bp bf ch cp cf : Nat} (a : A2 W w n k g bh bp bf ch cp cf) (u : Upd (fun _ => False) w w') : A2 W w' n k g bh bp bf ch cp cf := by
  obtain ⟨G, h, F, G', o, F', h1, h2, h3, h4⟩ := a.ex
  exact ⟨⟨G, h, F, G', o, F', h1.keep u (fun _ _ f => f), h2.keep u (fun _ _ f => f), h3, h4⟩, a.up.trans u (fun _ _ f => f)⟩
end Go.Proofs.Ytadpibcgjgcjhaa
