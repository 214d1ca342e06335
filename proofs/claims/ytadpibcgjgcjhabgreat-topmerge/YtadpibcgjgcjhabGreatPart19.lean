/- TopApart, plainly: two hosts whose pages have the same states, and one guest that sees the same. -/
import Derived.Test.YtadpibcgjgcjhabGreatPart18
import Derived.Test.YtadpibcgjgcjhabGreatPart17
import Derived.Laws.BytesArg
namespace Go.Proofs.YtadpibcgjgcjhabGreat
open Go.RowKit
variable {F F' : Nat → Option Fl} {g : Int}

/-- What two hosts have in common for a guest g. -/
structure Apn (g : Int) (F F' : Nat → Option Fl) : Prop where
  alk : Alk F F'
  own : 0 ≤ g → ∀ f f', F g.toNat = some f → F' g.toNat = some f' → f = f'
theorem Apn.some (a : Apn g F F') {i : Nat} {f : Fl} (hf : F i = some f) : ∃ f', F' i = some f' ∧ f.st = f'.st := by
  cases hq : F' i with
  | none => have := ((a.alk i).1).2 hq; rw [hf] at this; cases this
  | some f' => exact ⟨f', rfl, (a.alk i).2 f f' hf hq⟩
/-- Both turn alike, by what keeps states alike. -/
theorem Apn.map (a : Apn g F F') (n : Nat) (m : Fl → Fl) (hm : ∀ f f', f.st = f'.st → (m f).st = (m f').st) : Apn g (setAt F n ((F n).map m)) (setAt F' n ((F' n).map m)) := by
  refine ⟨fun i => ?_, fun g0 f f' hf hf' => ?_⟩
  · by_cases e : i = n
    · subst e
      rw [setAt_same, setAt_same]
      refine ⟨?_, fun f f' hf hf' => ?_⟩
      · have := (a.alk i).1
        cases h1 : F i <;> cases h2 : F' i <;> simp_all
      · cases h1 : F i with
        | none => rw [h1] at hf; cases hf
        | some y =>
          cases h2 : F' i with
          | none => rw [h2] at hf'; cases hf'
          | some y' =>
            rw [h1] at hf
            rw [h2] at hf'
            cases hf
            cases hf'
            exact hm _ _ ((a.alk i).2 y y' h1 h2)
    · rw [setAt_other _ _ _ _ e, setAt_other _ _ _ _ e]
      exact a.alk i
  · by_cases e : g.toNat = n
    · rw [e, setAt_same] at hf hf'
      cases h1 : F n with
      | none => rw [h1] at hf; cases hf
      | some y =>
        cases h2 : F' n with
        | none => rw [h2] at hf'; cases hf'
        | some y' =>
          rw [h1] at hf
          rw [h2] at hf'
          cases hf
          cases hf'
          rw [a.own g0 y y' (by rw [e]; exact h1) (by rw [e]; exact h2)]
    · rw [setAt_other _ _ _ _ e] at hf hf'
      exact a.own g0 f f' hf hf'
theorem Apn.put (a : Apn g F F') (n : Nat) (o : Option Fl) : Apn g (setAt F n o) (setAt F' n o) := by
  refine ⟨fun i => ?_, fun g0 f f' hf hf' => ?_⟩
  · by_cases e : i = n
    · subst e
      rw [setAt_same, setAt_same]
      exact ⟨Iff.rfl, fun f f' h1 h2 => by rw [h1] at h2; cases h2; rfl⟩
    · rw [setAt_other _ _ _ _ e, setAt_other _ _ _ _ e]
      exact a.alk i
  · by_cases e : g.toNat = n
    · rw [e, setAt_same] at hf hf'
      rw [hf] at hf'
      cases hf'
      rfl
    · rw [setAt_other _ _ _ _ e] at hf hf'
      exact a.own g0 f f' hf hf'
/-- Another guest's processor does something: the states stay. -/
theorem Apn.left (a : Apn g F F') {n : Int} (hn : n ≠ g) {r : Fl → (Int × Int) × Fl} (hr : ∀ f, (r f).2.st = f.st) : Apn g (fAct F n r).2 F' := by
  unfold fAct
  split
  · exact a
  · next h0 =>
    have hle : 0 ≤ n ∧ n ≤ 3 ∧ ∃ f, F n.toNat = Option.some f := by
      unfold fWho at h0
      split at h0
      · omega
      · next hb =>
        cases hq : F n.toNat with
        | none => rw [hq] at h0; simp at h0
        | some f => exact ⟨by omega, by omega, f, rfl⟩
    obtain ⟨n0, n3, f0, hf0⟩ := hle
    rw [hf0, Option.getD_some]
    simp only
    refine ⟨fun i => ?_, fun g0 f f' hf hf' => ?_⟩
    · by_cases e : i = n.toNat
      · subst e
        rw [setAt_same]
        obtain ⟨f', hf', hst⟩ := a.some hf0
        refine ⟨⟨fun c => (by cases c), fun c => (by rw [hf'] at c; cases c)⟩, fun y y' hy hy' => ?_⟩
        cases hy
        rw [hf'] at hy'
        cases hy'
        rw [hr]
        exact hst
      · rw [setAt_other _ _ _ _ e]
        exact a.alk i
    · rw [setAt_other _ _ _ _ (by omega)] at hf
      exact a.own g0 f f' hf hf'
/-- The guest's own processor does something. -/
theorem Apn.both (a : Apn g F F') (r : Fl → (Int × Int) × Fl) : (fAct F g r).1 = (fAct F' g r).1 ∧ Apn g (fAct F g r).2 (fAct F' g r).2 := by
  unfold fAct
  rw [← a.alk.who g]
  split
  · exact ⟨rfl, a⟩
  · next h0 =>
    have hle : 0 ≤ g ∧ ∃ f, F g.toNat = Option.some f := by
      unfold fWho at h0
      split at h0
      · omega
      · next hb =>
        cases hq : F g.toNat with
        | none => rw [hq] at h0; simp at h0
        | some f => exact ⟨by omega, f, rfl⟩
    obtain ⟨g0, f0, hf0⟩ := hle
    obtain ⟨f', hf', _⟩ := a.some hf0
    have := a.own g0 f0 f' hf0 hf'
    subst this
    rw [hf0, hf', Option.getD_some]
    exact ⟨rfl, a.put _ _⟩
theorem turn_alike (k : Nat) (z : Int) (f f' : Fl) (hs : f.st = f'.st) : (fTurn f k z).st = (fTurn f' k z).st := by
  unfold fTurn
  simp only [hs]
theorem turnTo_alike (b : Nat) (z : Int) (f f' : Fl) (hs : f.st = f'.st) : ∀ j, (fTurnTo f b z j).st = (fTurnTo f' b z j).st
  | 0 => hs
  | j + 1 => turn_alike _ _ _ _ (turnTo_alike b z f f' hs j)
theorem fStep_st (f : Fl) (y : En) (fd wt : Bool) : (fStep f y fd wt).2.st = f.st := by
  unfold fStep
  repeat' split
  all_goals rfl
theorem fAt_st (f : Fl) (a : Int) (wt : Bool) : (fAt f a wt).2.st = f.st := by
  unfold fAt
  repeat' split
  all_goals first | rfl | exact fStep_st _ _ _ _
theorem fLoad_st (f : Fl) (a : Int) : (fLoad f a).2.st = f.st := by
  unfold fLoad
  repeat' split
  all_goals exact fAt_st _ _ _
theorem fStore_st (f : Fl) (a v : Int) : (fStore f a v).2.st = f.st := by
  unfold fStore
  repeat' split
  all_goals exact fAt_st _ _ _
theorem fRoot_st (f : Fl) (a : Int) : (fRoot f a).2.st = f.st := by unfold fRoot; split <;> rfl
theorem fForget_st (f : Fl) (a : Int) : (fForget f a).2.st = f.st := by unfold fForget; split <;> rfl
theorem fDrop_st (f : Fl) (a : Int) : (fDrop f a).2.st = f.st := by unfold fDrop; split <;> rfl
/-- What the law passes by at the second host. -/
def inner (x : Ac) : Bool := (x.kind.toList == [108, 111, 97, 100]) || (x.kind.toList == [115, 116, 111, 114, 101]) || (x.kind.toList == [114, 111, 111, 116]) || (x.kind.toList == [102, 111, 114, 103, 101, 116]) || (x.kind.toList == [100, 114, 111, 112])
def passes (x : Ac) (g : Int) : Bool := (x.kind.toList == [115, 99, 97, 110]) || (x.kind.toList == [115, 99, 97, 110, 97, 108, 108]) || (inner x && (x.n != g))
theorem fDid_cases {P : (Int × Int) × (Nat → Option Fl) → (Int × Int) × (Nat → Option Fl) → Prop} (N : Nat) (x : Ac) (h0 : (x.kind.toList == [97, 100, 100]) = true → P ((cAdd F, if (cAdd F).2 = 0 then setAt F (cAdd F).1.toNat (some fl0) else F)) ((cAdd F', if (cAdd F').2 = 0 then setAt F' (cAdd F').1.toNat (some fl0) else F'))) (h1 : (x.kind.toList == [114, 101, 109, 111, 118, 101]) = true → P (((0, fWho F x.n), if fWho F x.n = 0 then setAt F x.n.toNat none else F)) (((0, fWho F' x.n), if fWho F' x.n = 0 then setAt F' x.n.toNat none else F'))) (h2 : (x.kind.toList == [112, 108, 117, 103]) = true → P (((0, cPlug F N x.n x.a), if cPlug F N x.n x.a = 0 then setAt F x.n.toNat ((F x.n.toNat).map fun f => fTurnTo f x.a.toNat 1 4) else F)) (((0, cPlug F' N x.n x.a), if cPlug F' N x.n x.a = 0 then setAt F' x.n.toNat ((F' x.n.toNat).map fun f => fTurnTo f x.a.toNat 1 4) else F'))) (h3 : (x.kind.toList == [117, 110, 112, 108, 117, 103]) = true → P (((0, cUnplug F x.n x.a), if cUnplug F x.n x.a = 0 then setAt F x.n.toNat ((F x.n.toNat).map fun f => fTurnTo f x.a.toNat 0 4) else F)) (((0, cUnplug F' x.n x.a), if cUnplug F' x.n x.a = 0 then setAt F' x.n.toNat ((F' x.n.toNat).map fun f => fTurnTo f x.a.toNat 0 4) else F'))) (h4 : (x.kind.toList == [103, 105, 118, 101]) = true → P (((0, cGive F N x.n x.a false), if cGive F N x.n x.a false = 0 then setAt F x.n.toNat ((F x.n.toNat).map fun f => fTurn f x.a.toNat 2) else F)) (((0, cGive F' N x.n x.a false), if cGive F' N x.n x.a false = 0 then setAt F' x.n.toNat ((F' x.n.toNat).map fun f => fTurn f x.a.toNat 2) else F'))) (h5 : (x.kind.toList == [98, 97, 99, 107]) = true → P (((0, cGive F N x.n x.a true), if cGive F N x.n x.a true = 0 then setAt F x.n.toNat ((F x.n.toNat).map fun f => fTurn f x.a.toNat 1) else F)) (((0, cGive F' N x.n x.a true), if cGive F' N x.n x.a true = 0 then setAt F' x.n.toNat ((F' x.n.toNat).map fun f => fTurn f x.a.toNat 1) else F'))) (h6 : (x.kind.toList == [108, 111, 97, 100]) = true → P (fAct F x.n fun f => fLoad f x.a) (fAct F' x.n fun f => fLoad f x.a)) (h7 : (x.kind.toList == [115, 116, 111, 114, 101]) = true → P (fAct F x.n fun f => ((0, (fStore f x.a x.v).1), (fStore f x.a x.v).2)) (fAct F' x.n fun f => ((0, (fStore f x.a x.v).1), (fStore f x.a x.v).2))) (h8 : (x.kind.toList == [114, 111, 111, 116]) = true → P (fAct F x.n fun f => ((0, (fRoot f x.a).1), (fRoot f x.a).2)) (fAct F' x.n fun f => ((0, (fRoot f x.a).1), (fRoot f x.a).2))) (h9 : (x.kind.toList == [102, 111, 114, 103, 101, 116]) = true → P (fAct F x.n fun f => ((0, (fForget f x.a).1), (fForget f x.a).2)) (fAct F' x.n fun f => ((0, (fForget f x.a).1), (fForget f x.a).2))) (h10 : (x.kind.toList == [100, 114, 111, 112]) = true → P (fAct F x.n fun f => ((0, (fDrop f x.a).1), (fDrop f x.a).2)) (fAct F' x.n fun f => ((0, (fDrop f x.a).1), (fDrop f x.a).2))) (h11 : (x.kind.toList == [115, 99, 97, 110]) = true → P (((0, cScan F x.n x.a), F)) (((0, cScan F' x.n x.a), F'))) (h12 : (x.kind.toList == [115, 99, 97, 110, 97, 108, 108]) = true → P (((0, 0), F)) (((0, 0), F'))) (he : P ((0, 0), F) ((0, 0), F')) : P (fDid F N x) (fDid F' N x) := by
  unfold fDid
  by_cases k0 : (x.kind.toList == [97, 100, 100]) = true
  · rw [if_pos k0, if_pos k0]; exact h0 k0
  · rw [if_neg k0, if_neg k0]
    by_cases k1 : (x.kind.toList == [114, 101, 109, 111, 118, 101]) = true
    · rw [if_pos k1, if_pos k1]; exact h1 k1
    · rw [if_neg k1, if_neg k1]
      by_cases k2 : (x.kind.toList == [112, 108, 117, 103]) = true
      · rw [if_pos k2, if_pos k2]; exact h2 k2
      · rw [if_neg k2, if_neg k2]
        by_cases k3 : (x.kind.toList == [117, 110, 112, 108, 117, 103]) = true
        · rw [if_pos k3, if_pos k3]; exact h3 k3
        · rw [if_neg k3, if_neg k3]
          by_cases k4 : (x.kind.toList == [103, 105, 118, 101]) = true
          · rw [if_pos k4, if_pos k4]; exact h4 k4
          · rw [if_neg k4, if_neg k4]
            by_cases k5 : (x.kind.toList == [98, 97, 99, 107]) = true
            · rw [if_pos k5, if_pos k5]; exact h5 k5
            · rw [if_neg k5, if_neg k5]
              by_cases k6 : (x.kind.toList == [108, 111, 97, 100]) = true
              · rw [if_pos k6, if_pos k6]; exact h6 k6
              · rw [if_neg k6, if_neg k6]
                by_cases k7 : (x.kind.toList == [115, 116, 111, 114, 101]) = true
                · rw [if_pos k7, if_pos k7]; exact h7 k7
                · rw [if_neg k7, if_neg k7]
                  by_cases k8 : (x.kind.toList == [114, 111, 111, 116]) = true
                  · rw [if_pos k8, if_pos k8]; exact h8 k8
                  · rw [if_neg k8, if_neg k8]
                    by_cases k9 : (x.kind.toList == [102, 111, 114, 103, 101, 116]) = true
                    · rw [if_pos k9, if_pos k9]; exact h9 k9
                    · rw [if_neg k9, if_neg k9]
                      by_cases k10 : (x.kind.toList == [100, 114, 111, 112]) = true
                      · rw [if_pos k10, if_pos k10]; exact h10 k10
                      · rw [if_neg k10, if_neg k10]
                        by_cases k11 : (x.kind.toList == [115, 99, 97, 110]) = true
                        · rw [if_pos k11, if_pos k11]; exact h11 k11
                        · rw [if_neg k11, if_neg k11]
                          by_cases k12 : (x.kind.toList == [115, 99, 97, 110, 97, 108, 108]) = true
                          · rw [if_pos k12, if_pos k12]; exact h12 k12
                          · rw [if_neg k12, if_neg k12]
                            exact he
theorem Apn.pass (a : Apn g F F') (N : Nat) (x : Ac) (hp : passes x g = true) : Apn g (fDid F N x).2 F' := by
  have hk : ∀ l : List UInt8, (x.kind.toList == l) = true → x.kind.toList = l := fun l h => by simpa using h
  refine fDid_cases (F' := F') (P := fun r _ => Apn g r.2 F') N x (fun k => ?_) (fun k => ?_) (fun k => ?_) (fun k => ?_) (fun k => ?_) (fun k => ?_) (fun k => ?_) (fun k => ?_) (fun k => ?_) (fun k => ?_) (fun k => ?_) (fun k => ?_) (fun k => ?_) a
  · exfalso
    unfold passes inner at hp
    rw [hk _ k] at hp
    simp at hp
  · exfalso
    unfold passes inner at hp
    rw [hk _ k] at hp
    simp at hp
  · exfalso
    unfold passes inner at hp
    rw [hk _ k] at hp
    simp at hp
  · exfalso
    unfold passes inner at hp
    rw [hk _ k] at hp
    simp at hp
  · exfalso
    unfold passes inner at hp
    rw [hk _ k] at hp
    simp at hp
  · exfalso
    unfold passes inner at hp
    rw [hk _ k] at hp
    simp at hp
  · refine a.left (fun e => ?_) (fun f => fLoad_st f x.a)
    unfold passes inner at hp
    rw [hk _ k] at hp
    simp [e] at hp
  · refine a.left (fun e => ?_) (fun f => fStore_st f x.a x.v)
    unfold passes inner at hp
    rw [hk _ k] at hp
    simp [e] at hp
  · refine a.left (fun e => ?_) (fun f => fRoot_st f x.a)
    unfold passes inner at hp
    rw [hk _ k] at hp
    simp [e] at hp
  · refine a.left (fun e => ?_) (fun f => fForget_st f x.a)
    unfold passes inner at hp
    rw [hk _ k] at hp
    simp [e] at hp
  · refine a.left (fun e => ?_) (fun f => fDrop_st f x.a)
    unfold passes inner at hp
    rw [hk _ k] at hp
    simp [e] at hp
  · exact a
  · exact a
theorem Apn.step (a : Apn g F F') (N : Nat) (x : Ac) (hp : passes x g = false) : (fDid F N x).1 = (fDid F' N x).1 ∧ Apn g (fDid F N x).2 (fDid F' N x).2 := by
  have hk : ∀ l : List UInt8, (x.kind.toList == l) = true → x.kind.toList = l := fun l h => by simpa using h
  refine fDid_cases (P := fun r q => r.1 = q.1 ∧ Apn g r.2 q.2) N x (fun k => ?_) (fun k => ?_) (fun k => ?_) (fun k => ?_) (fun k => ?_) (fun k => ?_) (fun k => ?_) (fun k => ?_) (fun k => ?_) (fun k => ?_) (fun k => ?_) (fun k => ?_) (fun k => ?_) ⟨rfl, a⟩
  · rw [a.alk.add]
    refine ⟨rfl, ?_⟩
    simp only
    split
    · exact a.put _ _
    · exact a
  · rw [a.alk.who]
    refine ⟨rfl, ?_⟩
    simp only
    split
    · exact a.put _ _
    · exact a
  · rw [a.alk.plug]
    refine ⟨rfl, ?_⟩
    simp only
    split
    · exact a.map _ _ (fun f f' hs => turnTo_alike _ _ f f' hs 4)
    · exact a
  · rw [a.alk.unplug]
    refine ⟨rfl, ?_⟩
    simp only
    split
    · exact a.map _ _ (fun f f' hs => turnTo_alike _ _ f f' hs 4)
    · exact a
  · rw [a.alk.give]
    refine ⟨rfl, ?_⟩
    simp only
    split
    · exact a.map _ _ (turn_alike _ _)
    · exact a
  · rw [a.alk.give]
    refine ⟨rfl, ?_⟩
    simp only
    split
    · exact a.map _ _ (turn_alike _ _)
    · exact a
  · have e : x.n = g := by
      unfold passes inner at hp
      rw [hk _ k] at hp
      simpa using hp
    rw [e]
    exact a.both (fun f => fLoad f x.a)
  · have e : x.n = g := by
      unfold passes inner at hp
      rw [hk _ k] at hp
      simpa using hp
    rw [e]
    exact a.both (fun f => ((0, (fStore f x.a x.v).1), (fStore f x.a x.v).2))
  · have e : x.n = g := by
      unfold passes inner at hp
      rw [hk _ k] at hp
      simpa using hp
    rw [e]
    exact a.both (fun f => ((0, (fRoot f x.a).1), (fRoot f x.a).2))
  · have e : x.n = g := by
      unfold passes inner at hp
      rw [hk _ k] at hp
      simpa using hp
    rw [e]
    exact a.both (fun f => ((0, (fForget f x.a).1), (fForget f x.a).2))
  · have e : x.n = g := by
      unfold passes inner at hp
      rw [hk _ k] at hp
      simpa using hp
    rw [e]
    exact a.both (fun f => ((0, (fDrop f x.a).1), (fDrop f x.a).2))
  · exfalso
    unfold passes inner at hp
    rw [hk _ k] at hp
    simp at hp
  · exfalso
    unfold passes inner at hp
    rw [hk _ k] at hp
    simp at hp
end Go.Proofs.YtadpibcgjgcjhabGreat
/- TopApart: where it begins; both hosts in one state. -/
namespace Go.Proofs.YtadpibcgjgcjhabGreat
open Go.ChangeShapes Go.WideShapes Go.ChangeAt Go.RowKit
set_option maxRecDepth 100000
attribute [local go_sem ↓] Go.wp_at_zero Go.wp_at_succ

theorem lightH_yes (w : World) (a : Option Addr) (len cap : Nat) (h : len ≤ 100) :
    Calls Tryz.prog 5 #[.slice a len cap, .int .i64 100] w fun e w' => e = .returned (.bool true) ∧ w' = w := by
  have hd : decide ((len : Int) ≤ 100) = true := by simp; omega
  go_enter Tryz.func5, Tryz.ntmps5
  go_wp2
  go_ret
  exact ⟨rfl, rfl⟩
theorem lightH_no (w : World) (a : Option Addr) (len cap : Nat) (h : 100 < len) :
    Calls Tryz.prog 5 #[.slice a len cap, .int .i64 100] w fun e w' => e = .returned (.bool false) ∧ w' = w := by
  have hd : decide ((len : Int) ≤ 100) = false := by simp; omega
  go_enter Tryz.func5, Tryz.ntmps5
  go_wp2
  go_ret
  exact ⟨rfl, rfl⟩
theorem cntTo_off {L : Nat → Lf} (f : Int) (hl : ∀ k, (L k).there = false) : ∀ K, cntTo L f K = 0
  | 0 => rfl
  | K + 1 => by
    rw [cntTo_succ, cntTo_off f hl K]
    unfold inIn
    rw [hl K]
    simp
theorem pln_off {S : Nat → Int} (hs : ∀ k, S k = 0) : ∀ K, pln S K = 0
  | 0 => rfl
  | K + 1 => by
    simp only [pln]
    rw [pln_off hs K, hs K]
    simp
/-- A new host. -/
theorem HF.start (n : Nat) : HF (hs0 n) (fun _ _ => 0) (fun _ => none) 0 := by
  have hl : ∀ k, (rowL (hs0 n) k).there = false := fun _ => rfl
  have no : ∀ k, (rowL (hs0 n) k).there = true → False := fun k ht => by rw [hl k] at ht; cases ht
  have ng : ∀ i x, (hs0 n).g i = some x → False := fun i x hx => by cases hx
  have hs : ∀ k, rowS (hs0 n) k = 0 := fun _ => rfl
  have hp := pln_off hs 64
  refine ⟨⟨⟨⟨fun f _ => (by rw [cntTo_off f hl]; rfl), fun k _ ht => (no k ht).elim⟩, fun _ _ => ⟨Int.le_refl _, (by show (0 : Int) ≤ 255; omega)⟩, fun i x hx => (ng i x hx).elim⟩, ⟨fun k _ ht => (no k ht).elim, fun _ _ _ _ _ => rfl, fun k _ ht => (no k ht).elim⟩, (by rw [hp]; exact Nat.zero_le _)⟩, fun i x hx => (ng i x hx).elim, fun _ => ⟨fun _ => rfl, fun _ => rfl⟩, fun i x f hx => (ng i x hx).elim⟩
/-- A host in memory, with what its guests see; its blocks are new. -/
structure HS (W w : World) (n k : Nat) (bh bp bf : Nat) (G : Nat → G3) (h : Hs) (F : Nat → Option Fl) : Prop where
  m : HM w bh bp bf G h
  hf : ∃ t, HF h t F (k : Int)
  n : h.s.n = n
  new : ∀ j, Own bh bp bf G h j → W.heap.size ≤ j
theorem HS.start {W w w' : World} {n bh bp bf : Nat} (hn : ∀ G, HM w' bh bp bf G (hs0 n)) (u : Upd (fun _ => False) W w) (h1 : w.heap.size ≤ bh) (h2 : w.heap.size ≤ bp) (h3 : w.heap.size ≤ bf) (G : Nat → G3) : HS W w' n 0 bh bp bf G (hs0 n) (fun _ => none) := by
  refine ⟨hn G, ⟨_, HF.start n⟩, rfl, fun j hj => ?_⟩
  have := u.size
  rcases hj with e | e | e | ⟨i, x, hx, _⟩
  · omega
  · omega
  · omega
  · cases hx
theorem HS.keep {W w w' : World} {n k bh bp bf : Nat} {G : Nat → G3} {h : Hs} {F : Nat → Option Fl} {S : Nat → Prop} (s : HS W w n k bh bp bf G h F) (u : Upd S w w') (hS : ∀ j, Own bh bp bf G h j → ¬ S j) : HS W w' n k bh bp bf G h F := ⟨s.m.upd u hS, s.hf, s.n, s.new⟩
theorem HS.more {W w : World} {n k bh bp bf : Nat} {G : Nat → G3} {h : Hs} {F : Nat → Option Fl} (s : HS W w n k bh bp bf G h F) : HS W w n (k + 1) bh bp bf G h F := ⟨s.m, by obtain ⟨t, ht⟩ := s.hf; exact ⟨t, ht.more (by omega)⟩, s.n, s.new⟩
/-- An act. -/
theorem HS.act {W w w' : World} {n k bh bp bf : Nat} {G : Nat → G3} {h : Hs} {F : Nat → Option Fl} (s : HS W w n k bh bp bf G h F) (uW : Upd (fun _ => False) W w) (x : Ac) (v0 : 0 ≤ x.v) (v1 : x.v ≤ 255) (hd : DPost w bh bp bf G h (hDid h x) w') :
    ∃ G', HS W w' n (k + 1) bh bp bf G' (hDid h x).2 (fDid F n x).2 ∧ (∀ j, Own bh bp bf G' (hDid h x).2 j → Own bh bp bf G h j ∨ w.heap.size ≤ j) := by
  obtain ⟨⟨G', hm, ho⟩, hu⟩ := hd
  obtain ⟨t, ht⟩ := s.hf
  obtain ⟨_, ⟨t', h2⟩, h3⟩ := ht.tells (by omega) x v0 v1
  rw [s.n] at h2 h3
  refine ⟨G', ⟨hm, ⟨t', ?_⟩, h3, fun j hj => ?_⟩, ho⟩
  · have e : ((k + 1 : Nat) : Int) = (k : Int) + 1 := by omega
    rw [e]
    exact h2
  · have := uW.size
    rcases ho j hj with e | e
    · exact s.new j e
    · omega
theorem HS.ans {W w : World} {n k bh bp bf : Nat} {G : Nat → G3} {h : Hs} {F : Nat → Option Fl} (s : HS W w n k bh bp bf G h F) (x : Ac) (v0 : 0 ≤ x.v) (v1 : x.v ≤ 255) : (hDid h x).1 = (fDid F n x).1 := by
  obtain ⟨t, ht⟩ := s.hf
  have := (ht.tells (by omega) x v0 v1).ans
  rw [s.n] at this
  exact this
theorem HS.did {W w : World} {n k bh bp bf : Nat} {G : Nat → G3} {h : Hs} {F : Nat → Option Fl} (s : HS W w n k bh bp bf G h F) (hk : k ≤ 1000) (x : Ac) (v0 : 0 ≤ x.v) (v1 : x.v ≤ 255) :
    Calls Tryz.prog 6 #[.pointer (some ⟨bh, 0, none⟩), .agg #[.string x.kind, .int .i64 x.n, .int .i64 x.a, .int .i64 x.b, .int .u8 x.v, .bool x.on]] w
      fun e w' => e = .returned (.tuple #[.int .i64 (fDid F n x).1.1, .int .i64 (fDid F n x).1.2]) ∧ DPost w bh bp bf G h (hDid h x) w' := by
  obtain ⟨t, ht⟩ := s.hf
  have := did_any s.m ht (by omega) (by omega) x v0 v1
  rw [s.ans x v0 v1] at this
  exact this
/-- Both hosts of TopApart. -/
structure A2 (W w : World) (n k : Nat) (g : Int) (bh bp bf ch cp cf : Nat) : Prop where
  ex : ∃ G h F G' o F', HS W w n k bh bp bf G h F ∧ HS W w n k ch cp cf G' o F' ∧ Apn g F F' ∧ ∀ j, Own bh bp bf G h j → ¬ Own ch cp cf G' o j
  up : Upd (fun _ => False) W w
theorem A2.same {W w w' : World} {n k : Nat} {g : Int} {bh bp bf ch cp cf : Nat} (a : A2 W w n k g bh bp bf ch cp cf) (u : Upd (fun _ => False) w w') : A2 W w' n k g bh bp bf ch cp cf := by
  obtain ⟨G, h, F, G', o, F', h1, h2, h3, h4⟩ := a.ex
  exact ⟨⟨G, h, F, G', o, F', h1.keep u (fun _ _ f => f), h2.keep u (fun _ _ f => f), h3, h4⟩, a.up.trans u (fun _ _ f => f)⟩
end Go.Proofs.YtadpibcgjgcjhabGreat
/- TopFrames, plainly: guests one behind the other; frames counted. -/
namespace Go.Proofs.YtadpibcgjgcjhabGreat
open Go.RowKit
variable {h : Hs} {W : Int} {t : Nat → Nat → Int} {F : Nat → Option Fl} {x : Gs}

theorem nums_none {m : Nat} (hx : h.g m = none) : hNums h (m + 1) = hNums h m := by simp only [hNums, hx, List.append_nil]
theorem nums_some {m : Nat} (hx : h.g m = some x) : hNums h (m + 1) = hNums h m ++ [m] := by simp only [hNums, hx]
theorem nums_pre (h : Hs) (m : Nat) : ∀ k, ∃ l, hNums h (m + k) = hNums h m ++ l
  | 0 => ⟨[], by simp⟩
  | k + 1 => by
    obtain ⟨l, hl⟩ := nums_pre h m k
    rw [← Nat.add_assoc]
    cases hx : h.g (m + k) with
    | none => exact ⟨l, by rw [nums_none hx, hl]⟩
    | some x => exact ⟨l ++ [m + k], by rw [nums_some hx, hl, List.append_assoc]⟩
/-- The next guest. -/
theorem nums_next (h : Hs) : ∀ (d m : Nat), m + d = 4 → (hNums h m).length < (hNums h 4).length →
    ∃ m' x, m ≤ m' ∧ m' < 4 ∧ h.g m' = some x ∧ (∀ j, m ≤ j → j < m' → h.g j = none) ∧ (hNums h 4).getD (hNums h m).length 0 = m' ∧ hNums h m' = hNums h m
  | 0, m, e, hl => by
    obtain rfl : m = 4 := by omega
    omega
  | d + 1, m, e, hl => by
    cases hx : h.g m with
    | some x =>
      refine ⟨m, x, Nat.le_refl _, by omega, hx, fun j h1 h2 => by omega, ?_, rfl⟩
      obtain ⟨l, hp⟩ := nums_pre h (m + 1) d
      rw [show m + 1 + d = 4 by omega, nums_some hx] at hp
      rw [hp]
      simp
    | none =>
      have hn := nums_none hx
      rw [← hn] at hl ⊢
      obtain ⟨m', x, a, b, c, d', e', f⟩ := nums_next h d (m + 1) (by omega) hl
      refine ⟨m', x, by omega, b, c, fun j h1 h2 => ?_, e', f⟩
      by_cases ej : j = m
      · subst ej; exact hx
      · exact d' j (by omega) h2
theorem nums_end (h : Hs) : ∀ (d m : Nat), m + d = 4 → ¬ (hNums h m).length < (hNums h 4).length → ∀ j, m ≤ j → j < 4 → h.g j = none
  | 0, m, e, _, j, h1, h2 => by omega
  | d + 1, m, e, hl, j, h1, h2 => by
    cases hx : h.g m with
    | some x =>
      exfalso
      obtain ⟨l, hp⟩ := nums_pre h (m + 1) d
      rw [show m + 1 + d = 4 by omega, nums_some hx] at hp
      rw [hp] at hl
      simp at hl
    | none =>
      by_cases ej : j = m
      · subst ej; exact hx
      · rw [← nums_none hx] at hl
        exact nums_end h d (m + 1) (by omega) hl j (by omega) h2
theorem row_none {m j : Nat} (hx : h.g m = none) (hj : j < 16) : rowL h (16 * m + j) = lf0 ∧ rowS h (16 * m + j) = 0 := by
  unfold rowL rowS
  rw [show (16 * m + j) / 16 = m by omega, hx]
  exact ⟨rfl, rfl⟩
/-- Where no guest is, nothing is counted. -/
theorem cnt_none {m : Nat} (f : Int) (hx : h.g m = none) : ∀ j, j ≤ 16 → cntTo (rowL h) f (16 * m + j) = cntTo (rowL h) f (16 * m)
  | 0, _ => rfl
  | j + 1, hj => by
    rw [← Nat.add_assoc, cntTo_succ, cnt_none f hx j (by omega)]
    unfold inIn
    rw [(row_none hx (show j < 16 by omega)).1]
    simp [lf0]
theorem cnt_skip (f : Int) (m : Nat) : ∀ d, (∀ j, m ≤ j → j < m + d → h.g j = none) → cntTo (rowL h) f (16 * (m + d)) = cntTo (rowL h) f (16 * m) ∧ pln (rowS h) (16 * (m + d)) = pln (rowS h) (16 * m)
  | 0, _ => ⟨rfl, rfl⟩
  | d + 1, hn => by
    obtain ⟨h1, h2⟩ := cnt_skip f m d (fun j a b => hn j a (by omega))
    have hx := hn (m + d) (by omega) (by omega)
    have e : 16 * (m + (d + 1)) = 16 * (m + d) + 16 := by omega
    rw [e, cnt_none f hx 16 (by omega), pln_none hx 16 (by omega)]
    exact ⟨h1, h2⟩
/-- A page's leaf. -/
theorem HF.leafOk (hf : HF h t F W) (h64 : h.s.n ≤ 64) {m k : Nat} (hx : h.g m = some x) (hk : k < 16) : ((x.m.lf k).there = true → x.m.st k = 1) ∧ 0 ≤ (x.m.lf k).fr ∧ (x.m.lf k).fr ≤ 63 ∧ ((x.m.lf k).wr = true → (x.m.lf k).there = true) := by
  obtain ⟨hm, ok⟩ := hf.hr.inv.gi m x hx
  cases ht : (x.m.lf k).there with
  | true =>
    have hr := hf.hr.inv.cn.rng (16 * m + k) (by omega)
    rw [rowL_at hx hk] at hr
    have := hr ht
    exact ⟨fun _ => ok.pg.plain hk ht, this.1, by omega, fun _ => rfl⟩
  | false =>
    have e : x.m.lf k = lf0 := (ok.pg k hk).2 (Or.inr ht)
    rw [e]
    exact ⟨fun c => (by cases c), (by show (0 : Int) ≤ 0; omega), (by show (0 : Int) ≤ 63; omega), fun c => (by cases c)⟩
/-- How many frames are taken. -/
def usedTo (a : Nat → Int) : Nat → Nat
  | 0 => 0
  | f + 1 => usedTo a f + if 0 < a f then 1 else 0
theorem used_le (a : Nat → Nat) : ∀ n, usedTo (fun f => (a f : Int)) n ≤ totTo a n
  | 0 => Nat.le_refl _
  | n + 1 => by
    have := used_le a n
    simp only [usedTo, totTo]
    split <;> omega
theorem taken_free (a : Nat → Int) : ∀ n, (∀ f, f < n → 0 ≤ a f) → usedTo a n + freeTo a n = n
  | 0, _ => rfl
  | n + 1, hz => by
    have := taken_free a n (fun f hf => hz f (by omega))
    have := hz n (by omega)
    simp only [usedTo, freeTo]
    by_cases e : a n = 0
    · rw [if_neg (by omega), if_pos e]; omega
    · rw [if_pos (by omega), if_neg e]; omega
theorem usedTo_congr {a b : Nat → Int} : ∀ n, (∀ f, f < n → a f = b f) → usedTo a n = usedTo b n
  | 0, _ => rfl
  | n + 1, hc => by simp only [usedTo]; rw [usedTo_congr n (fun f hf => hc f (by omega)), hc n (by omega)]
/-- No more frames are taken than are promised. -/
theorem HF.used (hf : HF h t F W) : usedTo h.s.refs h.s.n ≤ pln (rowS h) 64 := by
  rw [usedTo_congr (b := fun f => ((cntTo (rowL h) f 64 : Nat) : Int)) h.s.n (fun f hl => hf.hr.inv.cn.cnt f hl)]
  have h1 := used_le (fun f => cntTo (rowL h) (f : Int) 64) h.s.n
  rw [sum_cnt (rowL h) h.s.n 64 (fun k hk ht => hf.hr.inv.cn.rng k hk ht)] at h1
  exact Nat.le_trans h1 (thr_pln _ _ 64 (fun k hk ht => hf.hr.there k hk ht))
end Go.Proofs.YtadpibcgjgcjhabGreat
/- TopMerge, plainly: what is told of a frame; a slice of bytes. -/
namespace Go.Proofs.YtadpibcgjgcjhabGreat
open Go.ChangeShapes Go.WideShapes Go.ChangeAt Go.RowKit
set_option maxRecDepth 100000
variable {h : Hs} {W : Int} {t : Nat → Nat → Int} {F : Nat → Option Fl} {x : Gs} {K : Nat}

/-- A frame's bytes as a text. -/
def strF (s : Pl) (f : Nat) : ByteArray := strOfNums ((List.range 16).map (s.byt f))
theorem strF_ne (s : Pl) (f : Nat) : strF s f ≠ ByteArray.empty := fun e => by
  have h1 : (strF s f).size = 16 := by unfold strF; rw [strOfNums_size]; simp
  rw [e] at h1
  cases h1
theorem strF_full (s : Pl) (f : Nat) : (strF s f).toList.isEmpty = false := by
  rw [ByteArray.toList_eq]
  unfold strF
  rw [strOfNums_data]
  simp
theorem tl_inj {a b : ByteArray} (h : a.toList = b.toList) : a = b := by
  rw [ByteArray.toList_eq, ByteArray.toList_eq] at h
  obtain ⟨a⟩ := a
  obtain ⟨b⟩ := b
  congr
  exact Array.toList_inj.1 h
theorem byte_inj {a b : Int} (ha : 0 ≤ a ∧ a ≤ 255) (hb : 0 ≤ b ∧ b ≤ 255) (e : UInt8.ofNat a.toNat = UInt8.ofNat b.toNat) : a = b := by
  have h1 := congrArg UInt8.toNat e
  simp only [UInt8.toNat_ofNat'] at h1
  omega
theorem strF_inj {s : Pl} (hb : BytOk s) {f g : Nat} (e : strF s f = strF s g) : ∀ i, i < 16 → s.byt f i = s.byt g i := by
  intro i hi
  have h1 : (strF s f).data.toList = (strF s g).data.toList := by rw [e]
  unfold strF at h1
  rw [strOfNums_data, strOfNums_data, List.map_map, List.map_map] at h1
  have h2 := congrArg (fun l => l[i]?) h1
  simp only [List.getElem?_map, List.getElem?_range hi, Option.map_some, Option.some.injEq, Function.comp] at h2
  exact byte_inj (hb f i) (hb g i) h2
/-- What is told of a frame, up to a place. -/
def SA (h : Hs) (K f : Nat) : ByteArray := if 0 < cntTo (rowL h) (f : Int) K then strF h.s f else ByteArray.empty
theorem SA_or (h : Hs) (K f : Nat) : SA h K f = ByteArray.empty ∨ SA h K f = strF h.s f := by
  unfold SA
  split
  · exact Or.inr rfl
  · exact Or.inl rfl
theorem SA_no (ht : (rowL h K).there = false) : SA h (K + 1) = SA h K := by
  funext f
  unfold SA
  rw [cntTo_succ]
  unfold inIn
  rw [ht]
  simp
theorem SA_yes (ht : (rowL h K).there = true) {fr : Nat} (hfr : (rowL h K).fr = (fr : Int)) : SA h (K + 1) = setAt (SA h K) fr (strF h.s fr) := by
  funext f
  by_cases e : f = fr
  · subst e
    have hc : cntTo (rowL h) (f : Int) (K + 1) = cntTo (rowL h) (f : Int) K + 1 := by
      rw [cntTo_succ]
      unfold inIn
      rw [if_pos ⟨ht, hfr⟩]
    rw [setAt_same]
    unfold SA
    rw [hc, if_pos (by omega)]
  · have hc : cntTo (rowL h) (f : Int) (K + 1) = cntTo (rowL h) (f : Int) K := by
      rw [cntTo_succ]
      unfold inIn
      rw [if_neg (fun c => e (by have := c.2; omega))]
      rfl
    rw [setAt_other _ _ _ _ e]
    unfold SA
    rw [hc]
theorem SA_skip (m d : Nat) (hn : ∀ j, m ≤ j → j < m + d → h.g j = none) : SA h (16 * (m + d)) = SA h (16 * m) := by
  funext f
  unfold SA
  rw [(cnt_skip (h := h) (f : Int) m d hn).1]
theorem SA_zero (h : Hs) : SA h 0 = fun _ => ByteArray.empty := rfl
theorem cnt_pos {L : Nat → Lf} {f : Int} : ∀ K, 0 < cntTo L f K → ∃ i, i < K ∧ (L i).there = true ∧ (L i).fr = f
  | 0, h => absurd h (by simp [cntTo])
  | K + 1, h => by
    rw [cntTo_succ] at h
    unfold inIn at h
    by_cases c : (L K).there = true ∧ (L K).fr = f
    · exact ⟨K, by omega, c.1, c.2⟩
    · rw [if_neg c] at h
      obtain ⟨i, hi, r⟩ := cnt_pos K (by omega)
      exact ⟨i, by omega, r⟩
/-- Behind ScanAll no two frames have the same text. -/
theorem SA_end (hf : HF h t F W) (mg : Mg h t 64) {f g : Nat} (hne : f ≠ g) (h1 : SA h 64 f ≠ ByteArray.empty) : SA h 64 f ≠ SA h 64 g := by
  intro e
  have hcf : 0 < cntTo (rowL h) (f : Int) 64 := by
    by_cases c : 0 < cntTo (rowL h) (f : Int) 64
    · exact c
    · exact absurd (by unfold SA; rw [if_neg c]) h1
  have hcg : 0 < cntTo (rowL h) (g : Int) 64 := by
    by_cases c : 0 < cntTo (rowL h) (g : Int) 64
    · exact c
    · exact absurd (e.trans (by unfold SA; rw [if_neg c])) h1
  have e2 : strF h.s f = strF h.s g := by
    unfold SA at e
    rw [if_pos hcf, if_pos hcg] at e
    exact e
  obtain ⟨i, hi, ti, fi⟩ := cnt_pos 64 hcf
  obtain ⟨j, hj, tj, fj⟩ := cnt_pos 64 hcg
  have hb := strF_inj hf.hr.inv.byt e2
  have := mg i j hi hj ti tj (fun b hb16 => by
    have b1 := hf.hr.ri.byt i hi ti b hb16
    have b2 := hf.hr.ri.byt j hj tj b hb16
    rw [fi, Int.toNat_natCast] at b1
    rw [fj, Int.toNat_natCast] at b2
    rw [← b1, ← b2]
    exact hb b hb16)
  rw [fi, fj] at this
  omega
def byC (l : List Int) : List Value := l.map fun n => Value.int .u8 n
/-- A list of bytes that a slice holds. -/
def SlY (w : World) (base : Nat) (v : Value) (l : List Int) : Prop := w.ownsRow base 5 1 v l.length (byC l)
theorem SlY.nil (w : World) (base : Nat) : SlY w base (.slice none 0 0) [] := World.ownsRow_nil _ _ _ _
theorem SlY.form {w : World} {base : Nat} {v : Value} {l : List Int} (h : SlY w base v l) (hl : 0 < l.length) : ∃ g cap, v = .slice (some ⟨g, 0, none⟩) l.length cap ∧ base ≤ g ∧ g < w.heap.size ∧ ∀ i, i < l.length → w.cell? ⟨g, i, none⟩ = some (.int .u8 (l.getD i 0)) := by
  rcases h.2 with ⟨rfl, h0⟩ | ⟨g, cap, cur, rfl, hb, hg, _⟩
  · omega
  · refine ⟨g, cap, rfl, hb, ?_, fun i hi => ?_⟩
    · rcases Nat.lt_or_ge g w.heap.size with hlt | hge
      · exact hlt
      · rw [Array.getElem?_eq_none hge] at hg; cases hg
    · have hu : (byC l)[i]? = some (.int .u8 (l.getD i 0)) := by
        simp [byC, List.getElem?_map, List.getElem?_eq_getElem hi, List.getD_eq_getElem?_getD]
      have := World.ownsRow.cells h (g := g) rfl _ _ hu
      rw [Addr.add_mid, Nat.zero_add] at this
      exact this
theorem SlY.upd {S : Nat → Prop} {w w' : World} {base : Nat} {v : Value} {l : List Int} (h : SlY w base v l) (u : Upd S w w') (hS : ∀ k, v.ownBlock = some k → ¬ S k) : SlY w' base v l := by
  refine ⟨h.1, ?_⟩
  rcases h.2 with h0 | ⟨g, cap, cur, rfl, hb, hg, r⟩
  · exact Or.inl h0
  · refine Or.inr ⟨g, cap, cur, rfl, hb, ?_, r⟩
    have hlt : g < w.heap.size := by
      rcases Nat.lt_or_ge g w.heap.size with hlt | hge
      · exact hlt
      · rw [Array.getElem?_eq_none hge] at hg; cases hg
    rw [u.block g hlt (hS g (by simp [Value.ownBlock]))]
    exact hg
theorem infoBy : (Tryz.prog.info? 5).map (fun i => (i.size, i.bytes, i.zero)) = some (1, 1, some (.int .u8 0)) := by kernel_rfl
/-- The law's texts. -/
structure ArrS (w : World) (q : Nat) (S : Nat → ByteArray) : Prop where
  c : ∀ f, f < 64 → w.cell? ⟨q, f, none⟩ = some (.string (S f))
  z : ∀ o, w.frozen? ⟨q, o, none⟩ = false
theorem ArrS.lt {w : World} {q : Nat} {S : Nat → ByteArray} (r : ArrS w q S) : q < w.heap.size := World.block_lt_of_cell? w _ (r.c 0 (by omega))
theorem ArrS.upd {T : Nat → Prop} {w w' : World} {q : Nat} {S : Nat → ByteArray} (r : ArrS w q S) (u : Upd T w w') (hq : ¬ T q) : ArrS w' q S :=
  ⟨fun f hf => u.cell (r.c f hf) hq, fun o => by rw [World.frozen?_of_block (w := w) (u.block q r.lt hq)]; exact r.z o⟩
theorem ArrS.set {w : World} {q : Nat} {S : Nat → ByteArray} (r : ArrS w q S) {f : Nat} (hf : f < 64) (v : ByteArray) : ArrS (w.setCell ⟨q, f, none⟩ (.string v)) q (setAt S f v) := by
  refine ⟨fun g hg => ?_, fun o => by rw [World.frozen?_setCell]; exact r.z o⟩
  by_cases e : g = f
  · subst e; rw [World.cell?_setCell_same _ _ _ (r.c g hg), setAt_same]
  · rw [World.cell?_setCell_other _ _ _ _ (addr_ne (Or.inr (by omega))), r.c g hg, setAt_other _ _ _ _ e]
end Go.Proofs.YtadpibcgjgcjhabGreat
/- The law's alike: a page, told by a copy with its tables off. -/
namespace Go.Proofs.YtadpibcgjgcjhabGreat
open Go.ChangeShapes Go.WideShapes Go.ChangeAt Go.RowKit
set_option maxRecDepth 100000
attribute [local go_sem ↓] Go.wp_at_zero Go.wp_at_succ
variable {w w' wr : World} {bh bp bf : Nat} {G : Nat → G3} {h : Hs} {W : Int} {t : Nat → Nat → Int} {F : Nat → Option Fl} {x : Gs} {f : Fl}

/-- A byte of a page that is there, the tables off. -/
theorem load_flat (hf : HF h t F W) {g p i : Nat} (hq : F g = some f) (hr : f.root = -1) (hs : f.st p = 1) (hp : p < 16) (hi : i < 16) : ∃ h', hLoad h g (16 * (p : Int) + i) = ((f.b p i, 0), h') ∧ HF h' t F (W + 1) := by
  cases hx : h.g g with
  | none => rw [(hf.non g).1 hx] at hq; cases hq
  | some x =>
    obtain ⟨hg4, _⟩ := hf.hr.inv.gi g x hx
    obtain ⟨w0, w1⟩ := hWho_some hx hg4
    have hfl : fLoad f (16 * (p : Int) + i) = ((f.b p i, 0), f) := by
      have e1 : (16 * (p : Int) + i) / 16 = p := by omega
      have e2 : (16 * (p : Int) + i) % 16 = i := by omega
      have ha : fAt f (16 * (p : Int) + i) false = (((p : Int), 0), f) := by
        unfold fAt
        rw [if_neg (by omega), if_pos hr, e1, Int.toNat_natCast, hs]
        rfl
      unfold fLoad
      rw [ha]
      simp only
      rw [if_neg (by omega), e2, Int.toNat_natCast, Int.toNat_natCast]
    obtain ⟨h1, h2⟩ := hf.load hx hq (16 * (p : Int) + i)
    rw [hfl] at h1 h2
    have hF : setAt F g (some f) = F := by
      funext j
      by_cases e : j = g
      · subst e; rw [setAt_same, hq]
      · rw [setAt_other _ _ _ _ e]
    rw [hF] at h2
    refine ⟨h.put g (gLoad h.s x (16 * (p : Int) + i)).2, ?_, h2⟩
    unfold hLoad
    rw [w0, if_neg (by omega), w1, h1, Int.toNat_natCast]
theorem root_off (hf : HF h t F W) {g : Nat} (hx : h.g g = some x) (hq : F g = some f) : ∃ h', hRoot h g (-1) = (0, h') ∧ HF h' t (setAt F g (some { f with root := -1 })) W := by
  obtain ⟨hg4, _⟩ := hf.hr.inv.gi g x hx
  obtain ⟨w0, w1⟩ := hWho_some hx hg4
  obtain ⟨h1, h2⟩ := hf.root hx hq (-1)
  have hfr : fRoot f (-1) = (0, { f with root := -1 }) := by unfold fRoot; rw [if_neg (by omega)]
  rw [hfr] at h1 h2
  refine ⟨h.put g (h.s, (gRoot x (-1)).2), ?_, h2⟩
  unfold hRoot hAct onS
  rw [w0, if_neg (by omega), w1, Int.toNat_natCast]
  simp only
  rw [h1]
/-- The copy, and what was read of it so far. -/
structure AL (w wr : World) (bo cp cf : Nat) (C : Nat → G3) (t : Nat → Nat → Int) (F : Nat → Option Fl) (W : Int) (bs : Nat → Int) (k : Nat) (v : Value) : Prop where
  ex : ∃ hk, HM wr bo cp cf C hk ∧ HF hk t F (W + k) ∧ ∀ j, Own bo cp cf C hk j → w.heap.size ≤ j ∧ v.ownBlock ≠ some j
  sl : SlY wr w.heap.size v ((List.range k).map bs)
  up : Upd (fun _ => False) w wr
set_option maxHeartbeats 4000000 in
theorem alike_any {qa fr g p : Nat} {S : Nat → ByteArray} (m : HM w bh bp bf G h) (hf : HF h t F W) (hW : W ≤ 100000) (hx : h.g g = some x) (hp : p < 16) (ht : (x.m.lf p).there = true) (hfr : (x.m.lf p).fr = (fr : Int)) (hfr64 : fr < 64) (r : ArrS w qa S) (hS : S fr = ByteArray.empty ∨ S fr = strF h.s fr) :
    Calls Tryz.prog 11 #[.pointer (some ⟨bh, 0, none⟩), .int .i64 (g : Int), .int .i64 (p : Int), .int .i64 (fr : Int), .pointer (some ⟨qa, 0, none⟩)] w fun e w' => e = .returned (.bool true) ∧ ArrS w' qa (setAt S fr (strF h.s fr)) ∧ Upd (fun k => k = qa) w w' := by
  obtain ⟨f, hq, hv⟩ := hf.view hx
  obtain ⟨hg4, hok⟩ := hf.hr.inv.gi g x hx
  have hst : f.st p = 1 := by rw [hv.st p hp]; exact hok.pg.plain hp ht
  obtain ⟨h1, hrt, hf1⟩ := root_off hf hx hq
  have hbt : ∀ i, i < 16 → f.b p i = h.s.byt fr i := fun i hi => by
    have hL := rowL_at hx hp
    have := hf.hr.ri.byt (16 * g + p) (by omega) (by rw [hL]; exact ht) i hi
    rw [hL, hfr, Int.toNat_natCast] at this
    rw [hv.b p i hp hi, ← this]
  have hbr : ∀ i, 0 ≤ f.b p i ∧ f.b p i ≤ 255 ∨ 16 ≤ i := fun i => by
    by_cases hi : i < 16
    · rw [hbt i hi]; exact Or.inl (hf.hr.inv.byt fr i)
    · exact Or.inr (by omega)
  have HCO : Hid _ := hCopy_any m hf.hr.inv
  have HR : Hid (ArrS w qa S) := r
  have HST : Hid (({ f with root := -1 } : Fl).st p = 1) := hst
  have HF1 : Hid (HF h1 t (setAt F g (some { f with root := -1 })) W) := hf1
  have HRT : Hid (hRoot h g (-1) = (0, h1)) := hrt
  have HIV : Hid (HInv h W) := hf.hr.inv
  have HBT : Hid _ := hbt
  have HSS : Hid _ := hS
  have lqa : qa < w.heap.size := r.lt
  clear m hf hx ht hfr r hS hq hv hok hst hf1 hrt hbt
  have d1 : decide ((fr : Int) < 0) = false := by simp
  have d2 : decide (63 < (fr : Int)) = false := by simp; omega
  go_enter Tryz.func11, Tryz.ntmps11
  go_wp2_with fail
  refine Calls.mono HCO.out ?_
  rintro e w1 ⟨bo, cp, cf, rfl, hc⟩
  obtain ⟨C, hm1, ho1⟩ := hc.ex
  have hsr := hSetRoot_m hm1 HIV.out (g : Int) (-1)
  rw [HRT.out] at hsr
  unfold MPost at hsr
  simp only [errV_zero] at hsr
  have HSR : Hid _ := hsr
  have HU1 : Hid (Upd (fun _ => False) w w1) := hc.up
  have HO1 : Hid (∀ j, Own bo cp cf C h j → w.heap.size ≤ j) := ho1
  clear hc hm1 ho1 HCO hsr
  go_wp2_with fail
  refine Calls.mono HSR.out ?_
  rintro e w2 ⟨rfl, hm2, hu2⟩
  have HL0 : Hid (AL w w2 bo cp cf C t (setAt F g (some { f with root := -1 })) W (f.b p) 0 (.slice none 0 0)) := by
    refine ⟨⟨h1, hm2, ?_, fun j hj => ⟨HO1.out j ?_, by simp [Value.ownBlock]⟩⟩, SlY.nil _ _, HU1.out.trans hu2 (fun i hi e => by have := HO1.out i e; omega)⟩
    · have := HF1.out
      rwa [show W = W + ((0 : Nat) : Int) by omega] at this
    · have e : h1 = (hRoot h g (-1)).2 := by rw [HRT.out]
      rw [e] at hj
      exact own_act hj
  clear hm2 hu2 HSR HRT HF1
  go_wp2_with fail
  go_loopg [12, 13] 16 (fun gk v iv wr => ∃ k : Nat, k + gk = 16 ∧ iv = .int .i64 k ∧ Hid (AL w wr bo cp cf C t (setAt F g (some { f with root := -1 })) W (f.b p) k v))
  case atStart => exact ⟨0, by omega, rfl, HL0.out⟩
  case round =>
    clear HL0
    obtain ⟨k, hk, rfl, HL⟩ := hrel
    have HK : Hid _ := hk
    clear hk
    by_cases hlt : k < 16
    · obtain ⟨hh, hmk, hfk, hok⟩ := HL.out.ex
      obtain ⟨h2, hld, hf2⟩ := load_flat hfk (setAt_same _ _ _) rfl HST.out hp hlt
      have hlm := hLoad_m hmk hfk.hr.inv (g : Int) (16 * (p : Int) + (k : Int)) (by omega)
      rw [hld] at hlm
      unfold MLoad at hlm
      simp only [errV_zero] at hlm
      have HLM : Hid _ := hlm
      have HSY : Hid _ := HL.out.sl
      have HUW : Hid (Upd (fun _ => False) w wr) := HL.out.up
      have HOK : Hid (∀ j, Own bo cp cf C hh j → w.heap.size ≤ j ∧ u12.ownBlock ≠ some j) := hok
      have HF2 : Hid (HF h2 t (setAt F g (some { f with root := -1 })) (W + k + 1)) := hf2
      have HOO : Hid (∀ j, Own bo cp cf C h2 j → Own bo cp cf C hh j) := fun j hj => by
        have e : h2 = (hLoad hh (g : Int) (16 * (p : Int) + (k : Int))).2 := by rw [hld]
        rw [e] at hj
        exact own_load hj
      have hbk := hbr k
      have hbk : 0 ≤ f.b p k ∧ f.b p k ≤ 255 := by rcases hbk with h | h; exact h; omega
      clear hmk hfk hok hld hlm hf2 HL
      go_wp2_with fail
      refine Calls.mono HLM.out ?_
      rintro e w4 ⟨rfl, hm4, hu4⟩
      have hS4 : SlY w4 w.heap.size u12 ((List.range k).map (f.b p)) := SlY.upd HSY.out hu4 (fun j hj ho => (HOK.out j ho).2 hj)
      have HM4 : Hid (HM w4 bo cp cf C h2) := hm4
      have HU4 : Hid (Upd (fun _ => False) w w4) := HUW.out.trans hu4 (fun i hi e => by have := (HOK.out i e).1; omega)
      have hll : ((List.range k).map (f.b p)).length = k := by simp
      have HXS : Hid ((List.range (k + 1)).map (f.b p) = (List.range k).map (f.b p) ++ [f.b p k]) := show _ = _ by rw [List.range_succ, List.map_append]; rfl
      generalize (List.range k).map (f.b p) = xs at *
      generalize f.b p k = bk at *
      have HS4 : Hid (SlY w4 w.heap.size u12 xs) := hS4
      obtain ⟨i, hi, he⟩ := Option.map_eq_some_iff.1 infoBy
      simp only [Prod.mk.injEq] at he
      obtain ⟨he1, he2, he3⟩ := he
      have HE1 : Hid _ := he1
      have HE2 : Hid _ := he2
      have HE3 : Hid _ := he3
      have HI : Hid _ := hi
      clear he1 he2 he3 hi
      have HN : Hid (∀ j u, ([.int .u8 bk] : List Value)[j]? = some u → (w4.alloc (.cells #[.int .u8 bk] 5)).cell? ((⟨w4.heap.size, 0, none⟩ : Addr).add j) = some u) := by
        show ∀ j u, _
        intro j u hj
        rw [Addr.add_mid, Nat.zero_add, World.cell?_alloc_new, ← hj]
        simp
      have HO : Hid _ := World.ownsRow.alloc hS4 (.cells #[.int .u8 bk] 5)
      have HB : Hid (w.heap.size ≤ (w4.alloc (.cells #[.int .u8 bk] 5)).heap.size) := show _ ≤ _ by have := HU4.out.size; simp only [World.size_alloc]; omega
      have H1 : Hid (∀ u ∈ ([.int .u8 bk] : List Value), u.oneCell' = true) := show ∀ u ∈ ([.int .u8 bk] : List Value), _ from fun u hu' => by simp at hu'; subst hu'; rfl
      clear hm4 hu4 hS4 HLM HSY
      go_wp2_with (at_builtin; refine wpList_append_lies _ (by rfl) _ _ 67 (by rfl) w.heap.size 5 i (.int .u8 0) 1 1 Tryz.underlying67 HI.out HE3.out HE1.out HE2.out (by rfl) (by omega) u12 xs.length (byC xs) (by rfl) HO.out ⟨w4.heap.size, 0, none⟩ 1 1 ([.int .u8 bk]) (by rfl) (by rfl) HN.out H1.out (by omega) (by unfold maxLen; omega) (by omega) HB.out (w4.heap.size + 1) (by simp) ?_; intro g2 cap2 w6 hown hgrow hat hlt2)
      have ug : Upd (fun j => u12.ownBlock = some j) (w4.alloc (.cells #[.int .u8 bk] 5)) w6 := ⟨hgrow.os, hgrow.tape, hgrow.output, hgrow.size, fun j hj hs => hgrow.block j hj (fun e => hs e.symm)⟩
      have HL6 : Hid (AL w w6 bo cp cf C t (setAt F g (some { f with root := -1 })) W (f.b p) (k + 1) (.slice (some ⟨g2, 0, none⟩) (k + 1) cap2)) := by
        rw [hll] at hown
        refine ⟨⟨h2, (HM4.out.same ((Upd.refl _ _).alloc _)).upd ug (fun j hj e => (HOK.out j (HOO.out j hj)).2 e), ?_, fun j hj => ⟨(HOK.out j (HOO.out j hj)).1, fun e => ?_⟩⟩, ?_, ?_⟩
        · have := HF2.out
          rwa [show W + (k : Int) + 1 = W + ((k + 1 : Nat) : Int) by omega] at this
        · have e : g2 = j := Option.some.inj e
          rcases hat with h | h
          · rw [e] at h; exact (HOK.out j (HOO.out j hj)).2 h
          · have := HM4.out.ownLt hj; omega
        · unfold SlY
          rw [HXS.out, List.length_append, hll]
          simpa [byC] using hown
        · refine (HU4.out.alloc _).trans ug (fun j hj e => ?_)
          have := World.ownsRow.lt HS4.out j e
          omega
      clear hown hgrow hat hlt2 ug
      go_roundg (16 - (k + 1))
      case rel => exact ⟨k + 1, by omega, by go_num, HL6.out⟩
      case measure => have := HK.out; omega
    · obtain rfl : k = 16 := by have := HK.out; omega
      obtain ⟨gB, cap, rfl, hb1, hb2, hcl⟩ := HL.out.sl.form (by simp)
      have hxs : (List.range 16).map (f.b p) = (List.range 16).map (h.s.byt fr) := List.map_congr_left (fun i hi => HBT.out i (List.mem_range.1 hi))
      have hcv := fun (w' : World) (u : Upd (fun k => k = qa) wr w') => run_convert_bytes_arg (P := Tryz.prog) w' 67 5 Tryz.underlying67 Tryz.underlying5 gB 0 16 cap ((List.range 16).map (f.b p)) (by simp) (fun i hi => by rw [Nat.zero_add]; exact u.cell (hcl i (by simpa using hi)) (by have := HL.out.up.size; show ¬ gB = qa; omega)) 9 Tryz.underlying9
      rw [hxs] at hcv
      have HCV : Hid (∀ (w' : World), Upd (fun k => k = qa) wr w' → (convert 67 9 (.slice (some ⟨gB, 0, none⟩) 16 cap)).run Tryz.prog w' = .ok (.string (strF h.s fr)) w') := hcv
      have HUW : Hid (Upd (fun _ => False) w wr) := HL.out.up
      have HRW : Hid (ArrS wr qa S) := HR.out.upd HL.out.up (fun f => f)
      have cfr := HRW.out.c fr hfr64
      have zfr := HRW.out.z fr
      have f0 : (0 : Int) ≤ (fr : Int) := by omega
      have f1 : (fr : Int) < 64 := by omega
      have hlen : ((List.range 16).map (f.b p)).length = 16 := by simp
      rw [hlen]
      clear hcl hxs hcv HL hlen
      have eqs : ((strF h.s fr).toList == (strF h.s fr).toList) = true := by simp
      rcases HSS.out with hs | hs
      · rw [hs] at cfr
        have HSE : Hid _ := hs
        have cv0 := HCV.out wr (Upd.refl _ _)
        have cv1 := HCV.out wr.drew (Upd.refl _ _).drew
        have HU7 : Hid (Upd (fun k => k = qa) wr (wr.setCell ⟨qa, fr, none⟩ (.string (strF h.s fr))).drew) := (Upd.one wr qa fr (.string (strF h.s fr))).drew
        have HA7 : Hid (ArrS (wr.setCell ⟨qa, fr, none⟩ (.string (strF h.s fr))).drew qa (setAt S fr (strF h.s fr))) := (HRW.out.set hfr64 _).upd (Upd.refl (fun _ => False) _).drew (fun f => f)
        clear hs
        go_wp2_with fail
        go_region
        have HC7 : Hid _ := HA7.out.c fr hfr64
        have cv2 := HCV.out _ HU7.out
        revert HU7 HA7 HC7 cv2
        generalize (wr.setCell ⟨qa, fr, none⟩ (.string (strF h.s fr))).drew = w7
        intro HU7 HA7 HC7 cv2
        have c7 := HC7.out
        rw [setAt_same] at c7
        have cv3 := HCV.out w7.drew HU7.out.drew
        clear cv0 cv1 cfr
        go_wp2_with fail
        go_region
        all_goals (
          go_wp2_with fail
          go_ret
          exact ⟨rfl, HA7.out.upd ((Upd.refl (fun _ => False) w7).drew) (fun f => f), (HUW.out.wide (fun _ f => f.elim)).trans HU7.out.drew (fun _ _ e => e)⟩)
      · rw [hs] at cfr
        have HSE : Hid _ := hs
        have cv0 := HCV.out wr (Upd.refl _ _)
        have cv1 := HCV.out wr.drew (Upd.refl _ _).drew
        have ne := strF_full h.s fr
        clear hs
        go_wp2_with fail
        go_region
        all_goals (
          go_wp2_with fail
          go_ret
          have e : setAt S fr (strF h.s fr) = S := by
            funext j
            by_cases ej : j = fr
            · subst ej; rw [setAt_same, HSE.out]
            · rw [setAt_other _ _ _ _ ej]
          rw [e]
          exact ⟨rfl, HRW.out.upd ((Upd.refl (fun _ => False) wr).drew) (fun f => f), (HUW.out.wide (fun _ f => f.elim)).drew⟩)
end Go.Proofs.YtadpibcgjgcjhabGreat
