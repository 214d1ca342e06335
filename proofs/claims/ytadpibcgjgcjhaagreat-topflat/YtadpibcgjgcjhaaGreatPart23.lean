/- TopApart, plainly: two hosts whose pages have the same states, and one guest that sees the same. -/
import Derived.Test.YtadpibcgjgcjhaaGreatPart22
import Derived.ArgAppend
import Derived.Deep.RegionLaw
namespace Go.Proofs.YtadpibcgjgcjhaaGreat
open Go.RowKit
variable {F F' : Nat → Option Fl} {g : Int}

/-- What two hosts have in common for a guest g. -/
structure Apn (g : Int) (F F' : Nat → Option Fl) : Prop where
  alk : Alk F F'
  own : 0 ≤ g → ∀ f f', F g.toNat = some f → F' g.toNat = some f' → f = f'
theorem Apn.some (a : Apn g F F') {i : Nat} {f : Fl} (hf : F i = some f) : ∃ f', F' i = some f' ∧ f.st = f'.st := by
  cases hq : F' i with
  | none => have := ((a.alk i).1).2 hq; rw [hf] at this; cases this
  | some f' => exact ⟨f', rfl, (a.alk i).2 f f' hf hq⟩
/-- Both turn alike, by what keeps states alike. -/
theorem Apn.map (a : Apn g F F') (n : Nat) (m : Fl → Fl) (hm : ∀ f f', f.st = f'.st → (m f).st = (m f').st) : Apn g (setAt F n ((F n).map m)) (setAt F' n ((F' n).map m)) := by
  refine ⟨fun i => ?_, fun g0 f f' hf hf' => ?_⟩
  · by_cases e : i = n
    · subst e
      rw [setAt_same, setAt_same]
      refine ⟨?_, fun f f' hf hf' => ?_⟩
      · have := (a.alk i).1
        cases h1 : F i <;> cases h2 : F' i <;> simp_all
      · cases h1 : F i with
        | none => rw [h1] at hf; cases hf
        | some y =>
          cases h2 : F' i with
          | none => rw [h2] at hf'; cases hf'
          | some y' =>
            rw [h1] at hf
            rw [h2] at hf'
            cases hf
            cases hf'
            exact hm _ _ ((a.alk i).2 y y' h1 h2)
    · rw [setAt_other _ _ _ _ e, setAt_other _ _ _ _ e]
      exact a.alk i
  · by_cases e : g.toNat = n
    · rw [e, setAt_same] at hf hf'
      cases h1 : F n with
      | none => rw [h1] at hf; cases hf
      | some y =>
        cases h2 : F' n with
        | none => rw [h2] at hf'; cases hf'
        | some y' =>
          rw [h1] at hf
          rw [h2] at hf'
          cases hf
          cases hf'
          rw [a.own g0 y y' (by rw [e]; exact h1) (by rw [e]; exact h2)]
    · rw [setAt_other _ _ _ _ e] at hf hf'
      exact a.own g0 f f' hf hf'
theorem Apn.put (a : Apn g F F') (n : Nat) (o : Option Fl) : Apn g (setAt F n o) (setAt F' n o) := by
  refine ⟨fun i => ?_, fun g0 f f' hf hf' => ?_⟩
  · by_cases e : i = n
    · subst e
      rw [setAt_same, setAt_same]
      exact ⟨Iff.rfl, fun f f' h1 h2 => by rw [h1] at h2; cases h2; rfl⟩
    · rw [setAt_other _ _ _ _ e, setAt_other _ _ _ _ e]
      exact a.alk i
  · by_cases e : g.toNat = n
    · rw [e, setAt_same] at hf hf'
      rw [hf] at hf'
      cases hf'
      rfl
    · rw [setAt_other _ _ _ _ e] at hf hf'
      exact a.own g0 f f' hf hf'
/-- Another guest's processor does something: the states stay. -/
theorem Apn.left (a : Apn g F F') {n : Int} (hn : n ≠ g) {r : Fl → (Int × Int) × Fl} (hr : ∀ f, (r f).2.st = f.st) : Apn g (fAct F n r).2 F' := by
  unfold fAct
  split
  · exact a
  · next h0 =>
    have hle : 0 ≤ n ∧ n ≤ 3 ∧ ∃ f, F n.toNat = Option.some f := by
      unfold fWho at h0
      split at h0
      · omega
      · next hb =>
        cases hq : F n.toNat with
        | none => rw [hq] at h0; simp at h0
        | some f => exact ⟨by omega, by omega, f, rfl⟩
    obtain ⟨n0, n3, f0, hf0⟩ := hle
    rw [hf0, Option.getD_some]
    simp only
    refine ⟨fun i => ?_, fun g0 f f' hf hf' => ?_⟩
    · by_cases e : i = n.toNat
      · subst e
        rw [setAt_same]
        obtain ⟨f', hf', hst⟩ := a.some hf0
        refine ⟨⟨fun c => (by cases c), fun c => (by rw [hf'] at c; cases c)⟩, fun y y' hy hy' => ?_⟩
        cases hy
        rw [hf'] at hy'
        cases hy'
        rw [hr]
        exact hst
      · rw [setAt_other _ _ _ _ e]
        exact a.alk i
    · rw [setAt_other _ _ _ _ (by omega)] at hf
      exact a.own g0 f f' hf hf'
/-- The guest's own processor does something. -/
theorem Apn.both (a : Apn g F F') (r : Fl → (Int × Int) × Fl) : (fAct F g r).1 = (fAct F' g r).1 ∧ Apn g (fAct F g r).2 (fAct F' g r).2 := by
  unfold fAct
  rw [← a.alk.who g]
  split
  · exact ⟨rfl, a⟩
  · next h0 =>
    have hle : 0 ≤ g ∧ ∃ f, F g.toNat = Option.some f := by
      unfold fWho at h0
      split at h0
      · omega
      · next hb =>
        cases hq : F g.toNat with
        | none => rw [hq] at h0; simp at h0
        | some f => exact ⟨by omega, f, rfl⟩
    obtain ⟨g0, f0, hf0⟩ := hle
    obtain ⟨f', hf', _⟩ := a.some hf0
    have := a.own g0 f0 f' hf0 hf'
    subst this
    rw [hf0, hf', Option.getD_some]
    exact ⟨rfl, a.put _ _⟩
theorem turn_alike (k : Nat) (z : Int) (f f' : Fl) (hs : f.st = f'.st) : (fTurn f k z).st = (fTurn f' k z).st := by
  unfold fTurn
  simp only [hs]
theorem turnTo_alike (b : Nat) (z : Int) (f f' : Fl) (hs : f.st = f'.st) : ∀ j, (fTurnTo f b z j).st = (fTurnTo f' b z j).st
  | 0 => hs
  | j + 1 => turn_alike _ _ _ _ (turnTo_alike b z f f' hs j)
theorem fStep_st (f : Fl) (y : En) (fd wt : Bool) : (fStep f y fd wt).2.st = f.st := by
  unfold fStep
  repeat' split
  all_goals rfl
theorem fAt_st (f : Fl) (a : Int) (wt : Bool) : (fAt f a wt).2.st = f.st := by
  unfold fAt
  repeat' split
  all_goals first | rfl | exact fStep_st _ _ _ _
theorem fLoad_st (f : Fl) (a : Int) : (fLoad f a).2.st = f.st := by
  unfold fLoad
  repeat' split
  all_goals exact fAt_st _ _ _
theorem fStore_st (f : Fl) (a v : Int) : (fStore f a v).2.st = f.st := by
  unfold fStore
  repeat' split
  all_goals exact fAt_st _ _ _
theorem fRoot_st (f : Fl) (a : Int) : (fRoot f a).2.st = f.st := by unfold fRoot; split <;> rfl
theorem fForget_st (f : Fl) (a : Int) : (fForget f a).2.st = f.st := by unfold fForget; split <;> rfl
theorem fDrop_st (f : Fl) (a : Int) : (fDrop f a).2.st = f.st := by unfold fDrop; split <;> rfl
/-- What the law passes by at the second host. -/
def inner (x : Ac) : Bool := (x.kind.toList == [108, 111, 97, 100]) || (x.kind.toList == [115, 116, 111, 114, 101]) || (x.kind.toList == [114, 111, 111, 116]) || (x.kind.toList == [102, 111, 114, 103, 101, 116]) || (x.kind.toList == [100, 114, 111, 112])
def passes (x : Ac) (g : Int) : Bool := (x.kind.toList == [115, 99, 97, 110]) || (x.kind.toList == [115, 99, 97, 110, 97, 108, 108]) || (inner x && (x.n != g))
theorem fDid_cases {P : (Int × Int) × (Nat → Option Fl) → (Int × Int) × (Nat → Option Fl) → Prop} (N : Nat) (x : Ac) (h0 : (x.kind.toList == [97, 100, 100]) = true → P ((cAdd F, if (cAdd F).2 = 0 then setAt F (cAdd F).1.toNat (some fl0) else F)) ((cAdd F', if (cAdd F').2 = 0 then setAt F' (cAdd F').1.toNat (some fl0) else F'))) (h1 : (x.kind.toList == [114, 101, 109, 111, 118, 101]) = true → P (((0, fWho F x.n), if fWho F x.n = 0 then setAt F x.n.toNat none else F)) (((0, fWho F' x.n), if fWho F' x.n = 0 then setAt F' x.n.toNat none else F'))) (h2 : (x.kind.toList == [112, 108, 117, 103]) = true → P (((0, cPlug F N x.n x.a), if cPlug F N x.n x.a = 0 then setAt F x.n.toNat ((F x.n.toNat).map fun f => fTurnTo f x.a.toNat 1 4) else F)) (((0, cPlug F' N x.n x.a), if cPlug F' N x.n x.a = 0 then setAt F' x.n.toNat ((F' x.n.toNat).map fun f => fTurnTo f x.a.toNat 1 4) else F'))) (h3 : (x.kind.toList == [117, 110, 112, 108, 117, 103]) = true → P (((0, cUnplug F x.n x.a), if cUnplug F x.n x.a = 0 then setAt F x.n.toNat ((F x.n.toNat).map fun f => fTurnTo f x.a.toNat 0 4) else F)) (((0, cUnplug F' x.n x.a), if cUnplug F' x.n x.a = 0 then setAt F' x.n.toNat ((F' x.n.toNat).map fun f => fTurnTo f x.a.toNat 0 4) else F'))) (h4 : (x.kind.toList == [103, 105, 118, 101]) = true → P (((0, cGive F N x.n x.a false), if cGive F N x.n x.a false = 0 then setAt F x.n.toNat ((F x.n.toNat).map fun f => fTurn f x.a.toNat 2) else F)) (((0, cGive F' N x.n x.a false), if cGive F' N x.n x.a false = 0 then setAt F' x.n.toNat ((F' x.n.toNat).map fun f => fTurn f x.a.toNat 2) else F'))) (h5 : (x.kind.toList == [98, 97, 99, 107]) = true → P (((0, cGive F N x.n x.a true), if cGive F N x.n x.a true = 0 then setAt F x.n.toNat ((F x.n.toNat).map fun f => fTurn f x.a.toNat 1) else F)) (((0, cGive F' N x.n x.a true), if cGive F' N x.n x.a true = 0 then setAt F' x.n.toNat ((F' x.n.toNat).map fun f => fTurn f x.a.toNat 1) else F'))) (h6 : (x.kind.toList == [108, 111, 97, 100]) = true → P (fAct F x.n fun f => fLoad f x.a) (fAct F' x.n fun f => fLoad f x.a)) (h7 : (x.kind.toList == [115, 116, 111, 114, 101]) = true → P (fAct F x.n fun f => ((0, (fStore f x.a x.v).1), (fStore f x.a x.v).2)) (fAct F' x.n fun f => ((0, (fStore f x.a x.v).1), (fStore f x.a x.v).2))) (h8 : (x.kind.toList == [114, 111, 111, 116]) = true → P (fAct F x.n fun f => ((0, (fRoot f x.a).1), (fRoot f x.a).2)) (fAct F' x.n fun f => ((0, (fRoot f x.a).1), (fRoot f x.a).2))) (h9 : (x.kind.toList == [102, 111, 114, 103, 101, 116]) = true → P (fAct F x.n fun f => ((0, (fForget f x.a).1), (fForget f x.a).2)) (fAct F' x.n fun f => ((0, (fForget f x.a).1), (fForget f x.a).2))) (h10 : (x.kind.toList == [100, 114, 111, 112]) = true → P (fAct F x.n fun f => ((0, (fDrop f x.a).1), (fDrop f x.a).2)) (fAct F' x.n fun f => ((0, (fDrop f x.a).1), (fDrop f x.a).2))) (h11 : (x.kind.toList == [115, 99, 97, 110]) = true → P (((0, cScan F x.n x.a), F)) (((0, cScan F' x.n x.a), F'))) (h12 : (x.kind.toList == [115, 99, 97, 110, 97, 108, 108]) = true → P (((0, 0), F)) (((0, 0), F'))) (he : P ((0, 0), F) ((0, 0), F')) : P (fDid F N x) (fDid F' N x) := by
  unfold fDid
  by_cases k0 : (x.kind.toList == [97, 100, 100]) = true
  · rw [if_pos k0, if_pos k0]; exact h0 k0
  · rw [if_neg k0, if_neg k0]
    by_cases k1 : (x.kind.toList == [114, 101, 109, 111, 118, 101]) = true
    · rw [if_pos k1, if_pos k1]; exact h1 k1
    · rw [if_neg k1, if_neg k1]
      by_cases k2 : (x.kind.toList == [112, 108, 117, 103]) = true
      · rw [if_pos k2, if_pos k2]; exact h2 k2
      · rw [if_neg k2, if_neg k2]
        by_cases k3 : (x.kind.toList == [117, 110, 112, 108, 117, 103]) = true
        · rw [if_pos k3, if_pos k3]; exact h3 k3
        · rw [if_neg k3, if_neg k3]
          by_cases k4 : (x.kind.toList == [103, 105, 118, 101]) = true
          · rw [if_pos k4, if_pos k4]; exact h4 k4
          · rw [if_neg k4, if_neg k4]
            by_cases k5 : (x.kind.toList == [98, 97, 99, 107]) = true
            · rw [if_pos k5, if_pos k5]; exact h5 k5
            · rw [if_neg k5, if_neg k5]
              by_cases k6 : (x.kind.toList == [108, 111, 97, 100]) = true
              · rw [if_pos k6, if_pos k6]; exact h6 k6
              · rw [if_neg k6, if_neg k6]
                by_cases k7 : (x.kind.toList == [115, 116, 111, 114, 101]) = true
                · rw [if_pos k7, if_pos k7]; exact h7 k7
                · rw [if_neg k7, if_neg k7]
                  by_cases k8 : (x.kind.toList == [114, 111, 111, 116]) = true
                  · rw [if_pos k8, if_pos k8]; exact h8 k8
                  · rw [if_neg k8, if_neg k8]
                    by_cases k9 : (x.kind.toList == [102, 111, 114, 103, 101, 116]) = true
                    · rw [if_pos k9, if_pos k9]; exact h9 k9
                    · rw [if_neg k9, if_neg k9]
                      by_cases k10 : (x.kind.toList == [100, 114, 111, 112]) = true
                      · rw [if_pos k10, if_pos k10]; exact h10 k10
                      · rw [if_neg k10, if_neg k10]
                        by_cases k11 : (x.kind.toList == [115, 99, 97, 110]) = true
                        · rw [if_pos k11, if_pos k11]; exact h11 k11
                        · rw [if_neg k11, if_neg k11]
                          by_cases k12 : (x.kind.toList == [115, 99, 97, 110, 97, 108, 108]) = true
                          · rw [if_pos k12, if_pos k12]; exact h12 k12
                          · rw [if_neg k12, if_neg k12]
                            exact he
theorem Apn.pass (a : Apn g F F') (N : Nat) (x : Ac) (hp : passes x g = true) : Apn g (fDid F N x).2 F' := by
  have hk : ∀ l : List UInt8, (x.kind.toList == l) = true → x.kind.toList = l := fun l h => by simpa using h
  refine fDid_cases (F' := F') (P := fun r _ => Apn g r.2 F') N x (fun k => ?_) (fun k => ?_) (fun k => ?_) (fun k => ?_) (fun k => ?_) (fun k => ?_) (fun k => ?_) (fun k => ?_) (fun k => ?_) (fun k => ?_) (fun k => ?_) (fun k => ?_) (fun k => ?_) a
  · exfalso
    unfold passes inner at hp
    rw [hk _ k] at hp
    simp at hp
  · exfalso
    unfold passes inner at hp
    rw [hk _ k] at hp
    simp at hp
  · exfalso
    unfold passes inner at hp
    rw [hk _ k] at hp
    simp at hp
  · exfalso
    unfold passes inner at hp
    rw [hk _ k] at hp
    simp at hp
  · exfalso
    unfold passes inner at hp
    rw [hk _ k] at hp
    simp at hp
  · exfalso
    unfold passes inner at hp
    rw [hk _ k] at hp
    simp at hp
  · refine a.left (fun e => ?_) (fun f => fLoad_st f x.a)
    unfold passes inner at hp
    rw [hk _ k] at hp
    simp [e] at hp
  · refine a.left (fun e => ?_) (fun f => fStore_st f x.a x.v)
    unfold passes inner at hp
    rw [hk _ k] at hp
    simp [e] at hp
  · refine a.left (fun e => ?_) (fun f => fRoot_st f x.a)
    unfold passes inner at hp
    rw [hk _ k] at hp
    simp [e] at hp
  · refine a.left (fun e => ?_) (fun f => fForget_st f x.a)
    unfold passes inner at hp
    rw [hk _ k] at hp
    simp [e] at hp
  · refine a.left (fun e => ?_) (fun f => fDrop_st f x.a)
    unfold passes inner at hp
    rw [hk _ k] at hp
    simp [e] at hp
  · exact a
  · exact a
theorem Apn.step (a : Apn g F F') (N : Nat) (x : Ac) (hp : passes x g = false) : (fDid F N x).1 = (fDid F' N x).1 ∧ Apn g (fDid F N x).2 (fDid F' N x).2 := by
  have hk : ∀ l : List UInt8, (x.kind.toList == l) = true → x.kind.toList = l := fun l h => by simpa using h
  refine fDid_cases (P := fun r q => r.1 = q.1 ∧ Apn g r.2 q.2) N x (fun k => ?_) (fun k => ?_) (fun k => ?_) (fun k => ?_) (fun k => ?_) (fun k => ?_) (fun k => ?_) (fun k => ?_) (fun k => ?_) (fun k => ?_) (fun k => ?_) (fun k => ?_) (fun k => ?_) ⟨rfl, a⟩
  · rw [a.alk.add]
    refine ⟨rfl, ?_⟩
    simp only
    split
    · exact a.put _ _
    · exact a
  · rw [a.alk.who]
    refine ⟨rfl, ?_⟩
    simp only
    split
    · exact a.put _ _
    · exact a
  · rw [a.alk.plug]
    refine ⟨rfl, ?_⟩
    simp only
    split
    · exact a.map _ _ (fun f f' hs => turnTo_alike _ _ f f' hs 4)
    · exact a
  · rw [a.alk.unplug]
    refine ⟨rfl, ?_⟩
    simp only
    split
    · exact a.map _ _ (fun f f' hs => turnTo_alike _ _ f f' hs 4)
    · exact a
  · rw [a.alk.give]
    refine ⟨rfl, ?_⟩
    simp only
    split
    · exact a.map _ _ (turn_alike _ _)
    · exact a
  · rw [a.alk.give]
    refine ⟨rfl, ?_⟩
    simp only
    split
    · exact a.map _ _ (turn_alike _ _)
    · exact a
  · have e : x.n = g := by
      unfold passes inner at hp
      rw [hk _ k] at hp
      simpa using hp
    rw [e]
    exact a.both (fun f => fLoad f x.a)
  · have e : x.n = g := by
      unfold passes inner at hp
      rw [hk _ k] at hp
      simpa using hp
    rw [e]
    exact a.both (fun f => ((0, (fStore f x.a x.v).1), (fStore f x.a x.v).2))
  · have e : x.n = g := by
      unfold passes inner at hp
      rw [hk _ k] at hp
      simpa using hp
    rw [e]
    exact a.both (fun f => ((0, (fRoot f x.a).1), (fRoot f x.a).2))
  · have e : x.n = g := by
      unfold passes inner at hp
      rw [hk _ k] at hp
      simpa using hp
    rw [e]
    exact a.both (fun f => ((0, (fForget f x.a).1), (fForget f x.a).2))
  · have e : x.n = g := by
      unfold passes inner at hp
      rw [hk _ k] at hp
      simpa using hp
    rw [e]
    exact a.both (fun f => ((0, (fDrop f x.a).1), (fDrop f x.a).2))
  · exfalso
    unfold passes inner at hp
    rw [hk _ k] at hp
    simp at hp
  · exfalso
    unfold passes inner at hp
    rw [hk _ k] at hp
    simp at hp
end Go.Proofs.YtadpibcgjgcjhaaGreat
/- TopApart: where it begins; both hosts in one state. -/
namespace Go.Proofs.YtadpibcgjgcjhaaGreat
open Go.ChangeShapes Go.WideShapes Go.ChangeAt Go.RowKit
set_option maxRecDepth 100000
attribute [local go_sem ↓] Go.wp_at_zero Go.wp_at_succ

theorem lightH_yes (w : World) (a : Option Addr) (len cap : Nat) (h : len ≤ 100) :
    Calls Tryz.prog 8 #[.slice a len cap, .int .i64 100] w fun e w' => e = .returned (.bool true) ∧ w' = w := by
  have hd : decide ((len : Int) ≤ 100) = true := by simp; omega
  go_enter Tryz.func8, Tryz.ntmps8
  go_wp2
  go_ret
  exact ⟨rfl, rfl⟩
theorem lightH_no (w : World) (a : Option Addr) (len cap : Nat) (h : 100 < len) :
    Calls Tryz.prog 8 #[.slice a len cap, .int .i64 100] w fun e w' => e = .returned (.bool false) ∧ w' = w := by
  have hd : decide ((len : Int) ≤ 100) = false := by simp; omega
  go_enter Tryz.func8, Tryz.ntmps8
  go_wp2
  go_ret
  exact ⟨rfl, rfl⟩
theorem cntTo_off {L : Nat → Lf} (f : Int) (hl : ∀ k, (L k).there = false) : ∀ K, cntTo L f K = 0
  | 0 => rfl
  | K + 1 => by
    rw [cntTo_succ, cntTo_off f hl K]
    unfold inIn
    rw [hl K]
    simp
theorem pln_off {S : Nat → Int} (hs : ∀ k, S k = 0) : ∀ K, pln S K = 0
  | 0 => rfl
  | K + 1 => by
    simp only [pln]
    rw [pln_off hs K, hs K]
    simp
/-- A new host. -/
theorem HF.start (n : Nat) : HF (hs0 n) (fun _ _ => 0) (fun _ => none) 0 := by
  have hl : ∀ k, (rowL (hs0 n) k).there = false := fun _ => rfl
  have no : ∀ k, (rowL (hs0 n) k).there = true → False := fun k ht => by rw [hl k] at ht; cases ht
  have ng : ∀ i x, (hs0 n).g i = some x → False := fun i x hx => by cases hx
  have hs : ∀ k, rowS (hs0 n) k = 0 := fun _ => rfl
  have hp := pln_off hs 64
  refine ⟨⟨⟨⟨fun f _ => (by rw [cntTo_off f hl]; rfl), fun k _ ht => (no k ht).elim⟩, fun _ _ => ⟨Int.le_refl _, (by show (0 : Int) ≤ 255; omega)⟩, fun i x hx => (ng i x hx).elim⟩, ⟨fun k _ ht => (no k ht).elim, fun _ _ _ _ _ => rfl, fun k _ ht => (no k ht).elim⟩, (by rw [hp]; exact Nat.zero_le _)⟩, fun i x hx => (ng i x hx).elim, fun _ => ⟨fun _ => rfl, fun _ => rfl⟩, fun i x f hx => (ng i x hx).elim⟩
/-- A host in memory, with what its guests see; its blocks are new. -/
structure HS (W w : World) (n k : Nat) (bh bp bf : Nat) (G : Nat → G3) (h : Hs) (F : Nat → Option Fl) : Prop where
  m : HM w bh bp bf G h
  hf : ∃ t, HF h t F (k : Int)
  n : h.s.n = n
  new : ∀ j, Own bh bp bf G h j → W.heap.size ≤ j
theorem HS.start {W w w' : World} {n bh bp bf : Nat} (hn : ∀ G, HM w' bh bp bf G (hs0 n)) (u : Upd (fun _ => False) W w) (h1 : w.heap.size ≤ bh) (h2 : w.heap.size ≤ bp) (h3 : w.heap.size ≤ bf) (G : Nat → G3) : HS W w' n 0 bh bp bf G (hs0 n) (fun _ => none) := by
  refine ⟨hn G, ⟨_, HF.start n⟩, rfl, fun j hj => ?_⟩
  have := u.size
  rcases hj with e | e | e | ⟨i, x, hx, _⟩
  · omega
  · omega
  · omega
  · cases hx
theorem HS.keep {W w w' : World} {n k bh bp bf : Nat} {G : Nat → G3} {h : Hs} {F : Nat → Option Fl} {S : Nat → Prop} (s : HS W w n k bh bp bf G h F) (u : Upd S w w') (hS : ∀ j, Own bh bp bf G h j → ¬ S j) : HS W w' n k bh bp bf G h F := ⟨s.m.upd u hS, s.hf, s.n, s.new⟩
theorem HS.more {W w : World} {n k bh bp bf : Nat} {G : Nat → G3} {h : Hs} {F : Nat → Option Fl} (s : HS W w n k bh bp bf G h F) : HS W w n (k + 1) bh bp bf G h F := ⟨s.m, by obtain ⟨t, ht⟩ := s.hf; exact ⟨t, ht.more (by omega)⟩, s.n, s.new⟩
/-- An act. -/
theorem HS.act {W w w' : World} {n k bh bp bf : Nat} {G : Nat → G3} {h : Hs} {F : Nat → Option Fl} (s : HS W w n k bh bp bf G h F) (uW : Upd (fun _ => False) W w) (x : Ac) (v0 : 0 ≤ x.v) (v1 : x.v ≤ 255) (hd : DPost w bh bp bf G h (hDid h x) w') :
    ∃ G', HS W w' n (k + 1) bh bp bf G' (hDid h x).2 (fDid F n x).2 ∧ (∀ j, Own bh bp bf G' (hDid h x).2 j → Own bh bp bf G h j ∨ w.heap.size ≤ j) := by
  obtain ⟨⟨G', hm, ho⟩, hu⟩ := hd
  obtain ⟨t, ht⟩ := s.hf
  obtain ⟨_, ⟨t', h2⟩, h3⟩ := ht.tells (by omega) x v0 v1
  rw [s.n] at h2 h3
  refine ⟨G', ⟨hm, ⟨t', ?_⟩, h3, fun j hj => ?_⟩, ho⟩
  · have e : ((k + 1 : Nat) : Int) = (k : Int) + 1 := by omega
    rw [e]
    exact h2
  · have := uW.size
    rcases ho j hj with e | e
    · exact s.new j e
    · omega
theorem HS.ans {W w : World} {n k bh bp bf : Nat} {G : Nat → G3} {h : Hs} {F : Nat → Option Fl} (s : HS W w n k bh bp bf G h F) (x : Ac) (v0 : 0 ≤ x.v) (v1 : x.v ≤ 255) : (hDid h x).1 = (fDid F n x).1 := by
  obtain ⟨t, ht⟩ := s.hf
  have := (ht.tells (by omega) x v0 v1).ans
  rw [s.n] at this
  exact this
theorem HS.did {W w : World} {n k bh bp bf : Nat} {G : Nat → G3} {h : Hs} {F : Nat → Option Fl} (s : HS W w n k bh bp bf G h F) (hk : k ≤ 1000) (x : Ac) (v0 : 0 ≤ x.v) (v1 : x.v ≤ 255) :
    Calls Tryz.prog 31 #[.pointer (some ⟨bh, 0, none⟩), .agg #[.string x.kind, .int .i64 x.n, .int .i64 x.a, .int .i64 x.b, .int .u8 x.v, .bool x.on]] w
      fun e w' => e = .returned (.tuple #[.int .i64 (fDid F n x).1.1, .int .i64 (fDid F n x).1.2]) ∧ DPost w bh bp bf G h (hDid h x) w' := by
  obtain ⟨t, ht⟩ := s.hf
  have := did_any s.m ht (by omega) (by omega) x v0 v1
  rw [s.ans x v0 v1] at this
  exact this
/-- Both hosts of TopApart. -/
structure A2 (W w : World) (n k : Nat) (g : Int) (bh bp bf ch cp cf : Nat) : Prop where
  ex : ∃ G h F G' o F', HS W w n k bh bp bf G h F ∧ HS W w n k ch cp cf G' o F' ∧ Apn g F F' ∧ ∀ j, Own bh bp bf G h j → ¬ Own ch cp cf G' o j
  up : Upd (fun _ => False) W w
theorem A2.same {W w w' : World} {n k : Nat} {g : Int} {bh bp bf ch cp cf : Nat} (a : A2 W w n k g bh bp bf ch cp cf) (u : Upd (fun _ => False) w w') : A2 W w' n k g bh bp bf ch cp cf := by
  obtain ⟨G, h, F, G', o, F', h1, h2, h3, h4⟩ := a.ex
  exact ⟨⟨G, h, F, G', o, F', h1.keep u (fun _ _ f => f), h2.keep u (fun _ _ f => f), h3, h4⟩, a.up.trans u (fun _ _ f => f)⟩
end Go.Proofs.YtadpibcgjgcjhaaGreat
/- The law's flat memory: a list of entries, wherever it lies in its block; an entry appended. -/
namespace Go.Proofs.YtadpibcgjgcjhaaGreat
open Go.ChangeShapes Go.WideShapes Go.ChangeAt Go.RowKit
set_option maxRecDepth 100000
variable {w w' : World} {v : Value} {es : List En}

/-- A slice that holds entries, at any place of its block. -/
def SlO (w : World) (v : Value) (es : List En) : Prop :=
  (v = .slice none 0 0 ∧ es = []) ∨ ∃ g o cap, v = .slice (some ⟨g, o, none⟩) es.length cap ∧ g < w.heap.size ∧ es.length ≤ cap ∧ cap ≤ maxLen ∧ (∀ j, j < cap * 7 → (w.cell? ⟨g, o + j, none⟩).isSome = true) ∧ (∀ j, w.frozen? ⟨g, j, none⟩ = false) ∧ (∀ j, j < es.length * 7 → w.cell? ⟨g, o + j, none⟩ = (enAll es)[j]?)
theorem SlO.nil (w : World) : SlO w (.slice none 0 0) [] := Or.inl ⟨rfl, rfl⟩
theorem SlO.of {base : Nat} (h : SlC w base v es) : SlO w v es := by
  have h' := h
  rcases h.2 with ⟨rfl, h0⟩ | ⟨g, cap, cur, rfl, hb, hg, hnc, hcm, hcs, _⟩
  · exact Or.inl ⟨rfl, List.eq_nil_of_length_eq_zero h0⟩
  · refine Or.inr ⟨g, 0, cap, rfl, ?_, hnc, hcm, fun j hj => ?_, fun j => ?_, fun j hj => ?_⟩
    · rcases Nat.lt_or_ge g w.heap.size with hlt | hge
      · exact hlt
      · rw [Array.getElem?_eq_none hge] at hg; cases hg
    · rw [Nat.zero_add, cell_of_row w g j cur _ (0, 0) hg, Array.getElem?_eq_getElem (by omega)]; rfl
    · exact World.ownsRow.frozenAt h' j
    · rw [Nat.zero_add]; exact World.ownsRow.cellAt h' j hj
theorem SlO.lt (h : SlO w v es) {k : Nat} (hk : v.ownBlock = some k) : k < w.heap.size := by
  rcases h with ⟨rfl, _⟩ | ⟨g, o, cap, rfl, hg, _⟩
  · cases hk
  · cases hk; exact hg
theorem SlO.upd {S : Nat → Prop} (h : SlO w v es) (u : Upd S w w') (hS : ∀ k, v.ownBlock = some k → ¬ S k) : SlO w' v es := by
  rcases h with h0 | ⟨g, o, cap, rfl, hg, h1, h2, h3, h4, h5⟩
  · exact Or.inl h0
  · have hb := u.block g hg (hS g rfl)
    have hc : ∀ j, w'.cell? ⟨g, j, none⟩ = w.cell? ⟨g, j, none⟩ := fun j => World.cell?_of_block (a := ⟨g, j, none⟩) hb
    exact Or.inr ⟨g, o, cap, rfl, Nat.lt_of_lt_of_le hg u.size, h1, h2, fun j hj => by rw [hc]; exact h3 j hj, fun j => (World.frozen?_of_block (a := ⟨g, j, none⟩) hb).trans (h4 j), fun j hj => by rw [hc]; exact h5 j hj⟩
theorem SlO.form (h : SlO w v es) : ∃ a cap, v = .slice a es.length cap ∧ es.length ≤ cap ∧ cap ≤ maxLen ∧ (∀ i, i < es.length → ∃ g o, a = some ⟨g, o, none⟩ ∧ g < w.heap.size ∧ ∀ j, j < 7 → w.cell? ⟨g, o + (i * 7 + j), none⟩ = (enCells (atE es i))[j]?) := by
  rcases h with ⟨rfl, rfl⟩ | ⟨g, o, cap, rfl, hg, h1, h2, h3, h4, h5⟩
  · exact ⟨none, 0, rfl, Nat.le_refl _, Nat.zero_le _, fun i hi => absurd hi (by simp)⟩
  · exact ⟨_, cap, rfl, h1, h2, fun i hi => ⟨g, o, rfl, hg, fun j hj => by rw [h5 _ (by omega), enAll_get es i j hi hj]⟩⟩
/-- All but the first. -/
theorem SlO.tail {g o cap : Nat} {e : En} (h : SlO w (.slice (some ⟨g, o, none⟩) (es.length + 1) cap) (e :: es)) : SlO w (.slice (some ⟨g, o + 7, none⟩) es.length (cap - 1)) es := by
  rcases h with ⟨h0, _⟩ | ⟨g', o', cap', h0, hg, h1, h2, h3, h4, h5⟩
  · cases h0
  · simp only [Value.slice.injEq, Option.some.injEq, Addr.mk.injEq, and_true] at h0
    obtain ⟨⟨rfl, rfl⟩, _, rfl⟩ := h0
    simp only [List.length_cons] at h1 h5
    refine Or.inr ⟨g, o + 7, cap - 1, rfl, hg, by omega, by omega, fun j hj => ?_, h4, fun j hj => ?_⟩
    · have := h3 (7 + j) (by omega)
      rwa [← Nat.add_assoc] at this
    · have := h5 (7 + j) (by omega)
      rw [← Nat.add_assoc] at this
      rw [this]
      show (enCells e ++ enAll es)[7 + j]? = _
      rw [List.getElem?_append_right (by show 7 ≤ _; omega)]
      show (enAll es)[7 + j - 7]? = _
      rw [Nat.add_sub_cancel_left]
theorem SlO.rest {g o cap n m c : Nat} (h : SlO w (.slice (some ⟨g, o, none⟩) n cap) es) (hn : 1 ≤ es.length) (hm : m + 1 = n) (hc : c + 1 = cap) : SlO w (.slice (some ⟨g, o + 7, none⟩) m c) es.tail := by
  cases es with
  | nil => simp at hn
  | cons e l =>
    have hl : n = l.length + 1 := by
      rcases h with ⟨h0, _⟩ | ⟨g', o', cap', h0, _⟩
      · cases h0
      · simp only [Value.slice.injEq] at h0
        exact h0.2.1
    subst hl
    obtain rfl : m = l.length := by omega
    obtain rfl : c = cap - 1 := by omega
    exact h.tail
theorem SlO.cap {g o cap n : Nat} (h : SlO w (.slice (some ⟨g, o, none⟩) n cap) es) : es.length ≤ cap ∧ cap ≤ maxLen := by
  rcases h with ⟨h0, _⟩ | ⟨g', o', cap', h0, hg, h1, h2, _⟩
  · cases h0
  · simp only [Value.slice.injEq] at h0
    obtain ⟨_, _, rfl⟩ := h0
    exact ⟨h1, h2⟩
/-- One entry more. -/
theorem run_append_o {P : Program} (h : SlO w v es) (t ty : TypeId) (i : TypeInfo) (z : Value) (ht : P.underlying t = some (.slice 94)) (hi : P.info? 94 = some i) (hz : i.zero = some z) (hsize : i.size = 7) (hby : i.bytes = 48) (hzs : z.cells.size = 7)
    (ad : Addr) (c : Nat) (y : En) (hnews : ∀ j u, (enCells y)[j]? = some u → w.cell? (ad.add j) = some u) (hl : es.length ≤ 1000) :
    ∃ v' w', (Builtin.append_ #[t, t] ty #[v, .slice (some ad) 1 c]).run P w = .ok v' w' ∧ SlO w' v' (es ++ [y]) ∧ Upd (fun k => v.ownBlock = some k) w w' ∧ ∃ g o cap, v' = .slice (some ⟨g, o, none⟩) (es.length + 1) cap ∧ (v.ownBlock = some g ∨ w.heap.size ≤ g) := by
  have hone : ∀ u ∈ enCells y, u.oneCell' = true := fun u hu => enAll_one [y] u (by simpa [enAll] using hu)
  have hel : enAll (es ++ [y]) = enAll es ++ enCells y := by rw [enAll_append]; simp [enAll]
  have new : ∀ v' w', w'.ownsRow w.heap.size 94 7 v' (es.length + 1) (enAll es ++ enCells y) → w.grownBy w' none → SlO w' v' (es ++ [y]) ∧ Upd (fun k => v.ownBlock = some k) w w' ∧ ∃ g o cap, v' = .slice (some ⟨g, o, none⟩) (es.length + 1) cap ∧ (v.ownBlock = some g ∨ w.heap.size ≤ g) := by
    intro v' w' r1 r2
    refine ⟨SlO.of (base := w.heap.size) ?_, ⟨r2.os, r2.tape, r2.output, r2.size, fun k hk _ => r2.block k hk (by simp)⟩, ?_⟩
    · unfold SlC
      rw [hel, List.length_append]
      exact r1
    · rcases r1.2 with ⟨_, h0⟩ | ⟨g, cap, cur, rfl, hb, _⟩
      · omega
      · exact ⟨g, 0, cap, rfl, Or.inr hb⟩
  rcases h with ⟨rfl, rfl⟩ | ⟨g, o, cap, rfl, hg, h1, h2, h3, h4, h5⟩
  · obtain ⟨v', w', hr, r1, r2, _⟩ := run_append_own (P := P) w w.heap.size t ty 94 i z 7 48 ht hi hz hsize hby hzs (by omega) (.slice none 0 0) 0 [] (World.ownsRow_nil _ _ _ _) ad 1 c (enCells y) rfl hnews hone (by unfold maxLen; omega) (by omega) (Nat.le_refl _)
    exact ⟨v', w', hr, new v' w' (by simpa [enAll] using r1) r2⟩
  · by_cases hroom : es.length + 1 ≤ cap
    · have hs : ∀ j, j < (enCells y).length → (w.cell? ⟨g, o + es.length * i.size + j, none⟩).isSome = true := fun j hj => by
        have hj7 : j < 7 := hj
        rw [hsize, Nat.add_assoc]
        exact h3 _ (by omega)
      have hrun := run_append_room_cells (P := P) w t ty 94 i ht hi g o es.length cap ad 1 c (enCells y) (by rw [hsize]; rfl) hnews hone hroom hs (fun j _ => h4 _)
      rw [hsize] at hrun hs
      refine ⟨_, _, hrun, Or.inr ⟨g, o, cap, by rw [List.length_append]; rfl, ?_, by rw [List.length_append]; exact hroom, h2, fun j hj => ?_, fun j => ?_, fun j hj => ?_⟩, ?_, ⟨g, o, cap, rfl, Or.inl rfl⟩⟩
      · exact Nat.lt_of_lt_of_le hg (Upd.row w g _ _).size
      · by_cases hin : es.length * 7 ≤ j ∧ j < es.length * 7 + 7
        · have := World.cell?_setCells_in g (enCells y) (o + es.length * 7) w hs (j - es.length * 7) (show _ < 7 by omega)
          rw [Nat.add_assoc, show es.length * 7 + (j - es.length * 7) = j by omega] at this
          rw [this]; rfl
        · rw [World.cell?_setCells_out g _ _ _ _ (fun _ _ => by
            have : (enCells y).length = 7 := rfl
            show o + j < _ ∨ _ ≤ o + j
            omega)]
          exact h3 j hj
      · rw [World.frozen?_setCells]; exact h4 j
      · rw [List.length_append] at hj
        rw [hel]
        have hll := enAll_length es
        by_cases hin : es.length * 7 ≤ j
        · have hlt : j - es.length * 7 < (enCells y).length := by show _ < 7; simp at hj; omega
          have := World.cell?_setCells_in g (enCells y) (o + es.length * 7) w hs (j - es.length * 7) hlt
          rw [Nat.add_assoc, show es.length * 7 + (j - es.length * 7) = j by omega] at this
          rw [this, List.getElem?_append_right (by omega), hll, List.getElem?_eq_getElem hlt]
        · rw [World.cell?_setCells_out g _ _ _ _ (fun _ _ => Or.inl (by show o + j < _; omega)), List.getElem?_append_left (by omega)]
          exact h5 j (by omega)
      · exact Upd.setCells (S := fun k => some g = some k) g (fun _ => rfl) _ _ (Upd.refl _ w)
    · obtain ⟨v', w', hr, r1, r2⟩ := run_append_arg_grows (P := P) w t ty 94 i z 7 48 ht hi hz hsize hby hzs (by omega) ⟨g, o, none⟩ es.length cap (enAll es) (enAll_length es) (fun j u hu => by
        have hlt : j < (enAll es).length := (List.getElem?_eq_some_iff.1 hu).1
        rw [enAll_length] at hlt
        rw [Addr.add_lit, h5 j hlt, hu]) ad 1 c (enCells y) rfl hnews (by omega) (by unfold maxLen; omega) (by omega)
      exact ⟨v', w', hr, new v' w' r1 r2⟩
theorem step_append_o {P : Program} {ops : Array Oper} {o : Oper} {a : Act} {K : Act → World → Prop} {Q : Exit → Act → World → Prop} {E : Prop} (hgd : o.guard = none) (s x : Operand) (t : TypeId)
    (ho : o.op = .call { callee := .builtin .append, args := #[s, x], argTypes := #[t, t] })
    (i : TypeInfo) (z : Value) (ht : P.underlying t = some (.slice 94)) (hi : P.info? 94 = some i) (hz : i.zero = some z) (hsize : i.size = 7) (hby : i.bytes = 48) (hzs : z.cells.size = 7)
    (hs : a.eval s = v) (h : SlO w v es) (ad : Addr) (c : Nat) (y : En) (hx : a.eval x = .slice (some ad) 1 c) (hnews : ∀ j u, (enCells y)[j]? = some u → w.cell? (ad.add j) = some u) (hl : es.length ≤ 1000)
    (hK : ∀ g o' cap w', SlO w' (.slice (some ⟨g, o', none⟩) (es.length + 1) cap) (es ++ [y]) → Upd (fun k => v.ownBlock = some k) w w' → (v.ownBlock = some g ∨ w.heap.size ≤ g) → K (a.put o.dst (.slice (some ⟨g, o', none⟩) (es.length + 1) cap)) w') :
    if Region.wanted o (yielded ops a.tmps) = true then Oper.wp P o a w K Q else E := by
  have hw : Region.wanted o (yielded ops a.tmps) = true := by simp [Region.wanted, hgd]
  rw [if_pos hw]
  obtain ⟨v', w', hrun, r1, r2, g, o', cap, rfl, r3⟩ := run_append_o (P := P) h t o.type i z ht hi hz hsize hby hzs ad c y hnews hl
  unfold Oper.wp
  simp [execOp, ho, resolve, invoke, builtin, hs, hx, hrun, Result.andThen]
  exact hK g o' cap w' r1 r2 r3
theorem newsE (w : World) (y : En) (t : TypeId) : ∀ j u, (enCells y)[j]? = some u → (w.alloc (.cells #[.int .i64 y.root, .int .i64 y.page, .int .i64 y.dest, .bool y.may, .bool y.lf.there, .bool y.lf.wr, .int .i64 y.lf.fr] t)).cell? ((⟨w.heap.size, 0, none⟩ : Addr).add j) = some u := by
  intro j u hj
  rw [Addr.add_mid, Nat.zero_add, World.cell?_alloc_new, ← hj]
  show (enCells y).toArray[j]? = _
  simp
theorem wpList_append_o {P : Program} {ops : Array Oper} {rest : List Oper} {o : Oper} {a : Act} {Q : Exit → Act → World → Prop} (hgd : o.guard = none) (s x : Operand) (t : TypeId)
    (ho : o.op = .call { callee := .builtin .append, args := #[s, x], argTypes := #[t, t] })
    (i : TypeInfo) (z : Value) (ht : P.underlying t = some (.slice 94)) (hi : P.info? 94 = some i) (hz : i.zero = some z) (hsize : i.size = 7) (hby : i.bytes = 48) (hzs : z.cells.size = 7)
    (hs : a.eval s = v) (h : SlO w v es) (ad : Addr) (c : Nat) (y : En) (hx : a.eval x = .slice (some ad) 1 c) (hnews : ∀ j u, (enCells y)[j]? = some u → w.cell? (ad.add j) = some u) (hl : es.length ≤ 1000)
    (hK : ∀ g o' cap w', SlO w' (.slice (some ⟨g, o', none⟩) (es.length + 1) cap) (es ++ [y]) → Upd (fun k => v.ownBlock = some k) w w' → (v.ownBlock = some g ∨ w.heap.size ≤ g) → wpList P ops Q rest (a.put o.dst (.slice (some ⟨g, o', none⟩) (es.length + 1) cap)) w') : wpList P ops Q (o :: rest) a w := by
  refine wpList_plain hgd fun K hK' => ?_
  obtain ⟨v', w', hrun, r1, r2, g, o', cap, rfl, r3⟩ := run_append_o (P := P) h t o.type i z ht hi hz hsize hby hzs ad c y hnews hl
  unfold Oper.wp
  simp [execOp, ho, resolve, invoke, builtin, hs, hx, hrun, Result.andThen]
  exact hK' _ _ (hK g o' cap w' r1 r2 r3)
end Go.Proofs.YtadpibcgjgcjhaaGreat
/- The law's flat memory in memory; page. -/
namespace Go.Proofs.YtadpibcgjgcjhaaGreat
open Go.ChangeShapes Go.WideShapes Go.ChangeAt Go.RowKit
set_option maxRecDepth 100000
attribute [local go_sem ↓] Go.wp_at_zero Go.wp_at_succ
variable {w w' : World} {v v' : Value} {es : List En} {bF : Nat} {f f' : Fl}

theorem keepTo_all (P : Nat → Bool) (es : List En) (hP : ∀ i, P i = true) : ∀ k, k ≤ es.length → keepTo P es k = es.take k
  | 0, _ => by simp [keepTo]
  | k + 1, hk => by
    unfold keepTo
    rw [keepTo_all P es hP k (by omega), hP k, if_pos rfl, List.take_add_one, List.getElem?_eq_getElem (by omega), atE_get (by omega)]
    rfl
theorem keepTo_tail (e : En) (l : List En) : ∀ k, k ≤ l.length → keepTo (fun i => (i : Int) != 0) (e :: l) (k + 1) = l.take k
  | 0, _ => by simp [keepTo]
  | k + 1, hk => by
    unfold keepTo
    rw [keepTo_tail e l k (by omega), List.take_add_one, List.getElem?_eq_getElem (by omega), atE_get (by simp; omega)]
    have : ((k + 1 : Nat) : Int) != 0 := by simp; omega
    rw [if_pos this]
    simp
/-- A new entry, plainly. -/
theorem putC_new {x : En} (hx : fndI es x.root x.page = -1) : putC es x = if 4 < es.length + 1 then (es ++ [x]).tail else es ++ [x] := by
  unfold putC
  simp only
  have h1 : keepTo (fun i => (i : Int) != fndI es x.root x.page) es es.length = es := by
    rw [keepTo_all _ es (fun i => by rw [hx]; simp) es.length (Nat.le_refl _), List.take_length]
  rw [h1, List.length_append, List.length_singleton]
  split
  · cases es with
    | nil => simp at *
    | cons e l =>
      show keepTo _ (e :: (l ++ [x])) ((e :: l).length + 1) = l ++ [x]
      have := keepTo_tail e (l ++ [x]) (l ++ [x]).length (Nat.le_refl _)
      rw [List.take_length, List.length_append] at this
      exact this
  · rfl
/-- The entry that the law's loop has found, up to a place. -/
def enM : En := ⟨0, 0, -1, false, lf0⟩
def cand (es : List En) (r p : Int) : Nat → En
  | 0 => enM
  | k + 1 => if isAt r p (atE es k) = true then atE es k else cand es r p k
theorem cand_none {r p : Int} : ∀ k, (∀ i, i < k → isAt r p (atE es i) = false) → cand es r p k = enM
  | 0, _ => rfl
  | k + 1, h => by
    unfold cand
    rw [if_neg (by rw [h k (by omega)]; simp), cand_none k (fun i hi => h i (by omega))]
theorem cand_some {r p : Int} {j : Nat} (hj : isAt r p (atE es j) = true) : ∀ k, j < k → (∀ i, i < k → i ≠ j → isAt r p (atE es i) = false) → cand es r p k = atE es j
  | 0, h, _ => by omega
  | k + 1, h, hn => by
    unfold cand
    by_cases e : k = j
    · subst e; rw [if_pos hj]
    · rw [if_neg (by rw [hn k (by omega) e]; simp)]
      exact cand_some hj k (by omega) (fun i hi => hn i (by omega))
theorem isAt_eq {r p : Int} {x : En} (h : isAt r p x = true) : x.root = r ∧ x.page = p := by
  unfold isAt at h
  simpa using h
theorem cand_end (hd : Dist es) (r p : Int) : (0 ≤ fndI es r p ∧ (fndI es r p).toNat < es.length ∧ cand es r p es.length = atE es (fndI es r p).toNat) ∨ (fndI es r p = -1 ∧ cand es r p es.length = enM) := by
  rw [fndI_idx]
  rcases idxP_cases (isAt r p) es with ⟨k, hk, ek, hp, hb⟩ | ⟨ek, hb⟩
  · left
    rw [ek, Int.toNat_natCast]
    refine ⟨by omega, hk, cand_some hp es.length hk (fun i hi hne => ?_)⟩
    rcases Nat.lt_or_gt_of_ne hne with h | h
    · exact hb i h
    · refine (isAt_false _ _ _).2 (fun ⟨e1, e2⟩ => ?_)
      obtain ⟨e3, e4⟩ := isAt_eq hp
      have := List.pairwise_iff_getElem.1 hd k i hk hi h
      rw [← atE_get hi, ← atE_get hk] at this
      exact this ⟨by rw [e1, e3], by rw [e2, e4]⟩
  · right
    exact ⟨ek, cand_none _ hb⟩
/-- What holds of a flat memory. -/
structure FlOk (f : Fl) : Prop where
  b : ∀ k i, k < 16 → i < 16 → 0 ≤ f.b k i ∧ f.b k i ≤ 255
  r0 : -1 ≤ f.root
  r1 : f.root ≤ 15
  len : f.c.length ≤ 4
  en : ∀ x ∈ f.c, 0 ≤ x.dest ∧ x.dest < 16
  di : Dist f.c
theorem HF.flOk {h : Hs} {t : Nat → Nat → Int} {F : Nat → Option Fl} {W : Int} (hf : HF h t F W) {n : Nat} (hF : F n = some f) : FlOk f := by
  cases hx : h.g n with
  | none => rw [(hf.non n).1 hx] at hF; cases hF
  | some x =>
    have fr := hf.fl n x f hx hF
    obtain ⟨hn, ok⟩ := hf.hr.inv.gi n x hx
    refine ⟨fun k i hk hi => ?_, by rw [fr.root]; exact ok.r0, by rw [fr.root]; exact ok.r1, by rw [fr.c]; exact ok.len, fun y hy => ok.en y (by rw [← fr.c]; exact hy), by rw [fr.c]; exact ok.di⟩
    rw [fr.b k i hk hi]
    have hL := rowL_at hx hk
    cases ht : (rowL h (16 * n + k)).there with
    | false => rw [hf.hr.ri.out _ (by omega) ht i hi]; omega
    | true =>
      rw [← hf.hr.ri.byt _ (by omega) ht i hi]
      exact hf.hr.inv.byt _ _
/-- The law's flat memory in memory. -/
structure RFl (w : World) (bF : Nat) (v : Value) (f : Fl) : Prop where
  st : ∀ k, k < 16 → w.cell? ⟨bF, k, none⟩ = some (.int .i64 (f.st k))
  b : ∀ k i, k < 16 → i < 16 → w.cell? ⟨bF, 16 + k * 16 + i, none⟩ = some (.int .u8 (f.b k i))
  rt : w.cell? ⟨bF, 272, none⟩ = some (.int .i64 f.root)
  cv : w.cell? ⟨bF, 273, none⟩ = some v
  sl : SlO w v f.c
  ne : v.ownBlock ≠ some bF
  z : ∀ o, w.frozen? ⟨bF, o, none⟩ = false
/-- Its blocks. -/
def FOwn (bF : Nat) (v : Value) (k : Nat) : Prop := k = bF ∨ v.ownBlock = some k
theorem RFl.lt (r : RFl w bF v f) {k : Nat} (hk : FOwn bF v k) : k < w.heap.size := by
  rcases hk with rfl | hk
  · exact World.block_lt_of_cell? w _ r.rt
  · exact r.sl.lt hk
theorem RFl.upd {S : Nat → Prop} (r : RFl w bF v f) (u : Upd S w w') (hS : ∀ k, FOwn bF v k → ¬ S k) : RFl w' bF v f :=
  ⟨fun k hk => u.cell (r.st k hk) (hS _ (Or.inl rfl)), fun k i hk hi => u.cell (r.b k i hk hi) (hS _ (Or.inl rfl)), u.cell r.rt (hS _ (Or.inl rfl)), u.cell r.cv (hS _ (Or.inl rfl)), r.sl.upd u (fun k hk => hS k (Or.inr hk)), r.ne, fun o => by rw [World.frozen?_of_block (w := w) (u.block bF (r.lt (Or.inl rfl)) (hS _ (Or.inl rfl)))]; exact r.z o⟩
/-- What a call of its methods leaves. -/
structure FlPost (w : World) (bF : Nat) (v : Value) (f : Fl) (w' : World) : Prop where
  ex : ∃ v', RFl w' bF v' f ∧ ∀ k, FOwn bF v' k → FOwn bF v k ∨ w.heap.size ≤ k
  up : Upd (FOwn bF v) w w'
theorem FlPost.same (r : RFl w bF v f) (u : Upd (fun _ => False) w w') : FlPost w bF v f w' := ⟨⟨v, r.upd u (fun _ _ f => f), fun _ h => Or.inl h⟩, ⟨u.os, u.tape, u.output, u.size, fun k hk _ => u.block k hk (fun f => f)⟩⟩
theorem FlPost.of {w2 w3 : World} {v2 : Value} (u : Upd (fun _ => False) w w2) (r2 : RFl w3 bF v2 f) (u2 : Upd (FOwn bF v) w2 w3) (hn : ∀ k, v2.ownBlock = some k → v.ownBlock = some k ∨ w2.heap.size ≤ k) : FlPost w bF v f w3 := by
  refine ⟨⟨v2, r2, fun k hk => ?_⟩, Upd.trans ⟨u.os, u.tape, u.output, u.size, fun k hk _ => u.block k hk (fun f => f)⟩ u2 (fun i _ e => e)⟩
  have := u.size
  rcases hk with e | e
  · exact Or.inl (Or.inl e)
  · rcases hn k e with h | h
    · exact Or.inl (Or.inr h)
    · exact Or.inr (by omega)
/-- Another list. -/
theorem RFl.list2 (r : RFl w bF v f) {w2 : World} {v2 : Value} {es : List En} (u : Upd (fun k => v.ownBlock = some k) w w2) (hs : SlO w2 v2 es) (hn : ∀ k, v2.ownBlock = some k → v.ownBlock = some k ∨ w.heap.size ≤ k) : RFl (w2.setCell ⟨bF, 273, none⟩ v2) bF v2 { f with c := es } ∧ Upd (FOwn bF v) w (w2.setCell ⟨bF, 273, none⟩ v2) := by
  have hb : bF < w.heap.size := r.lt (Or.inl rfl)
  have nb : ¬ v.ownBlock = some bF := r.ne
  have n2 : v2.ownBlock ≠ some bF := fun e => by
    rcases hn bF e with h | h
    · exact nb h
    · omega
  have ho : ∀ (o : Nat) (x : Value), o ≠ 273 → w.cell? ⟨bF, o, none⟩ = some x → (w2.setCell ⟨bF, 273, none⟩ v2).cell? ⟨bF, o, none⟩ = some x := fun o x h1 h2 => by rw [World.cell?_setCell_other _ _ _ _ (addr_ne (Or.inr (by omega))), u.cell h2 nb]
  have uq := Upd.one w2 bF 273 v2
  refine ⟨⟨fun k hk => ho _ _ (by omega) (r.st k hk), fun k i hk hi => ho _ _ (by omega) (r.b k i hk hi), ho _ _ (by omega) r.rt, World.cell?_setCell_same _ _ _ (u.cell r.cv nb), hs.upd uq (fun k hk e => n2 (by rw [← e]; exact hk)), n2, fun o => (by rw [World.frozen?_setCell, World.frozen?_of_block (w := w) (u.block bF hb nb)]; exact r.z o)⟩, ?_⟩
  exact Upd.trans ⟨u.os, u.tape, u.output, u.size, fun k hk hs => u.block k hk (fun e => hs (Or.inr e))⟩ uq (fun i _ e => Or.inl e)
theorem page_any (r : RFl w bF v f) {k : Nat} (hk : k < 16) : Calls Tryz.prog 148 #[.pointer (some ⟨bF, 0, none⟩), .int .i64 (k : Int)] w fun e w' => e = .returned (.int .i64 (pgCode (f.st k))) ∧ w' = w := by
  have c := r.st k hk
  clear r
  generalize f.st k = z at *
  by_cases h0 : z = 0
  · subst h0
    go_enter Tryz.func148, Tryz.ntmps148
    go_wp2_with fail
    go_ret
    exact ⟨rfl, rfl⟩
  · by_cases h2 : z = 2
    · subst h2
      go_enter Tryz.func148, Tryz.ntmps148
      go_wp2_with fail
      go_ret
      exact ⟨rfl, rfl⟩
    · have d0 : (z == 0) = false := by simp [h0]
      have d2 : (z == 2) = false := by simp [h2]
      have hp : pgCode z = 0 := by unfold pgCode; rw [if_neg h0, if_neg h2]
      rw [hp]
      clear h0 h2 hp
      go_enter Tryz.func148, Tryz.ntmps148
      go_wp2_with fail
      go_ret
      exact ⟨rfl, rfl⟩
end Go.Proofs.YtadpibcgjgcjhaaGreat
