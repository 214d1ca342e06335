/- The tops' did: an act on a host. -/
import Derived.Test.YtadpibcgjgcjhabGreatDoorPart16
import Derived.Test.YtadpibcgjgcjhabGreatDoorPart14
import Derived.Test.YtadpibcgjgcjhabGreatDoorPart10
import Derived.Test.YtadpibcgjgcjhabGreatDoorPart05
import Derived.Test.YtadpibcgjgcjhabGreatDoorPart01
namespace Go.Proofs.YtadpibcgjgcjhabGreatDoor
open Go.ChangeShapes Go.WideShapes Go.ChangeAt Go.RowKit
set_option maxRecDepth 100000
attribute [local go_sem ↓] Go.wp_at_zero Go.wp_at_succ
variable {w w' : World} {bh bp bf : Nat} {G G' : Nat → G3} {h h' : Hs} {W : Int} {t : Nat → Nat → Int} {F : Nat → Option Fl}

/-- An act on a host, plainly: a number, an error. -/
def hDid (h : Hs) (x : Ac) : (Int × Int) × Hs :=
  if (x.kind.toList == [97, 100, 100]) = true then hAdd h else
  if (x.kind.toList == [114, 101, 109, 111, 118, 101]) = true then ((0, (hRemove h x.n).1), (hRemove h x.n).2) else
  if (x.kind.toList == [112, 108, 117, 103]) = true then ((0, (hPlug h x.n x.a).1), (hPlug h x.n x.a).2) else
  if (x.kind.toList == [117, 110, 112, 108, 117, 103]) = true then ((0, (hUnplug h x.n x.a).1), (hUnplug h x.n x.a).2) else
  if (x.kind.toList == [103, 105, 118, 101]) = true then ((0, (hGive h x.n x.a false).1), (hGive h x.n x.a false).2) else
  if (x.kind.toList == [98, 97, 99, 107]) = true then ((0, (hGive h x.n x.a true).1), (hGive h x.n x.a true).2) else
  if (x.kind.toList == [108, 111, 97, 100]) = true then hLoad h x.n x.a else
  if (x.kind.toList == [115, 116, 111, 114, 101]) = true then ((0, (hStore h x.n x.a x.v).1), (hStore h x.n x.a x.v).2) else
  if (x.kind.toList == [114, 111, 111, 116]) = true then ((0, (hRoot h x.n x.a).1), (hRoot h x.n x.a).2) else
  if (x.kind.toList == [102, 111, 114, 103, 101, 116]) = true then ((0, (hForget h x.n x.a).1), (hForget h x.n x.a).2) else
  if (x.kind.toList == [100, 114, 111, 112]) = true then ((0, (hDrop h x.n x.a).1), (hDrop h x.n x.a).2) else
  if (x.kind.toList == [115, 99, 97, 110]) = true then ((0, (hScan h x.n x.a).1.2), (hScan h x.n x.a).2) else
  if (x.kind.toList == [115, 99, 97, 110, 97, 108, 108]) = true then ((0, 0), (hScanTo h 64).2) else
  ((0, 0), h)
theorem give_false (h : Hs) (n p : Int) : hGive h n p false = hAct h n fun s x => gGive s x p false := by
  unfold hGive hAct
  simp only [Bool.false_and, Bool.false_eq_true, false_and, if_false]
theorem load_le {s : Pl} {x : Gs} (a : Int) : 0 ≤ (gLoad s x a).1.2 := by
  have := at_code s x a false
  unfold gLoad
  split <;> simp only <;> omega
theorem act_le {n : Int} {r : Pl → Gs → Int × Pl × Gs} (hr : ∀ s x, 0 ≤ (r s x).1) : 0 ≤ (hAct h n r).1 := by
  have := hWho_le (h := h) n
  unfold hAct
  split
  · exact this
  · exact hr _ _
theorem hLoad_val (hf : HF h t F W) (n a : Int) : 0 ≤ (hLoad h n a).1.1 ∧ (hLoad h n a).1.1 ≤ 255 := by
  unfold hLoad
  split
  · simp
  · next h0 =>
    obtain ⟨k, x, rfl, _, hx, hat⟩ := hWho_zero (show hWho h n = 0 by have := hWho_le (h := h) n; omega)
    obtain ⟨f, hq, _⟩ := hf.view hx
    have hb := (hf.load hx hq a).2.hr.inv.byt
    have hb : BytOk (gLoad h.s x a).2.1 := hb
    rw [hat]
    unfold gLoad at hb ⊢
    split
    · simp
    · next e =>
      rw [if_neg e] at hb
      exact hb _ _
theorem hDid_cases {P : (Int × Int) × Hs → Prop} (x : Ac) (h0 : (x.kind.toList == [97, 100, 100]) = true → P (hAdd h)) (h1 : (x.kind.toList == [114, 101, 109, 111, 118, 101]) = true → P (((0, (hRemove h x.n).1), (hRemove h x.n).2))) (h2 : (x.kind.toList == [112, 108, 117, 103]) = true → P (((0, (hPlug h x.n x.a).1), (hPlug h x.n x.a).2))) (h3 : (x.kind.toList == [117, 110, 112, 108, 117, 103]) = true → P (((0, (hUnplug h x.n x.a).1), (hUnplug h x.n x.a).2))) (h4 : (x.kind.toList == [103, 105, 118, 101]) = true → P (((0, (hGive h x.n x.a false).1), (hGive h x.n x.a false).2))) (h5 : (x.kind.toList == [98, 97, 99, 107]) = true → P (((0, (hGive h x.n x.a true).1), (hGive h x.n x.a true).2))) (h6 : (x.kind.toList == [108, 111, 97, 100]) = true → P (hLoad h x.n x.a)) (h7 : (x.kind.toList == [115, 116, 111, 114, 101]) = true → P (((0, (hStore h x.n x.a x.v).1), (hStore h x.n x.a x.v).2))) (h8 : (x.kind.toList == [114, 111, 111, 116]) = true → P (((0, (hRoot h x.n x.a).1), (hRoot h x.n x.a).2))) (h9 : (x.kind.toList == [102, 111, 114, 103, 101, 116]) = true → P (((0, (hForget h x.n x.a).1), (hForget h x.n x.a).2))) (h10 : (x.kind.toList == [100, 114, 111, 112]) = true → P (((0, (hDrop h x.n x.a).1), (hDrop h x.n x.a).2))) (h11 : (x.kind.toList == [115, 99, 97, 110]) = true → P (((0, (hScan h x.n x.a).1.2), (hScan h x.n x.a).2))) (h12 : (x.kind.toList == [115, 99, 97, 110, 97, 108, 108]) = true → P (((0, 0), (hScanTo h 64).2))) (he : P ((0, 0), h)) : P (hDid h x) := by
  unfold hDid
  by_cases k0 : (x.kind.toList == [97, 100, 100]) = true
  · rw [if_pos k0]; exact h0 k0
  · rw [if_neg k0]
    by_cases k1 : (x.kind.toList == [114, 101, 109, 111, 118, 101]) = true
    · rw [if_pos k1]; exact h1 k1
    · rw [if_neg k1]
      by_cases k2 : (x.kind.toList == [112, 108, 117, 103]) = true
      · rw [if_pos k2]; exact h2 k2
      · rw [if_neg k2]
        by_cases k3 : (x.kind.toList == [117, 110, 112, 108, 117, 103]) = true
        · rw [if_pos k3]; exact h3 k3
        · rw [if_neg k3]
          by_cases k4 : (x.kind.toList == [103, 105, 118, 101]) = true
          · rw [if_pos k4]; exact h4 k4
          · rw [if_neg k4]
            by_cases k5 : (x.kind.toList == [98, 97, 99, 107]) = true
            · rw [if_pos k5]; exact h5 k5
            · rw [if_neg k5]
              by_cases k6 : (x.kind.toList == [108, 111, 97, 100]) = true
              · rw [if_pos k6]; exact h6 k6
              · rw [if_neg k6]
                by_cases k7 : (x.kind.toList == [115, 116, 111, 114, 101]) = true
                · rw [if_pos k7]; exact h7 k7
                · rw [if_neg k7]
                  by_cases k8 : (x.kind.toList == [114, 111, 111, 116]) = true
                  · rw [if_pos k8]; exact h8 k8
                  · rw [if_neg k8]
                    by_cases k9 : (x.kind.toList == [102, 111, 114, 103, 101, 116]) = true
                    · rw [if_pos k9]; exact h9 k9
                    · rw [if_neg k9]
                      by_cases k10 : (x.kind.toList == [100, 114, 111, 112]) = true
                      · rw [if_pos k10]; exact h10 k10
                      · rw [if_neg k10]
                        by_cases k11 : (x.kind.toList == [115, 99, 97, 110]) = true
                        · rw [if_pos k11]; exact h11 k11
                        · rw [if_neg k11]
                          by_cases k12 : (x.kind.toList == [115, 99, 97, 110, 97, 108, 108]) = true
                          · rw [if_pos k12]; exact h12 k12
                          · rw [if_neg k12]
                            exact he
theorem hDid_code (hf : HF h t F W) (x : Ac) (hW : 0 ≤ W) : 0 ≤ (hDid h x).1.2 := by
  have hw := hWho_le (h := h) x.n
  refine hDid_cases (P := fun r => 0 ≤ r.1.2) x (fun _ => ?_) (fun _ => ?_) (fun _ => ?_) (fun _ => ?_) (fun _ => ?_) (fun _ => ?_) (fun _ => ?_) (fun _ => ?_) (fun _ => ?_) (fun _ => ?_) (fun _ => ?_) (fun _ => ?_) (fun _ => ?_) ?_
  · exact (hf.hadd hW).2.2
  · exact (hf.rem x.n).choose_spec.2.2
  · exact (hf.plug x.n x.a).choose_spec.2.2.1
  · exact (hf.unplug x.n x.a).choose_spec.2.2.1
  · exact (hf.give x.n x.a false).choose_spec.2.2.1
  · exact (hf.give x.n x.a true).choose_spec.2.2.1
  · unfold hLoad
    split
    · exact hw
    · exact load_le _
  · refine act_le (fun s x => ?_)
    have := at_code s x
    unfold gStore
    split
    · exact this _ _
    · unfold Pl.set
      repeat' split
      all_goals simp
  · refine act_le (fun s x => ?_)
    unfold onS gRoot
    simp only
    split <;> simp
  · refine act_le (fun s x => ?_)
    unfold onS gForget
    simp only
    split <;> simp
  · refine act_le (fun s x => ?_)
    unfold onS gForgetAll
    simp only
    split <;> simp
  · by_cases h0 : 0 < hWho h x.n
    · rw [hScan_wrong _ h0]; exact hw
    · obtain ⟨k, y, e, hk, hx, _⟩ := hWho_zero (show hWho h x.n = 0 by omega)
      rw [e]
      cases hp : onB x.a with
      | false => rw [hScan_off hx hk hp]; simp
      | true =>
        obtain ⟨p0, p1⟩ := (onB_iff x.a).1 hp
        obtain ⟨q, e2⟩ := Int.eq_ofNat_of_zero_le p0
        rw [e2, (hf.scan hx (show q < 16 by omega)).2.1]
        exact Int.le_refl _
  · exact Int.le_refl _
  · exact Int.le_refl _
/-- How an act ends. -/
def DPost (w : World) (bh bp bf : Nat) (G : Nat → G3) (h : Hs) (r : (Int × Int) × Hs) (w' : World) : Prop :=
  (∃ G', HM w' bh bp bf G' r.2 ∧ ∀ k, Own bh bp bf G' r.2 k → Own bh bp bf G h k ∨ w.heap.size ≤ k) ∧ Upd (Own bh bp bf G h) w w'
theorem own_act {n : Int} {r : Pl → Gs → Int × Pl × Gs} {k : Nat} (hk : Own bh bp bf G (hAct h n r).2 k) : Own bh bp bf G h k := by
  unfold hAct at hk
  split at hk
  · exact hk
  · next h0 =>
    obtain ⟨j, x, rfl, _, hx, hat⟩ := hWho_zero (show hWho h n = 0 by have := hWho_le (h := h) n; omega)
    rw [Int.toNat_natCast] at hk
    exact own_put hx hk
theorem own_load {n a : Int} {k : Nat} (hk : Own bh bp bf G (hLoad h n a).2 k) : Own bh bp bf G h k := by
  unfold hLoad at hk
  split at hk
  · exact hk
  · next h0 =>
    obtain ⟨j, x, rfl, _, hx, hat⟩ := hWho_zero (show hWho h n = 0 by have := hWho_le (h := h) n; omega)
    rw [Int.toNat_natCast] at hk
    exact own_put hx hk
theorem own_remove {n : Int} {k : Nat} (hk : Own bh bp bf G (hRemove h n).2 k) : Own bh bp bf G h k := by
  unfold hRemove at hk
  split at hk
  · exact hk
  · rcases hk with e | e | e | ⟨i, y, hy, e⟩
    · exact Or.inl e
    · exact Or.inr (Or.inl e)
    · exact Or.inr (Or.inr (Or.inl e))
    · have hy : setAt h.g n.toNat none i = some y := hy
      by_cases ei : i = n.toNat
      · rw [ei, setAt_same] at hy; cases hy
      · rw [setAt_other _ _ _ _ ei] at hy
        exact Or.inr (Or.inr (Or.inr ⟨i, y, hy, e⟩))
theorem own_plug {n c : Int} {k : Nat} (hk : Own bh bp bf G (hPlug h n c).2 k) : Own bh bp bf G h k := by
  unfold hPlug at hk
  repeat' split at hk
  all_goals first | exact hk | skip
  next h0 _ _ _ =>
    obtain ⟨j, x, rfl, _, hx, hat⟩ := hWho_zero (show hWho h n = 0 by have := hWho_le (h := h) n; omega)
    rw [Int.toNat_natCast] at hk
    exact own_put hx hk
theorem own_unplug {n c : Int} {k : Nat} (hk : Own bh bp bf G (hUnplug h n c).2 k) : Own bh bp bf G h k := by
  unfold hUnplug at hk
  repeat' split at hk
  all_goals first | exact hk | skip
  next h0 _ =>
    obtain ⟨j, x, rfl, _, hx, hat⟩ := hWho_zero (show hWho h n = 0 by have := hWho_le (h := h) n; omega)
    rw [Int.toNat_natCast] at hk
    exact own_put hx hk
theorem own_give {n p : Int} {bk : Bool} {k : Nat} (hk : Own bh bp bf G (hGive h n p bk).2 k) : Own bh bp bf G h k := by
  unfold hGive at hk
  repeat' split at hk
  all_goals first | exact hk | skip
  next h0 _ =>
    obtain ⟨j, x, rfl, _, hx, hat⟩ := hWho_zero (show hWho h n = 0 by have := hWho_le (h := h) n; omega)
    rw [Int.toNat_natCast] at hk
    exact own_put hx hk
theorem own_scan (hf : HF h t F W) {n p : Int} {k : Nat} (hk : Own bh bp bf G (hScan h n p).2 k) : Own bh bp bf G h k := by
  by_cases h0 : 0 < hWho h n
  · rw [hScan_wrong _ h0] at hk; exact hk
  · obtain ⟨j, y, rfl, hj, hx, _⟩ := hWho_zero (show hWho h n = 0 by have := hWho_le (h := h) n; omega)
    cases hp : onB p with
    | false => rw [hScan_off hx hj hp] at hk; exact hk
    | true =>
      obtain ⟨p0, p1⟩ := (onB_iff p).1 hp
      obtain ⟨q, rfl⟩ := Int.eq_ofNat_of_zero_le p0
      exact own_of (hf.scan hx (show q < 16 by omega)).2.2.2.2.2.2.2.1 hk
end Go.Proofs.YtadpibcgjgcjhabGreatDoor
/- What an act on a host tells, and what its guests may see behind it: by flat memories alone. -/
namespace Go.Proofs.YtadpibcgjgcjhabGreatDoor
open Go.RowKit
variable {h : Hs} {W : Int} {t : Nat → Nat → Int} {F : Nat → Option Fl}

/-- An act of one guest's processor. -/
def fAct (F : Nat → Option Fl) (n : Int) (r : Fl → (Int × Int) × Fl) : (Int × Int) × (Nat → Option Fl) :=
  if 0 < fWho F n then ((0, fWho F n), F) else ((r ((F n.toNat).getD fl0)).1, setAt F n.toNat (some (r ((F n.toNat).getD fl0)).2))
def cScan (F : Nat → Option Fl) (n p : Int) : Int := if 0 < fWho F n then fWho F n else if onB p = true then 0 else 1
def fDid (F : Nat → Option Fl) (N : Nat) (x : Ac) : (Int × Int) × (Nat → Option Fl) :=
  if (x.kind.toList == [97, 100, 100]) = true then (cAdd F, if (cAdd F).2 = 0 then setAt F (cAdd F).1.toNat (some fl0) else F) else
  if (x.kind.toList == [114, 101, 109, 111, 118, 101]) = true then ((0, fWho F x.n), if fWho F x.n = 0 then setAt F x.n.toNat none else F) else
  if (x.kind.toList == [112, 108, 117, 103]) = true then ((0, cPlug F N x.n x.a), if cPlug F N x.n x.a = 0 then setAt F x.n.toNat ((F x.n.toNat).map fun f => fTurnTo f x.a.toNat 1 4) else F) else
  if (x.kind.toList == [117, 110, 112, 108, 117, 103]) = true then ((0, cUnplug F x.n x.a), if cUnplug F x.n x.a = 0 then setAt F x.n.toNat ((F x.n.toNat).map fun f => fTurnTo f x.a.toNat 0 4) else F) else
  if (x.kind.toList == [103, 105, 118, 101]) = true then ((0, cGive F N x.n x.a false), if cGive F N x.n x.a false = 0 then setAt F x.n.toNat ((F x.n.toNat).map fun f => fTurn f x.a.toNat 2) else F) else
  if (x.kind.toList == [98, 97, 99, 107]) = true then ((0, cGive F N x.n x.a true), if cGive F N x.n x.a true = 0 then setAt F x.n.toNat ((F x.n.toNat).map fun f => fTurn f x.a.toNat 1) else F) else
  if (x.kind.toList == [108, 111, 97, 100]) = true then fAct F x.n fun f => fLoad f x.a else
  if (x.kind.toList == [115, 116, 111, 114, 101]) = true then fAct F x.n fun f => ((0, (fStore f x.a x.v).1), (fStore f x.a x.v).2) else
  if (x.kind.toList == [114, 111, 111, 116]) = true then fAct F x.n fun f => ((0, (fRoot f x.a).1), (fRoot f x.a).2) else
  if (x.kind.toList == [102, 111, 114, 103, 101, 116]) = true then fAct F x.n fun f => ((0, (fForget f x.a).1), (fForget f x.a).2) else
  if (x.kind.toList == [100, 114, 111, 112]) = true then fAct F x.n fun f => ((0, (fDrop f x.a).1), (fDrop f x.a).2) else
  if (x.kind.toList == [115, 99, 97, 110]) = true then ((0, cScan F x.n x.a), F) else
  if (x.kind.toList == [115, 99, 97, 110, 97, 108, 108]) = true then ((0, 0), F) else
  ((0, 0), F)
theorem did_cases {P : (Int × Int) × Hs → (Int × Int) × (Nat → Option Fl) → Prop} (N : Nat) (x : Ac) (h0 : (x.kind.toList == [97, 100, 100]) = true → P (hAdd h) ((cAdd F, if (cAdd F).2 = 0 then setAt F (cAdd F).1.toNat (some fl0) else F))) (h1 : (x.kind.toList == [114, 101, 109, 111, 118, 101]) = true → P (((0, (hRemove h x.n).1), (hRemove h x.n).2)) (((0, fWho F x.n), if fWho F x.n = 0 then setAt F x.n.toNat none else F))) (h2 : (x.kind.toList == [112, 108, 117, 103]) = true → P (((0, (hPlug h x.n x.a).1), (hPlug h x.n x.a).2)) (((0, cPlug F N x.n x.a), if cPlug F N x.n x.a = 0 then setAt F x.n.toNat ((F x.n.toNat).map fun f => fTurnTo f x.a.toNat 1 4) else F))) (h3 : (x.kind.toList == [117, 110, 112, 108, 117, 103]) = true → P (((0, (hUnplug h x.n x.a).1), (hUnplug h x.n x.a).2)) (((0, cUnplug F x.n x.a), if cUnplug F x.n x.a = 0 then setAt F x.n.toNat ((F x.n.toNat).map fun f => fTurnTo f x.a.toNat 0 4) else F))) (h4 : (x.kind.toList == [103, 105, 118, 101]) = true → P (((0, (hGive h x.n x.a false).1), (hGive h x.n x.a false).2)) (((0, cGive F N x.n x.a false), if cGive F N x.n x.a false = 0 then setAt F x.n.toNat ((F x.n.toNat).map fun f => fTurn f x.a.toNat 2) else F))) (h5 : (x.kind.toList == [98, 97, 99, 107]) = true → P (((0, (hGive h x.n x.a true).1), (hGive h x.n x.a true).2)) (((0, cGive F N x.n x.a true), if cGive F N x.n x.a true = 0 then setAt F x.n.toNat ((F x.n.toNat).map fun f => fTurn f x.a.toNat 1) else F))) (h6 : (x.kind.toList == [108, 111, 97, 100]) = true → P (hLoad h x.n x.a) (fAct F x.n fun f => fLoad f x.a)) (h7 : (x.kind.toList == [115, 116, 111, 114, 101]) = true → P (((0, (hStore h x.n x.a x.v).1), (hStore h x.n x.a x.v).2)) (fAct F x.n fun f => ((0, (fStore f x.a x.v).1), (fStore f x.a x.v).2))) (h8 : (x.kind.toList == [114, 111, 111, 116]) = true → P (((0, (hRoot h x.n x.a).1), (hRoot h x.n x.a).2)) (fAct F x.n fun f => ((0, (fRoot f x.a).1), (fRoot f x.a).2))) (h9 : (x.kind.toList == [102, 111, 114, 103, 101, 116]) = true → P (((0, (hForget h x.n x.a).1), (hForget h x.n x.a).2)) (fAct F x.n fun f => ((0, (fForget f x.a).1), (fForget f x.a).2))) (h10 : (x.kind.toList == [100, 114, 111, 112]) = true → P (((0, (hDrop h x.n x.a).1), (hDrop h x.n x.a).2)) (fAct F x.n fun f => ((0, (fDrop f x.a).1), (fDrop f x.a).2))) (h11 : (x.kind.toList == [115, 99, 97, 110]) = true → P (((0, (hScan h x.n x.a).1.2), (hScan h x.n x.a).2)) (((0, cScan F x.n x.a), F))) (h12 : (x.kind.toList == [115, 99, 97, 110, 97, 108, 108]) = true → P (((0, 0), (hScanTo h 64).2)) (((0, 0), F))) (he : P ((0, 0), h) ((0, 0), F)) : P (hDid h x) (fDid F N x) := by
  unfold hDid fDid
  by_cases k0 : (x.kind.toList == [97, 100, 100]) = true
  · rw [if_pos k0, if_pos k0]; exact h0 k0
  · rw [if_neg k0, if_neg k0]
    by_cases k1 : (x.kind.toList == [114, 101, 109, 111, 118, 101]) = true
    · rw [if_pos k1, if_pos k1]; exact h1 k1
    · rw [if_neg k1, if_neg k1]
      by_cases k2 : (x.kind.toList == [112, 108, 117, 103]) = true
      · rw [if_pos k2, if_pos k2]; exact h2 k2
      · rw [if_neg k2, if_neg k2]
        by_cases k3 : (x.kind.toList == [117, 110, 112, 108, 117, 103]) = true
        · rw [if_pos k3, if_pos k3]; exact h3 k3
        · rw [if_neg k3, if_neg k3]
          by_cases k4 : (x.kind.toList == [103, 105, 118, 101]) = true
          · rw [if_pos k4, if_pos k4]; exact h4 k4
          · rw [if_neg k4, if_neg k4]
            by_cases k5 : (x.kind.toList == [98, 97, 99, 107]) = true
            · rw [if_pos k5, if_pos k5]; exact h5 k5
            · rw [if_neg k5, if_neg k5]
              by_cases k6 : (x.kind.toList == [108, 111, 97, 100]) = true
              · rw [if_pos k6, if_pos k6]; exact h6 k6
              · rw [if_neg k6, if_neg k6]
                by_cases k7 : (x.kind.toList == [115, 116, 111, 114, 101]) = true
                · rw [if_pos k7, if_pos k7]; exact h7 k7
                · rw [if_neg k7, if_neg k7]
                  by_cases k8 : (x.kind.toList == [114, 111, 111, 116]) = true
                  · rw [if_pos k8, if_pos k8]; exact h8 k8
                  · rw [if_neg k8, if_neg k8]
                    by_cases k9 : (x.kind.toList == [102, 111, 114, 103, 101, 116]) = true
                    · rw [if_pos k9, if_pos k9]; exact h9 k9
                    · rw [if_neg k9, if_neg k9]
                      by_cases k10 : (x.kind.toList == [100, 114, 111, 112]) = true
                      · rw [if_pos k10, if_pos k10]; exact h10 k10
                      · rw [if_neg k10, if_neg k10]
                        by_cases k11 : (x.kind.toList == [115, 99, 97, 110]) = true
                        · rw [if_pos k11, if_pos k11]; exact h11 k11
                        · rw [if_neg k11, if_neg k11]
                          by_cases k12 : (x.kind.toList == [115, 99, 97, 110, 97, 108, 108]) = true
                          · rw [if_pos k12, if_pos k12]; exact h12 k12
                          · rw [if_neg k12, if_neg k12]
                            exact he
theorem HF.more {W' : Int} (hf : HF h t F W) (hw : W ≤ W') : HF h t F W' := ⟨hf.hr.more hw, hf.blk, hf.non, hf.fl⟩
theorem at_n (s : Pl) (x : Gs) (addr : Int) (wt : Bool) : (gAt s x addr wt).2.1.n = s.n := by
  have step : ∀ (s : Pl) (x : Gs) (y : En) (fd : Bool), (gStep s x y fd wt).2.1.n = s.n := by
    intro s x y fd
    have := touch_n s x.m y.dest wt
    unfold gStep
    repeat' split
    all_goals first | rfl | exact this
  unfold gAt
  have ht := touch_n s x.m (addr / 16) wt
  have hr := touch_n s x.m x.root false
  repeat' split
  · rfl
  · exact ht
  · exact step _ _ _ _
  · unfold gWalk
    repeat' split
    · exact hr
    · exact hr
    · rw [step]; exact hr
theorem load_n (s : Pl) (x : Gs) (a : Int) : (gLoad s x a).2.1.n = s.n := by
  unfold gLoad
  split <;> exact at_n _ _ _ _
theorem store_n (s : Pl) (x : Gs) (a v : Int) : (gStore s x a v).2.1.n = s.n := by
  unfold gStore
  split
  · exact at_n _ _ _ _
  · simp only
    rw [set_n]
    exact at_n _ _ _ _
theorem act_n {n : Int} {r : Pl → Gs → Int × Pl × Gs} (hr : ∀ s x, (r s x).2.1.n = s.n) : (hAct h n r).2.s.n = h.s.n := by
  unfold hAct
  split
  · rfl
  · exact hr _ _
theorem plugs_n (s : Pl) (x : Gs) (b : Nat) : ∀ j, (gPlugs s x b j).1.n = s.n
  | 0 => rfl
  | j + 1 => by
    have := plugs_n s x b j
    show (plugR _ _ _).2.1.n = _
    rw [plug_n, this]
theorem unplugs_n (s : Pl) (x : Gs) (b : Nat) : ∀ j, (gUnplugs s x b j).2.1.n = s.n
  | 0 => rfl
  | j + 1 => by
    have := unplugs_n s x b j
    show (if 0 < (gUnplugs s x b j).1 then gUnplugs s x b j else gUnplug (gUnplugs s x b j).2.1 (gUnplugs s x b j).2.2 ((4 * b + j : Nat) : Int)).2.1.n = _
    split
    · exact this
    · show (unplugR _ _ _).2.1.n = _
      rw [unplug_n, this]
/-- What an act tells, and what is seen behind it. -/
structure Tells (h : Hs) (W : Int) (r : (Int × Int) × Hs) (q : (Int × Int) × (Nat → Option Fl)) : Prop where
  ans : r.1 = q.1
  hf : ∃ t', HF r.2 t' q.2 (W + 1)
  n : r.2.s.n = h.s.n
theorem tells_proc (hf : HF h t F W) {n : Int} {r : Pl → Gs → Int × Pl × Gs} {q : Fl → Int × Fl} (hn : ∀ s x, (r s x).2.1.n = s.n)
    (hk : ∀ (k : Nat) (x : Gs) (f : Fl), h.g k = some x → F k = some f → (r h.s x).1 = (q f).1 ∧ ∃ t', HF (h.put k (r h.s x).2) t' (setAt F k (some (q f).2)) (W + 1)) :
    Tells h W ((0, (hAct h n r).1), (hAct h n r).2) (fAct F n fun f => ((0, (q f).1), (q f).2)) := by
  refine ⟨?_, ?_, act_n hn⟩
  all_goals
    unfold hAct fAct
    rw [← hf.who n]
    by_cases h0 : 0 < hWho h n
    · simp only [if_pos h0] <;> first | rfl | exact ⟨t, hf.more (by omega)⟩
    · obtain ⟨k, x, rfl, _, hx, hat⟩ := hWho_zero (show hWho h n = 0 by have := hWho_le (h := h) n; omega)
      obtain ⟨f, hq, _⟩ := hf.view hx
      simp only [if_neg h0, hat, Int.toNat_natCast, hq, Option.getD_some]
      first
        | (rw [(hk k x f hx hq).1])
        | exact (hk k x f hx hq).2
theorem HF.tells (hf : HF h t F W) (hW : 0 ≤ W) (x : Ac) (v0 : 0 ≤ x.v) (v1 : x.v ≤ 255) : Tells h W (hDid h x) (fDid F h.s.n x) := by
  refine did_cases (P := fun r q => Tells h W r q) h.s.n x (fun _ => ?_) (fun _ => ?_) (fun _ => ?_) (fun _ => ?_) (fun _ => ?_) (fun _ => ?_) (fun _ => ?_) (fun _ => ?_) (fun _ => ?_) (fun _ => ?_) (fun _ => ?_) (fun _ => ?_) (fun _ => ?_) ?_
  · refine ⟨hf.cadd, ⟨t, ?_⟩, ?_⟩
    · have := (hf.hadd hW).1.more (show W ≤ W + 1 by omega)
      rw [hf.cadd] at this
      exact this
    · unfold hAdd
      split <;> rfl
  · obtain ⟨t', h1, h2, h3⟩ := hf.rem x.n
    have e : (hRemove h x.n).1 = fWho F x.n := by
      rw [← hf.who]
      have := hWho_le (h := h) x.n
      unfold hRemove
      split
      · rfl
      · simp only; omega
    refine ⟨by rw [e], ⟨t', ?_⟩, ?_⟩
    · have := h1.more (show W ≤ W + 1 by omega)
      rw [e] at this
      exact this
    · unfold hRemove
      split
      · rfl
      · exact gClear_n _ _ _
  · obtain ⟨t', h1, h2, h3⟩ := hf.plug x.n x.a
    refine ⟨by rw [hf.cplug], ⟨t', ?_⟩, ?_⟩
    · have := h1.more (show W ≤ W + 1 by omega)
      rw [hf.cplug] at this
      exact this
    · unfold hPlug
      repeat' split
      all_goals first | rfl | exact plugs_n _ _ _ _
  · obtain ⟨t', h1, h2, h3⟩ := hf.unplug x.n x.a
    refine ⟨by rw [hf.cunplug], ⟨t', ?_⟩, ?_⟩
    · have := h1.more (show W ≤ W + 1 by omega)
      rw [hf.cunplug] at this
      exact this
    · unfold hUnplug
      repeat' split
      all_goals first | rfl | exact unplugs_n _ _ _ _
  · obtain ⟨t', h1, h2, h3⟩ := hf.give x.n x.a false
    refine ⟨by rw [hf.cgive], ⟨t', ?_⟩, ?_⟩
    · have := h1.more (show W ≤ W + 1 by omega)
      rw [hf.cgive] at this
      exact this
    · unfold hGive
      repeat' split
      all_goals first | rfl | exact give_n _ _ _ _
  · obtain ⟨t', h1, h2, h3⟩ := hf.give x.n x.a true
    refine ⟨by rw [hf.cgive], ⟨t', ?_⟩, ?_⟩
    · have := h1.more (show W ≤ W + 1 by omega)
      rw [hf.cgive] at this
      exact this
    · unfold hGive
      repeat' split
      all_goals first | rfl | exact give_n _ _ _ _
  · unfold hLoad fAct
    rw [← hf.who x.n]
    by_cases h0 : 0 < hWho h x.n
    · simp only [if_pos h0]
      exact ⟨rfl, ⟨t, hf.more (by omega)⟩, rfl⟩
    · obtain ⟨k, y, e, _, hx, hat⟩ := hWho_zero (show hWho h x.n = 0 by have := hWho_le (h := h) x.n; omega)
      obtain ⟨f, hq, _⟩ := hf.view hx
      simp only [if_neg h0, hat]
      rw [e, Int.toNat_natCast, hq, Option.getD_some]
      obtain ⟨e1, e2⟩ := hf.load hx hq x.a
      exact ⟨e1, ⟨t, e2⟩, load_n _ _ _⟩
  · exact tells_proc (q := fun f => fStore f x.a x.v) hf (fun s y => store_n s y x.a x.v) (fun k y f hx hq => hf.store hx hq x.a x.v v0 v1)
  · exact tells_proc (q := fun f => fRoot f x.a) hf (fun _ _ => rfl) (fun k y f hx hq => ⟨(hf.root hx hq x.a).1, t, (hf.root hx hq x.a).2.more (by omega)⟩)
  · exact tells_proc (q := fun f => fForget f x.a) hf (fun _ _ => rfl) (fun k y f hx hq => ⟨(hf.forget hx hq x.a).1, t, (hf.forget hx hq x.a).2.more (by omega)⟩)
  · exact tells_proc (q := fun f => fDrop f x.a) hf (fun _ _ => rfl) (fun k y f hx hq => ⟨(hf.drop hx hq x.a).1, t, (hf.drop hx hq x.a).2.more (by omega)⟩)
  · unfold cScan
    rw [← hf.who x.n]
    by_cases h0 : 0 < hWho h x.n
    · rw [hScan_wrong _ h0, if_pos h0]
      exact ⟨rfl, ⟨t, hf.more (by omega)⟩, rfl⟩
    · rw [if_neg h0]
      obtain ⟨k, y, e, hk, hx, _⟩ := hWho_zero (show hWho h x.n = 0 by have := hWho_le (h := h) x.n; omega)
      rw [e]
      cases hp : onB x.a with
      | false =>
        rw [hScan_off hx hk hp]
        exact ⟨rfl, ⟨t, hf.more (by omega)⟩, rfl⟩
      | true =>
        obtain ⟨p0, p1⟩ := (onB_iff x.a).1 hp
        obtain ⟨q, e2⟩ := Int.eq_ofNat_of_zero_le p0
        have hs := hf.scan hx (show q < 16 by omega)
        rw [e2]
        refine ⟨?_, ⟨t, hs.1.more (by omega)⟩, hs.2.2.2.2.2.2.1⟩
        simp only [if_true]
        rw [hs.2.1]
  · have h1 := (hf.scans 64 (Nat.le_refl _)).1
    have h2 := (hf.scans 64 (Nat.le_refl _)).2.2.1
    revert h1 h2
    generalize (hScanTo h 64).2 = hh
    intro h1 h2
    exact ⟨rfl, ⟨t, h1.more (by omega)⟩, h2⟩
  · exact ⟨rfl, ⟨t, hf.more (by omega)⟩, rfl⟩
end Go.Proofs.YtadpibcgjgcjhabGreatDoor
/- TopApart, plainly: two hosts whose pages have the same states, and one guest that sees the same. -/
namespace Go.Proofs.YtadpibcgjgcjhabGreatDoor
open Go.RowKit
variable {F F' : Nat → Option Fl} {g : Int}

/-- What two hosts have in common for a guest g. -/
structure Apn (g : Int) (F F' : Nat → Option Fl) : Prop where
  alk : Alk F F'
  own : 0 ≤ g → ∀ f f', F g.toNat = some f → F' g.toNat = some f' → f = f'
/-- What the law passes by at the second host. -/
def inner (x : Ac) : Bool := (x.kind.toList == [108, 111, 97, 100]) || (x.kind.toList == [115, 116, 111, 114, 101]) || (x.kind.toList == [114, 111, 111, 116]) || (x.kind.toList == [102, 111, 114, 103, 101, 116]) || (x.kind.toList == [100, 114, 111, 112])
def passes (x : Ac) (g : Int) : Bool := (x.kind.toList == [115, 99, 97, 110]) || (x.kind.toList == [115, 99, 97, 110, 97, 108, 108]) || (inner x && (x.n != g))
end Go.Proofs.YtadpibcgjgcjhabGreatDoor
/- TopApart: where it begins; both hosts in one state. -/
namespace Go.Proofs.YtadpibcgjgcjhabGreatDoor
open Go.ChangeShapes Go.WideShapes Go.ChangeAt Go.RowKit
set_option maxRecDepth 100000
attribute [local go_sem ↓] Go.wp_at_zero Go.wp_at_succ

theorem cntTo_off {L : Nat → Lf} (f : Int) (hl : ∀ k, (L k).there = false) : ∀ K, cntTo L f K = 0
  | 0 => rfl
  | K + 1 => by
    rw [cntTo_succ, cntTo_off f hl K]
    unfold inIn
    rw [hl K]
    simp
theorem pln_off {S : Nat → Int} (hs : ∀ k, S k = 0) : ∀ K, pln S K = 0
  | 0 => rfl
  | K + 1 => by
    simp only [pln]
    rw [pln_off hs K, hs K]
    simp
/-- A new host. -/
theorem HF.start (n : Nat) : HF (hs0 n) (fun _ _ => 0) (fun _ => none) 0 := by
  have hl : ∀ k, (rowL (hs0 n) k).there = false := fun _ => rfl
  have no : ∀ k, (rowL (hs0 n) k).there = true → False := fun k ht => by rw [hl k] at ht; cases ht
  have ng : ∀ i x, (hs0 n).g i = some x → False := fun i x hx => by cases hx
  have hs : ∀ k, rowS (hs0 n) k = 0 := fun _ => rfl
  have hp := pln_off hs 64
  refine ⟨⟨⟨⟨fun f _ => (by rw [cntTo_off f hl]; rfl), fun k _ ht => (no k ht).elim⟩, fun _ _ => ⟨Int.le_refl _, (by show (0 : Int) ≤ 255; omega)⟩, fun i x hx => (ng i x hx).elim⟩, ⟨fun k _ ht => (no k ht).elim, fun _ _ _ _ _ => rfl, fun k _ ht => (no k ht).elim⟩, (by rw [hp]; exact Nat.zero_le _)⟩, fun i x hx => (ng i x hx).elim, fun _ => ⟨fun _ => rfl, fun _ => rfl⟩, fun i x f hx => (ng i x hx).elim⟩
/-- A host in memory, with what its guests see; its blocks are new. -/
structure HS (W w : World) (n k : Nat) (bh bp bf : Nat) (G : Nat → G3) (h : Hs) (F : Nat → Option Fl) : Prop where
  m : HM w bh bp bf G h
  hf : ∃ t, HF h t F (k : Int)
  n : h.s.n = n
  new : ∀ j, Own bh bp bf G h j → W.heap.size ≤ j
/-- Both hosts of TopApart. -/
structure A2 (W w : World) (n k : Nat) (g : Int) (bh bp bf ch cp cf : Nat) : Prop where
  ex : ∃ G h F G' o F', HS W w n k bh bp bf G h F ∧ HS W w n k ch cp cf G' o F' ∧ Apn g F F' ∧ ∀ j, Own bh bp bf G h j → ¬ Own ch cp cf G' o j
  up : Upd (fun _ => False) W w
end Go.Proofs.YtadpibcgjgcjhabGreatDoor
/- Package host: Frame, Cached, Guests. -/
namespace Go.Proofs.YtadpibcgjgcjhabGreatDoor
open Go.ChangeShapes Go.WideShapes Go.ChangeAt Go.RowKit
set_option maxRecDepth 100000
attribute [local go_sem ↓] Go.wp_at_zero Go.wp_at_succ
variable {w w' : World} {bh bp bf : Nat} {G G' : Nat → G3} {h h' : Hs} {x : Gs} {s' : Pl} {x' : Gs} {b : Mp} {W : Int} {t : Nat → Nat → Int} {F : Nat → Option Fl}

set_option maxHeartbeats 1000000 in
theorem hFrame_any (m : HM w bh bp bf G h) (f : Int) : Calls Tryz.prog 88 #[.pointer (some ⟨bh, 0, none⟩), .int .i64 f] w (MRead w (.tuple #[.agg #[.int .i64 (h.s.of f).1, .int .i64 (h.s.of f).2.1], errV (h.s.of f).2.2])) := by
  have u1 := (Upd.refl (fun _ => False) w).alloc (.cells #[.int .i64 0, .int .i64 0] 67)
  have c0 := (m.same u1).c0
  have HO : Hid _ := of_any _ bp bf f h.s (m.same u1).pool m.hn
  have y0 : (w.alloc (.cells #[.int .i64 0, .int .i64 0] 67)).cell? ⟨w.heap.size, 0, none⟩ = some (.int .i64 0) := by rw [World.cell?_alloc_new]; rfl
  have y1 : (w.alloc (.cells #[.int .i64 0, .int .i64 0] 67)).cell? ⟨w.heap.size, 1, none⟩ = some (.int .i64 0) := by rw [World.cell?_alloc_new]; rfl
  have hz : ∀ o, (w.alloc (.cells #[.int .i64 0, .int .i64 0] 67)).frozen? ⟨w.heap.size, o, none⟩ = false := fun o => World.frozen?_alloc_new _ _ _ _
  have HY0 : Hid _ := y0
  have HY1 : Hid _ := y1
  have HZ : Hid _ := hz
  have HU1 : Hid _ := u1
  have HSZ : Hid (w.heap.size < (w.alloc (.cells #[.int .i64 0, .int .i64 0] 67)).heap.size) := show _ < _ by simp
  clear m u1 y0 y1 hz
  generalize h.s.of f = r at *
  obtain ⟨r1, r2, r3⟩ := r
  simp only at HO ⊢
  generalize errV r3 = ev at *
  go_enter Tryz.func88, Tryz.ntmps88
  go_wp2_with fail
  refine Calls.mono HO.out ?_
  rintro e w1 ⟨rfl, hu⟩
  have y0 := hu.cell HY0.out (fun f => f)
  have y1 := hu.cell HY1.out (fun f => f)
  have z0 : ∀ o, w1.frozen? ⟨w.heap.size, o, none⟩ = false := fun o => by rw [World.frozen?_of_block (hu.block w.heap.size HSZ.out (fun f => f))]; exact HZ.out o
  have z1 := z0 0
  have z2 := z0 1
  have HU : Hid _ := HU1.out.trans hu (fun _ _ f => f)
  have HU2 : Hid (Upd (fun k => k = w.heap.size) w1 ((w1.setCell ⟨w.heap.size, 0, none⟩ (.int .i64 r1)).setCell ⟨w.heap.size, 1, none⟩ (.int .i64 r2))) := (Upd.one w1 w.heap.size 0 _).trans (Upd.one _ w.heap.size 1 _) (fun _ _ e => e)
  clear z0 hu HU1 HO HZ HY0 HY1
  go_wp2_with fail
  refine bodyPost_ret (v := .tuple #[.agg #[.int .i64 r1, .int .i64 r2], ev]) (by simp [results, Tryz.results88, go_sem, y0, y1]) rfl ⟨rfl, HU.out.trans HU2.out (fun i hi e => by omega)⟩
end Go.Proofs.YtadpibcgjgcjhabGreatDoor
/- Slices of numbers. -/
namespace Go.Proofs.YtadpibcgjgcjhabGreatDoor
open Go.ChangeShapes Go.WideShapes Go.ChangeAt Go.RowKit
set_option maxRecDepth 100000

def nmC (l : List Nat) : List Value := l.map fun (n : Nat) => Value.int .i64 (n : Int)
/-- A list of numbers that a slice holds. -/
def SlN (w : World) (base : Nat) (v : Value) (l : List Nat) : Prop := w.ownsRow base 3 1 v l.length (nmC l)
theorem SlN.nil (w : World) (base : Nat) : SlN w base (.slice none 0 0) [] := World.ownsRow_nil _ _ _ _
theorem SlN.form {w : World} {base : Nat} {v : Value} {l : List Nat} (h : SlN w base v l) : ∃ a cap, v = .slice a l.length cap ∧ (∀ i, i < l.length → ∃ g, a = some ⟨g, 0, none⟩ ∧ base ≤ g ∧ g < w.heap.size ∧ w.cell? ⟨g, i, none⟩ = some (.int .i64 (l.getD i 0 : Nat))) := by
  rcases h.2 with ⟨rfl, h0⟩ | ⟨g, cap, cur, rfl, hb, hg, _⟩
  · exact ⟨none, 0, by rw [h0], fun i hi => absurd hi (by omega)⟩
  · refine ⟨some ⟨g, 0, none⟩, cap, rfl, fun i hi => ⟨g, rfl, hb, ?_, ?_⟩⟩
    · rcases Nat.lt_or_ge g w.heap.size with hlt | hge
      · exact hlt
      · rw [Array.getElem?_eq_none hge] at hg; cases hg
    · have hu : (nmC l)[i]? = some (.int .i64 (l.getD i 0 : Nat)) := by
        simp [nmC, List.getElem?_map, List.getElem?_eq_getElem hi, List.getD_eq_getElem?_getD]
      have := World.ownsRow.cells h (g := g) rfl _ _ hu
      rw [Addr.add_mid, Nat.zero_add] at this
      exact this
theorem SlN.grown {w wr w2 : World} {v : Value} {l : List Nat} {x : Nat} {g cap : Nat} (hu : Upd (fun _ => False) w wr) (hS : SlN wr w.heap.size v l) (o : Obj)
    (hown : w2.ownsRow w.heap.size 3 1 (.slice (some ⟨g, 0, none⟩) (l.length + 1) cap) (l.length + 1) (nmC l ++ [.int .i64 (x : Int)])) (hgrow : (wr.alloc o).grownBy w2 v.ownBlock) :
    SlN w2 w.heap.size (.slice (some ⟨g, 0, none⟩) (l.length + 1) cap) (l ++ [x]) ∧ Upd (fun _ => False) w w2 := by
  refine ⟨?_, hgrow.os.trans hu.os, hgrow.tape.trans hu.tape, hgrow.output.trans hu.output, ?_, ?_⟩
  · unfold SlN
    rw [List.length_append]
    simpa [nmC] using hown
  · have := hgrow.size
    simp only [World.size_alloc] at this
    have := hu.size
    omega
  · intro k hk _
    have hz := hu.size
    rw [hgrow.block k (by simp only [World.size_alloc]; omega) (by
      intro e
      have := World.ownsRow.lt hS k e.symm
      omega), Below.heap_alloc _ _ _ (by omega)]
    exact hu.block k hk (fun f => f)
theorem infoInt : (Tryz.prog.info? 3).map (fun i => (i.size, i.bytes, i.zero)) = some (1, 8, some (.int .i64 0)) := by kernel_rfl
end Go.Proofs.YtadpibcgjgcjhabGreatDoor
/- Package host: Guests. -/
namespace Go.Proofs.YtadpibcgjgcjhabGreatDoor
open Go.ChangeShapes Go.WideShapes Go.ChangeAt Go.RowKit
set_option maxRecDepth 100000
attribute [local go_sem ↓] Go.wp_at_zero Go.wp_at_succ
variable {w w' : World} {bh bp bf : Nat} {G G' : Nat → G3} {h h' : Hs} {x : Gs} {W : Int}

/-- The guests' numbers, up to one. -/
def hNums (h : Hs) : Nat → List Nat
  | 0 => []
  | k + 1 => hNums h k ++ (match h.g k with | some _ => [k] | none => [])
theorem hNums_len (h : Hs) : ∀ k, (hNums h k).length ≤ k
  | 0 => Nat.le_refl _
  | k + 1 => by
    have := hNums_len h k
    simp only [hNums, List.length_append]
    split <;> simp <;> omega
theorem idx4 (p0 p1 p2 p3 : Value) (w : World) : (Instr.index 81 (.agg #[p0, p1, p2, p3]) (.int .i64 0)).run Tryz.prog w = .ok p0 w ∧ (Instr.index 81 (.agg #[p0, p1, p2, p3]) (.int .i64 1)).run Tryz.prog w = .ok p1 w ∧ (Instr.index 81 (.agg #[p0, p1, p2, p3]) (.int .i64 2)).run Tryz.prog w = .ok p2 w ∧ (Instr.index 81 (.agg #[p0, p1, p2, p3]) (.int .i64 3)).run Tryz.prog w = .ok p3 w := ⟨by kernel_rfl, by kernel_rfl, by kernel_rfl, by kernel_rfl⟩
set_option maxHeartbeats 2000000 in
theorem hGuests_any (m : HM w bh bp bf G h) : Calls Tryz.prog 87 #[.pointer (some ⟨bh, 0, none⟩)] w fun e w' => ∃ v, e = .returned v ∧ SlN w' w.heap.size v (hNums h 4) ∧ Upd (fun _ => False) w w' := by
  have c0 := m.cg 0 (by omega)
  have c1 := m.cg 1 (by omega)
  have c2 := m.cg 2 (by omega)
  have c3 := m.cg 3 (by omega)
  simp only [Nat.add_zero] at c0
  simp only [Nat.reduceAdd] at c1 c2 c3
  clear m
  generalize hp0 : gPtr (h.g 0) (G 0).g = p0 at *
  generalize hp1 : gPtr (h.g 1) (G 1).g = p1 at *
  generalize hp2 : gPtr (h.g 2) (G 2).g = p2 at *
  generalize hp3 : gPtr (h.g 3) (G 3).g = p3 at *
  have HP0 : Hid _ := hp0
  have HP1 : Hid _ := hp1
  have HP2 : Hid _ := hp2
  have HP3 : Hid _ := hp3
  clear hp0 hp1 hp2 hp3
  go_enter Tryz.func87, Tryz.ntmps87
  go_wp2_with fail
  go_loopg [3, 10] 4 (fun g l i wr => ∃ k : Nat, k + g = 4 ∧ i = .int .i64 k ∧ Hid (SlN wr w.heap.size l (hNums h k)) ∧ Hid (Upd (fun _ => False) w wr))
  case atStart => exact ⟨0, by omega, rfl, SlN.nil _ _, Upd.refl _ _⟩
  case round =>
    clear c0 c1 c2 c3
    obtain ⟨k, hk, rfl, HS, HU⟩ := hrel
    have HK : Hid _ := hk
    by_cases hlt : k < 4
    · clear hk
      have hk4 : k = 0 ∨ k = 1 ∨ k = 2 ∨ k = 3 := by omega
      rcases hk4 with rfl | rfl | rfl | rfl
      · cases hx : h.g 0 with
        | none =>
          have HST : Hid (hNums h (0 + 1) = hNums h 0) := show hNums h (0 + 1) = _ by simp only [hNums, hx, List.append_nil]
          have hb : (binOp .neq 80 p0 (.pointer none)).run Tryz.prog wr = .ok (.bool false) wr := by rw [← HP0.out, hx]; rfl
          have hg : (eqGuard .neq 80 (Operand.tmp 14) (Operand.const (.pointer none)) p0 (.pointer none)).run Tryz.prog wr = .ok () wr := by rw [← HP0.out, hx]; rfl
          clear hx
          have ix := (idx4 p0 p1 p2 p3 wr).1
          go_wp2_with fail
          go_roundg (4 - (0 + 1))
          case rel => exact ⟨0 + 1, by omega, by go_num, by rw [HST.out]; exact HS.out, HU.out⟩
          case measure => have := HK.out; omega
        | some y =>
          have hb : (binOp .neq 80 p0 (.pointer none)).run Tryz.prog wr = .ok (.bool true) wr := by rw [← HP0.out, hx]; rfl
          have hg : (eqGuard .neq 80 (Operand.tmp 14) (Operand.const (.pointer none)) p0 (.pointer none)).run Tryz.prog wr = .ok () wr := by rw [← HP0.out, hx]; rfl
          have ix := (idx4 p0 p1 p2 p3 wr).1
          obtain ⟨i, hi, he⟩ := Option.map_eq_some_iff.1 infoInt
          simp only [Prod.mk.injEq] at he
          obtain ⟨he1, he2, he3⟩ := he
          have HE1 : Hid _ := he1
          have HE2 : Hid _ := he2
          have HE3 : Hid _ := he3
          have HI : Hid _ := hi
          clear he1 he2 he3 hi
          have hkl := hNums_len h 0
          have HN : Hid (∀ j u, ([.int .i64 (0 : Int)] : List Value)[j]? = some u → (wr.alloc (.cells #[.int .i64 (0 : Int)] 3)).cell? ((⟨wr.heap.size, 0, none⟩ : Addr).add j) = some u) := by
            show ∀ j u, _
            intro j u hj
            rw [Addr.add_mid, Nat.zero_add, World.cell?_alloc_new, ← hj]
            simp
          have HO : Hid _ := World.ownsRow.alloc HS.out (.cells #[.int .i64 (0 : Int)] 3)
          have HB : Hid (w.heap.size ≤ (wr.alloc (.cells #[.int .i64 (0 : Int)] 3)).heap.size) := show _ ≤ _ by have := HU.out.size; simp only [World.size_alloc]; omega
          have H1 : Hid (∀ u ∈ ([.int .i64 (0 : Int)] : List Value), u.oneCell' = true) := show ∀ u ∈ ([.int .i64 (0 : Int)] : List Value), _ from fun u hu' => by simp at hu'; subst hu'; rfl
          have HST : Hid (hNums h (0 + 1) = hNums h 0 ++ [0]) := show hNums h (0 + 1) = _ by simp only [hNums, hx]
          clear hx
          generalize hfs : hNums h 0 = fs at *
          clear hfs
          go_wp2_with (at_builtin; refine wpList_append_lies _ (by rfl) _ _ 63 (by rfl) w.heap.size 3 i (.int .i64 0) 1 8 Tryz.underlying63 HI.out HE3.out HE1.out HE2.out (by rfl) (by omega) u3 fs.length (nmC fs) (by rfl) HO.out ⟨wr.heap.size, 0, none⟩ 1 1 ([.int .i64 (0 : Int)]) (by rfl) (by rfl) HN.out H1.out (by omega) (by unfold maxLen; omega) (by omega) HB.out (wr.heap.size + 1) (by simp) ?_; intro g2 cap2 w2 hown hgrow hat hlt2)
          obtain ⟨hS2, hu2⟩ := SlN.grown (x := 0) HU.out HS.out _ hown hgrow
          clear hown hgrow hat hlt2
          go_roundg (4 - (0 + 1))
          case rel => exact ⟨0 + 1, by omega, by go_num, by rw [HST.out]; exact hS2, hu2⟩
          case measure => have := HK.out; omega
      · cases hx : h.g 1 with
        | none =>
          have HST : Hid (hNums h (1 + 1) = hNums h 1) := show hNums h (1 + 1) = _ by simp only [hNums, hx, List.append_nil]
          have hb : (binOp .neq 80 p1 (.pointer none)).run Tryz.prog wr = .ok (.bool false) wr := by rw [← HP1.out, hx]; rfl
          have hg : (eqGuard .neq 80 (Operand.tmp 14) (Operand.const (.pointer none)) p1 (.pointer none)).run Tryz.prog wr = .ok () wr := by rw [← HP1.out, hx]; rfl
          clear hx
          have ix := (idx4 p0 p1 p2 p3 wr).2.1
          go_wp2_with fail
          go_roundg (4 - (1 + 1))
          case rel => exact ⟨1 + 1, by omega, by go_num, by rw [HST.out]; exact HS.out, HU.out⟩
          case measure => have := HK.out; omega
        | some y =>
          have hb : (binOp .neq 80 p1 (.pointer none)).run Tryz.prog wr = .ok (.bool true) wr := by rw [← HP1.out, hx]; rfl
          have hg : (eqGuard .neq 80 (Operand.tmp 14) (Operand.const (.pointer none)) p1 (.pointer none)).run Tryz.prog wr = .ok () wr := by rw [← HP1.out, hx]; rfl
          have ix := (idx4 p0 p1 p2 p3 wr).2.1
          obtain ⟨i, hi, he⟩ := Option.map_eq_some_iff.1 infoInt
          simp only [Prod.mk.injEq] at he
          obtain ⟨he1, he2, he3⟩ := he
          have HE1 : Hid _ := he1
          have HE2 : Hid _ := he2
          have HE3 : Hid _ := he3
          have HI : Hid _ := hi
          clear he1 he2 he3 hi
          have hkl := hNums_len h 1
          have HN : Hid (∀ j u, ([.int .i64 (1 : Int)] : List Value)[j]? = some u → (wr.alloc (.cells #[.int .i64 (1 : Int)] 3)).cell? ((⟨wr.heap.size, 0, none⟩ : Addr).add j) = some u) := by
            show ∀ j u, _
            intro j u hj
            rw [Addr.add_mid, Nat.zero_add, World.cell?_alloc_new, ← hj]
            simp
          have HO : Hid _ := World.ownsRow.alloc HS.out (.cells #[.int .i64 (1 : Int)] 3)
          have HB : Hid (w.heap.size ≤ (wr.alloc (.cells #[.int .i64 (1 : Int)] 3)).heap.size) := show _ ≤ _ by have := HU.out.size; simp only [World.size_alloc]; omega
          have H1 : Hid (∀ u ∈ ([.int .i64 (1 : Int)] : List Value), u.oneCell' = true) := show ∀ u ∈ ([.int .i64 (1 : Int)] : List Value), _ from fun u hu' => by simp at hu'; subst hu'; rfl
          have HST : Hid (hNums h (1 + 1) = hNums h 1 ++ [1]) := show hNums h (1 + 1) = _ by simp only [hNums, hx]
          clear hx
          generalize hfs : hNums h 1 = fs at *
          clear hfs
          go_wp2_with (at_builtin; refine wpList_append_lies _ (by rfl) _ _ 63 (by rfl) w.heap.size 3 i (.int .i64 0) 1 8 Tryz.underlying63 HI.out HE3.out HE1.out HE2.out (by rfl) (by omega) u3 fs.length (nmC fs) (by rfl) HO.out ⟨wr.heap.size, 0, none⟩ 1 1 ([.int .i64 (1 : Int)]) (by rfl) (by rfl) HN.out H1.out (by omega) (by unfold maxLen; omega) (by omega) HB.out (wr.heap.size + 1) (by simp) ?_; intro g2 cap2 w2 hown hgrow hat hlt2)
          obtain ⟨hS2, hu2⟩ := SlN.grown (x := 1) HU.out HS.out _ hown hgrow
          clear hown hgrow hat hlt2
          go_roundg (4 - (1 + 1))
          case rel => exact ⟨1 + 1, by omega, by go_num, by rw [HST.out]; exact hS2, hu2⟩
          case measure => have := HK.out; omega
      · cases hx : h.g 2 with
        | none =>
          have HST : Hid (hNums h (2 + 1) = hNums h 2) := show hNums h (2 + 1) = _ by simp only [hNums, hx, List.append_nil]
          have hb : (binOp .neq 80 p2 (.pointer none)).run Tryz.prog wr = .ok (.bool false) wr := by rw [← HP2.out, hx]; rfl
          have hg : (eqGuard .neq 80 (Operand.tmp 14) (Operand.const (.pointer none)) p2 (.pointer none)).run Tryz.prog wr = .ok () wr := by rw [← HP2.out, hx]; rfl
          clear hx
          have ix := (idx4 p0 p1 p2 p3 wr).2.2.1
          go_wp2_with fail
          go_roundg (4 - (2 + 1))
          case rel => exact ⟨2 + 1, by omega, by go_num, by rw [HST.out]; exact HS.out, HU.out⟩
          case measure => have := HK.out; omega
        | some y =>
          have hb : (binOp .neq 80 p2 (.pointer none)).run Tryz.prog wr = .ok (.bool true) wr := by rw [← HP2.out, hx]; rfl
          have hg : (eqGuard .neq 80 (Operand.tmp 14) (Operand.const (.pointer none)) p2 (.pointer none)).run Tryz.prog wr = .ok () wr := by rw [← HP2.out, hx]; rfl
          have ix := (idx4 p0 p1 p2 p3 wr).2.2.1
          obtain ⟨i, hi, he⟩ := Option.map_eq_some_iff.1 infoInt
          simp only [Prod.mk.injEq] at he
          obtain ⟨he1, he2, he3⟩ := he
          have HE1 : Hid _ := he1
          have HE2 : Hid _ := he2
          have HE3 : Hid _ := he3
          have HI : Hid _ := hi
          clear he1 he2 he3 hi
          have hkl := hNums_len h 2
          have HN : Hid (∀ j u, ([.int .i64 (2 : Int)] : List Value)[j]? = some u → (wr.alloc (.cells #[.int .i64 (2 : Int)] 3)).cell? ((⟨wr.heap.size, 0, none⟩ : Addr).add j) = some u) := by
            show ∀ j u, _
            intro j u hj
            rw [Addr.add_mid, Nat.zero_add, World.cell?_alloc_new, ← hj]
            simp
          have HO : Hid _ := World.ownsRow.alloc HS.out (.cells #[.int .i64 (2 : Int)] 3)
          have HB : Hid (w.heap.size ≤ (wr.alloc (.cells #[.int .i64 (2 : Int)] 3)).heap.size) := show _ ≤ _ by have := HU.out.size; simp only [World.size_alloc]; omega
          have H1 : Hid (∀ u ∈ ([.int .i64 (2 : Int)] : List Value), u.oneCell' = true) := show ∀ u ∈ ([.int .i64 (2 : Int)] : List Value), _ from fun u hu' => by simp at hu'; subst hu'; rfl
          have HST : Hid (hNums h (2 + 1) = hNums h 2 ++ [2]) := show hNums h (2 + 1) = _ by simp only [hNums, hx]
          clear hx
          generalize hfs : hNums h 2 = fs at *
          clear hfs
          go_wp2_with (at_builtin; refine wpList_append_lies _ (by rfl) _ _ 63 (by rfl) w.heap.size 3 i (.int .i64 0) 1 8 Tryz.underlying63 HI.out HE3.out HE1.out HE2.out (by rfl) (by omega) u3 fs.length (nmC fs) (by rfl) HO.out ⟨wr.heap.size, 0, none⟩ 1 1 ([.int .i64 (2 : Int)]) (by rfl) (by rfl) HN.out H1.out (by omega) (by unfold maxLen; omega) (by omega) HB.out (wr.heap.size + 1) (by simp) ?_; intro g2 cap2 w2 hown hgrow hat hlt2)
          obtain ⟨hS2, hu2⟩ := SlN.grown (x := 2) HU.out HS.out _ hown hgrow
          clear hown hgrow hat hlt2
          go_roundg (4 - (2 + 1))
          case rel => exact ⟨2 + 1, by omega, by go_num, by rw [HST.out]; exact hS2, hu2⟩
          case measure => have := HK.out; omega
      · cases hx : h.g 3 with
        | none =>
          have HST : Hid (hNums h (3 + 1) = hNums h 3) := show hNums h (3 + 1) = _ by simp only [hNums, hx, List.append_nil]
          have hb : (binOp .neq 80 p3 (.pointer none)).run Tryz.prog wr = .ok (.bool false) wr := by rw [← HP3.out, hx]; rfl
          have hg : (eqGuard .neq 80 (Operand.tmp 14) (Operand.const (.pointer none)) p3 (.pointer none)).run Tryz.prog wr = .ok () wr := by rw [← HP3.out, hx]; rfl
          clear hx
          have ix := (idx4 p0 p1 p2 p3 wr).2.2.2
          go_wp2_with fail
          go_roundg (4 - (3 + 1))
          case rel => exact ⟨3 + 1, by omega, by go_num, by rw [HST.out]; exact HS.out, HU.out⟩
          case measure => have := HK.out; omega
        | some y =>
          have hb : (binOp .neq 80 p3 (.pointer none)).run Tryz.prog wr = .ok (.bool true) wr := by rw [← HP3.out, hx]; rfl
          have hg : (eqGuard .neq 80 (Operand.tmp 14) (Operand.const (.pointer none)) p3 (.pointer none)).run Tryz.prog wr = .ok () wr := by rw [← HP3.out, hx]; rfl
          have ix := (idx4 p0 p1 p2 p3 wr).2.2.2
          obtain ⟨i, hi, he⟩ := Option.map_eq_some_iff.1 infoInt
          simp only [Prod.mk.injEq] at he
          obtain ⟨he1, he2, he3⟩ := he
          have HE1 : Hid _ := he1
          have HE2 : Hid _ := he2
          have HE3 : Hid _ := he3
          have HI : Hid _ := hi
          clear he1 he2 he3 hi
          have hkl := hNums_len h 3
          have HN : Hid (∀ j u, ([.int .i64 (3 : Int)] : List Value)[j]? = some u → (wr.alloc (.cells #[.int .i64 (3 : Int)] 3)).cell? ((⟨wr.heap.size, 0, none⟩ : Addr).add j) = some u) := by
            show ∀ j u, _
            intro j u hj
            rw [Addr.add_mid, Nat.zero_add, World.cell?_alloc_new, ← hj]
            simp
          have HO : Hid _ := World.ownsRow.alloc HS.out (.cells #[.int .i64 (3 : Int)] 3)
          have HB : Hid (w.heap.size ≤ (wr.alloc (.cells #[.int .i64 (3 : Int)] 3)).heap.size) := show _ ≤ _ by have := HU.out.size; simp only [World.size_alloc]; omega
          have H1 : Hid (∀ u ∈ ([.int .i64 (3 : Int)] : List Value), u.oneCell' = true) := show ∀ u ∈ ([.int .i64 (3 : Int)] : List Value), _ from fun u hu' => by simp at hu'; subst hu'; rfl
          have HST : Hid (hNums h (3 + 1) = hNums h 3 ++ [3]) := show hNums h (3 + 1) = _ by simp only [hNums, hx]
          clear hx
          generalize hfs : hNums h 3 = fs at *
          clear hfs
          go_wp2_with (at_builtin; refine wpList_append_lies _ (by rfl) _ _ 63 (by rfl) w.heap.size 3 i (.int .i64 0) 1 8 Tryz.underlying63 HI.out HE3.out HE1.out HE2.out (by rfl) (by omega) u3 fs.length (nmC fs) (by rfl) HO.out ⟨wr.heap.size, 0, none⟩ 1 1 ([.int .i64 (3 : Int)]) (by rfl) (by rfl) HN.out H1.out (by omega) (by unfold maxLen; omega) (by omega) HB.out (wr.heap.size + 1) (by simp) ?_; intro g2 cap2 w2 hown hgrow hat hlt2)
          obtain ⟨hS2, hu2⟩ := SlN.grown (x := 3) HU.out HS.out _ hown hgrow
          clear hown hgrow hat hlt2
          go_roundg (4 - (3 + 1))
          case rel => exact ⟨3 + 1, by omega, by go_num, by rw [HST.out]; exact hS2, hu2⟩
          case measure => have := HK.out; omega
    · obtain rfl : k = 4 := by omega
      go_wp2_with fail
      go_ret
      exact ⟨_, rfl, HS.out, HU.out⟩
end Go.Proofs.YtadpibcgjgcjhabGreatDoor
/- What a line does to a host, and what is answered. -/
namespace Go.Proofs.YtadpibcgjgcjhabGreatDoor
open Go.Lib
set_option maxRecDepth 100000

def pageT (h : Hs) (n p : Int) : List UInt8 :=
  if 0 < (hState h n p).2 then errT (hState h n p).2 else
  if (hLeaf h n p).1.there = true then numT (hState h n p).1 ++ (if (hLeaf h n p).1.wr = true then [32, 111, 119, 110, 32] else [32, 115, 101, 97, 108, 101, 100, 32]) ++ numT (h.s.of (hLeaf h n p).1.fr).2.1
  else numT (hState h n p).1 ++ [32, 110, 111, 119, 104, 101, 114, 101]
/-- What is told, and what it leads to. -/
def ansL (h : Hs) (c : List UInt8) (a b v : Int) : List UInt8 × Hs :=
  if c = kAdd then (valT (hAdd h).1.1 (hAdd h).1.2, (hAdd h).2) else
  if c = kScanall then (numT (hScanTo h 64).1, (hScanTo h 64).2) else
  if c = kLeft then (numT h.s.left, h) else
  if c = kPromised then (numT (pln (rowS h) 64 : Nat), h) else
  if c = kGuests then (guestsT (hNums h 4), h) else
  if c = kRemove then (doneT (hRemove h a).1, (hRemove h a).2) else
  if c = kFrame then (frameT (h.s.of a), h) else
  if c = kPlug then (doneT (hPlug h a b).1, (hPlug h a b).2) else
  if c = kUnplug then (doneT (hUnplug h a b).1, (hUnplug h a b).2) else
  if c = kGive then (doneT (hGive h a b false).1, (hGive h a b false).2) else
  if c = kBack then (doneT (hGive h a b true).1, (hGive h a b true).2) else
  if c = kLoad then (valT (hLoad h a b).1.1 (hLoad h a b).1.2, (hLoad h a b).2) else
  if c = kRoot then (doneT (hRoot h a b).1, (hRoot h a b).2) else
  if c = kForget then (doneT (hForget h a b).1, (hForget h a b).2) else
  if c = kDrop then (doneT (hDrop h a b).1, (hDrop h a b).2) else
  if c = kScan then (boolT (hScan h a b).1.1 (hScan h a b).1.2, (hScan h a b).2) else
  if c = kPage then (pageT h a b, h) else
  if c = kStore then (if v < 0 ∨ 255 < v then (errT 1, h) else (doneT (hStore h a b v).1, (hStore h a b v).2)) else
  (errT 9, h)
def sayL (h : Hs) (l : List UInt8) : List UInt8 × Hs :=
  match readL l with
  | some (c, ns) => ansL h c (ns.getD 0 0) (ns.getD 1 0) (ns.getD 2 0)
  | none => (errT 9, h)
/-- Line by line. -/
def runL (h : Hs) : List (List UInt8) → List (List UInt8) × Hs
  | [] => ([], h)
  | l :: r => ((sayL h l).1 :: (runL (sayL h l).2 r).1, (runL (sayL h l).2 r).2)
theorem hello_run : (runL (hs0 8) [[97, 100, 100], [112, 108, 117, 103, 32, 48, 32, 48], [115, 116, 111, 114, 101, 32, 48, 32, 53, 32, 57], [108, 111, 97, 100, 32, 48, 32, 53], [112, 97, 103, 101, 32, 48, 32, 48], [102, 108, 121]]).1 = [[48], [111, 107], [111, 107], [57], [49, 32, 111, 119, 110, 32, 49], [101, 114, 114, 111, 114, 32, 57]] := by kernel_rfl
end Go.Proofs.YtadpibcgjgcjhabGreatDoor
