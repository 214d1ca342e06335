/- The tops' did: an act on a host. -/
import Derived.Test.YtadpibcgjgcjhabGreatDoorHpK
import Derived.Test.YtadpibcgjgcjhabGreatDoorActs
namespace Go.Proofs.YtadpibcgjgcjhabGreatDoor
open Go.ChangeShapes Go.WideShapes Go.ChangeAt Go.RowKit
set_option maxRecDepth 100000
attribute [local go_sem ↓] Go.wp_at_zero Go.wp_at_succ
variable {w w' : World} {bh bp bf : Nat} {G G' : Nat → G3} {h h' : Hs} {W : Int} {t : Nat → Nat → Int} {F : Nat → Option Fl}

/-- An act on a host, plainly: a number, an error. -/
def hDid (h : Hs) (x : Ac) : (Int × Int) × Hs :=
  if (x.kind.toList == [97, 100, 100]) = true then hAdd h else
  if (x.kind.toList == [114, 101, 109, 111, 118, 101]) = true then ((0, (hRemove h x.n).1), (hRemove h x.n).2) else
  if (x.kind.toList == [112, 108, 117, 103]) = true then ((0, (hPlug h x.n x.a).1), (hPlug h x.n x.a).2) else
  if (x.kind.toList == [117, 110, 112, 108, 117, 103]) = true then ((0, (hUnplug h x.n x.a).1), (hUnplug h x.n x.a).2) else
  if (x.kind.toList == [103, 105, 118, 101]) = true then ((0, (hGive h x.n x.a false).1), (hGive h x.n x.a false).2) else
  if (x.kind.toList == [98, 97, 99, 107]) = true then ((0, (hGive h x.n x.a true).1), (hGive h x.n x.a true).2) else
  if (x.kind.toList == [108, 111, 97, 100]) = true then hLoad h x.n x.a else
  if (x.kind.toList == [115, 116, 111, 114, 101]) = true then ((0, (hStore h x.n x.a x.v).1), (hStore h x.n x.a x.v).2) else
  if (x.kind.toList == [114, 111, 111, 116]) = true then ((0, (hRoot h x.n x.a).1), (hRoot h x.n x.a).2) else
  if (x.kind.toList == [102, 111, 114, 103, 101, 116]) = true then ((0, (hForget h x.n x.a).1), (hForget h x.n x.a).2) else
  if (x.kind.toList == [100, 114, 111, 112]) = true then ((0, (hDrop h x.n x.a).1), (hDrop h x.n x.a).2) else
  if (x.kind.toList == [115, 99, 97, 110]) = true then ((0, (hScan h x.n x.a).1.2), (hScan h x.n x.a).2) else
  if (x.kind.toList == [115, 99, 97, 110, 97, 108, 108]) = true then ((0, 0), (hScanTo h 64).2) else
  ((0, 0), h)
theorem give_false (h : Hs) (n p : Int) : hGive h n p false = hAct h n fun s x => gGive s x p false := by
  unfold hGive hAct
  simp only [Bool.false_and, Bool.false_eq_true, false_and, if_false]
theorem load_le {s : Pl} {x : Gs} (a : Int) : 0 ≤ (gLoad s x a).1.2 := by
  have := at_code s x a false
  unfold gLoad
  split <;> simp only <;> omega
theorem act_le {n : Int} {r : Pl → Gs → Int × Pl × Gs} (hr : ∀ s x, 0 ≤ (r s x).1) : 0 ≤ (hAct h n r).1 := by
  have := hWho_le (h := h) n
  unfold hAct
  split
  · exact this
  · exact hr _ _
theorem hLoad_val (hf : HF h t F W) (n a : Int) : 0 ≤ (hLoad h n a).1.1 ∧ (hLoad h n a).1.1 ≤ 255 := by
  unfold hLoad
  split
  · simp
  · next h0 =>
    obtain ⟨k, x, rfl, _, hx, hat⟩ := hWho_zero (show hWho h n = 0 by have := hWho_le (h := h) n; omega)
    obtain ⟨f, hq, _⟩ := hf.view hx
    have hb := (hf.load hx hq a).2.hr.inv.byt
    have hb : BytOk (gLoad h.s x a).2.1 := hb
    rw [hat]
    unfold gLoad at hb ⊢
    split
    · simp
    · next e =>
      rw [if_neg e] at hb
      exact hb _ _
theorem hDid_cases {P : (Int × Int) × Hs → Prop} (x : Ac) (h0 : (x.kind.toList == [97, 100, 100]) = true → P (hAdd h)) (h1 : (x.kind.toList == [114, 101, 109, 111, 118, 101]) = true → P (((0, (hRemove h x.n).1), (hRemove h x.n).2))) (h2 : (x.kind.toList == [112, 108, 117, 103]) = true → P (((0, (hPlug h x.n x.a).1), (hPlug h x.n x.a).2))) (h3 : (x.kind.toList == [117, 110, 112, 108, 117, 103]) = true → P (((0, (hUnplug h x.n x.a).1), (hUnplug h x.n x.a).2))) (h4 : (x.kind.toList == [103, 105, 118, 101]) = true → P (((0, (hGive h x.n x.a false).1), (hGive h x.n x.a false).2))) (h5 : (x.kind.toList == [98, 97, 99, 107]) = true → P (((0, (hGive h x.n x.a true).1), (hGive h x.n x.a true).2))) (h6 : (x.kind.toList == [108, 111, 97, 100]) = true → P (hLoad h x.n x.a)) (h7 : (x.kind.toList == [115, 116, 111, 114, 101]) = true → P (((0, (hStore h x.n x.a x.v).1), (hStore h x.n x.a x.v).2))) (h8 : (x.kind.toList == [114, 111, 111, 116]) = true → P (((0, (hRoot h x.n x.a).1), (hRoot h x.n x.a).2))) (h9 : (x.kind.toList == [102, 111, 114, 103, 101, 116]) = true → P (((0, (hForget h x.n x.a).1), (hForget h x.n x.a).2))) (h10 : (x.kind.toList == [100, 114, 111, 112]) = true → P (((0, (hDrop h x.n x.a).1), (hDrop h x.n x.a).2))) (h11 : (x.kind.toList == [115, 99, 97, 110]) = true → P (((0, (hScan h x.n x.a).1.2), (hScan h x.n x.a).2))) (h12 : (x.kind.toList == [115, 99, 97, 110, 97, 108, 108]) = true → P (((0, 0), (hScanTo h 64).2))) (he : P ((0, 0), h)) : P (hDid h x) := by
  unfold hDid
  by_cases k0 : (x.kind.toList == [97, 100, 100]) = true
  · rw [if_pos k0]; exact h0 k0
  · rw [if_neg k0]
    by_cases k1 : (x.kind.toList == [114, 101, 109, 111, 118, 101]) = true
    · rw [if_pos k1]; exact h1 k1
    · rw [if_neg k1]
      by_cases k2 : (x.kind.toList == [112, 108, 117, 103]) = true
      · rw [if_pos k2]; exact h2 k2
      · rw [if_neg k2]
        by_cases k3 : (x.kind.toList == [117, 110, 112, 108, 117, 103]) = true
        · rw [if_pos k3]; exact h3 k3
        · rw [if_neg k3]
          by_cases k4 : (x.kind.toList == [103, 105, 118, 101]) = true
          · rw [if_pos k4]; exact h4 k4
          · rw [if_neg k4]
            by_cases k5 : (x.kind.toList == [98, 97, 99, 107]) = true
            · rw [if_pos k5]; exact h5 k5
            · rw [if_neg k5]
              by_cases k6 : (x.kind.toList == [108, 111, 97, 100]) = true
              · rw [if_pos k6]; exact h6 k6
              · rw [if_neg k6]
                by_cases k7 : (x.kind.toList == [115, 116, 111, 114, 101]) = true
                · rw [if_pos k7]; exact h7 k7
                · rw [if_neg k7]
                  by_cases k8 : (x.kind.toList == [114, 111, 111, 116]) = true
                  · rw [if_pos k8]; exact h8 k8
                  · rw [if_neg k8]
                    by_cases k9 : (x.kind.toList == [102, 111, 114, 103, 101, 116]) = true
                    · rw [if_pos k9]; exact h9 k9
                    · rw [if_neg k9]
                      by_cases k10 : (x.kind.toList == [100, 114, 111, 112]) = true
                      · rw [if_pos k10]; exact h10 k10
                      · rw [if_neg k10]
                        by_cases k11 : (x.kind.toList == [115, 99, 97, 110]) = true
                        · rw [if_pos k11]; exact h11 k11
                        · rw [if_neg k11]
                          by_cases k12 : (x.kind.toList == [115, 99, 97, 110, 97, 108, 108]) = true
                          · rw [if_pos k12]; exact h12 k12
                          · rw [if_neg k12]
                            exact he
theorem hDid_code (hf : HF h t F W) (x : Ac) (hW : 0 ≤ W) : 0 ≤ (hDid h x).1.2 := by
  have hw := hWho_le (h := h) x.n
  refine hDid_cases (P := fun r => 0 ≤ r.1.2) x (fun _ => ?_) (fun _ => ?_) (fun _ => ?_) (fun _ => ?_) (fun _ => ?_) (fun _ => ?_) (fun _ => ?_) (fun _ => ?_) (fun _ => ?_) (fun _ => ?_) (fun _ => ?_) (fun _ => ?_) (fun _ => ?_) ?_
  · exact (hf.hadd hW).2.2
  · exact (hf.rem x.n).choose_spec.2.2
  · exact (hf.plug x.n x.a).choose_spec.2.2.1
  · exact (hf.unplug x.n x.a).choose_spec.2.2.1
  · exact (hf.give x.n x.a false).choose_spec.2.2.1
  · exact (hf.give x.n x.a true).choose_spec.2.2.1
  · unfold hLoad
    split
    · exact hw
    · exact load_le _
  · refine act_le (fun s x => ?_)
    have := at_code s x
    unfold gStore
    split
    · exact this _ _
    · unfold Pl.set
      repeat' split
      all_goals simp
  · refine act_le (fun s x => ?_)
    unfold onS gRoot
    simp only
    split <;> simp
  · refine act_le (fun s x => ?_)
    unfold onS gForget
    simp only
    split <;> simp
  · refine act_le (fun s x => ?_)
    unfold onS gForgetAll
    simp only
    split <;> simp
  · by_cases h0 : 0 < hWho h x.n
    · rw [hScan_wrong _ h0]; exact hw
    · obtain ⟨k, y, e, hk, hx, _⟩ := hWho_zero (show hWho h x.n = 0 by omega)
      rw [e]
      cases hp : onB x.a with
      | false => rw [hScan_off hx hk hp]; simp
      | true =>
        obtain ⟨p0, p1⟩ := (onB_iff x.a).1 hp
        obtain ⟨q, e2⟩ := Int.eq_ofNat_of_zero_le p0
        rw [e2, (hf.scan hx (show q < 16 by omega)).2.1]
        exact Int.le_refl _
  · exact Int.le_refl _
  · exact Int.le_refl _
/-- How an act ends. -/
def DPost (w : World) (bh bp bf : Nat) (G : Nat → G3) (h : Hs) (r : (Int × Int) × Hs) (w' : World) : Prop :=
  (∃ G', HM w' bh bp bf G' r.2 ∧ ∀ k, Own bh bp bf G' r.2 k → Own bh bp bf G h k ∨ w.heap.size ≤ k) ∧ Upd (Own bh bp bf G h) w w'
theorem own_act {n : Int} {r : Pl → Gs → Int × Pl × Gs} {k : Nat} (hk : Own bh bp bf G (hAct h n r).2 k) : Own bh bp bf G h k := by
  unfold hAct at hk
  split at hk
  · exact hk
  · next h0 =>
    obtain ⟨j, x, rfl, _, hx, hat⟩ := hWho_zero (show hWho h n = 0 by have := hWho_le (h := h) n; omega)
    rw [Int.toNat_natCast] at hk
    exact own_put hx hk
theorem own_load {n a : Int} {k : Nat} (hk : Own bh bp bf G (hLoad h n a).2 k) : Own bh bp bf G h k := by
  unfold hLoad at hk
  split at hk
  · exact hk
  · next h0 =>
    obtain ⟨j, x, rfl, _, hx, hat⟩ := hWho_zero (show hWho h n = 0 by have := hWho_le (h := h) n; omega)
    rw [Int.toNat_natCast] at hk
    exact own_put hx hk
theorem own_remove {n : Int} {k : Nat} (hk : Own bh bp bf G (hRemove h n).2 k) : Own bh bp bf G h k := by
  unfold hRemove at hk
  split at hk
  · exact hk
  · rcases hk with e | e | e | ⟨i, y, hy, e⟩
    · exact Or.inl e
    · exact Or.inr (Or.inl e)
    · exact Or.inr (Or.inr (Or.inl e))
    · have hy : setAt h.g n.toNat none i = some y := hy
      by_cases ei : i = n.toNat
      · rw [ei, setAt_same] at hy; cases hy
      · rw [setAt_other _ _ _ _ ei] at hy
        exact Or.inr (Or.inr (Or.inr ⟨i, y, hy, e⟩))
theorem own_plug {n c : Int} {k : Nat} (hk : Own bh bp bf G (hPlug h n c).2 k) : Own bh bp bf G h k := by
  unfold hPlug at hk
  repeat' split at hk
  all_goals first | exact hk | skip
  next h0 _ _ _ =>
    obtain ⟨j, x, rfl, _, hx, hat⟩ := hWho_zero (show hWho h n = 0 by have := hWho_le (h := h) n; omega)
    rw [Int.toNat_natCast] at hk
    exact own_put hx hk
theorem own_unplug {n c : Int} {k : Nat} (hk : Own bh bp bf G (hUnplug h n c).2 k) : Own bh bp bf G h k := by
  unfold hUnplug at hk
  repeat' split at hk
  all_goals first | exact hk | skip
  next h0 _ =>
    obtain ⟨j, x, rfl, _, hx, hat⟩ := hWho_zero (show hWho h n = 0 by have := hWho_le (h := h) n; omega)
    rw [Int.toNat_natCast] at hk
    exact own_put hx hk
theorem own_give {n p : Int} {bk : Bool} {k : Nat} (hk : Own bh bp bf G (hGive h n p bk).2 k) : Own bh bp bf G h k := by
  unfold hGive at hk
  repeat' split at hk
  all_goals first | exact hk | skip
  next h0 _ =>
    obtain ⟨j, x, rfl, _, hx, hat⟩ := hWho_zero (show hWho h n = 0 by have := hWho_le (h := h) n; omega)
    rw [Int.toNat_natCast] at hk
    exact own_put hx hk
theorem own_scan (hf : HF h t F W) {n p : Int} {k : Nat} (hk : Own bh bp bf G (hScan h n p).2 k) : Own bh bp bf G h k := by
  by_cases h0 : 0 < hWho h n
  · rw [hScan_wrong _ h0] at hk; exact hk
  · obtain ⟨j, y, rfl, hj, hx, _⟩ := hWho_zero (show hWho h n = 0 by have := hWho_le (h := h) n; omega)
    cases hp : onB p with
    | false => rw [hScan_off hx hj hp] at hk; exact hk
    | true =>
      obtain ⟨p0, p1⟩ := (onB_iff p).1 hp
      obtain ⟨q, rfl⟩ := Int.eq_ofNat_of_zero_le p0
      exact own_of (hf.scan hx (show q < 16 by omega)).2.2.2.2.2.2.2.1 hk
end Go.Proofs.YtadpibcgjgcjhabGreatDoor
