/- A host's acts on pages and guests, plainly (E1, E2), and what its guests see of them. -/
import Derived.Test.YtadpibcgjgcjhabGreatDoorHoL
namespace Go.Proofs.YtadpibcgjgcjhabGreatDoor
open Go.RowKit
variable {h : Hs} {t t' : Nat → Nat → Int} {F : Nat → Option Fl} {W W' : Int} {x y : Gs} {f f' : Fl} {s' : Pl}

def hPlug (h : Hs) (n b : Int) : Int × Hs :=
  if 0 < hWho h n then (hWho h n, h)
  else if b < 0 ∨ 3 < b then (1, h)
  else if (hAt h n).m.st (4 * b.toNat) ≠ 0 then (4, h)
  else if h.s.n < pln (rowS h) 64 + 4 then (7, h)
  else (0, h.put n.toNat (gPlugs h.s (hAt h n) b.toNat 4))
def hUnplug (h : Hs) (n b : Int) : Int × Hs :=
  if 0 < hWho h n then (hWho h n, h)
  else if b < 0 ∨ 3 < b then (1, h)
  else ((gUnplugs h.s (hAt h n) b.toNat 4).1, h.put n.toNat (gUnplugs h.s (hAt h n) b.toNat 4).2)
def hGive (h : Hs) (n p : Int) (back : Bool) : Int × Hs :=
  if 0 < hWho h n then (hWho h n, h)
  else if (back && onB p) = true ∧ (hAt h n).m.st p.toNat = 2 ∧ pln (rowS h) 64 = h.s.n then (7, h)
  else ((gGive h.s (hAt h n) p back).1, h.put n.toNat (gGive h.s (hAt h n) p back).2)
def hRemove (h : Hs) (n : Int) : Int × Hs :=
  if 0 < hWho h n then (hWho h n, h) else (0, hOff (gClear h.s (hAt h n) 16).1 h n.toNat)
theorem HF.plug (hf : HF h t F W) (n b : Int) : ∃ t', HF (hPlug h n b).2 t' (if (hPlug h n b).1 = 0 then setAt F n.toNat ((F n.toNat).map fun f => fTurnTo f b.toNat 1 4) else F) W ∧ ((hPlug h n b).1 = 0 → hWho h n = 0 ∧ 0 ≤ b ∧ b ≤ 3) ∧ 0 ≤ (hPlug h n b).1 ∧ (hPlug h n b).1 ≠ 3 := by
  have hle := hWho_le (h := h) n
  have hw2 : hWho h n ≠ 3 := by unfold hWho; split; (· omega); (· split <;> omega)
  unfold hPlug
  split
  · next h0 => exact ⟨t, by rw [if_neg (by simp only; omega)]; exact hf, fun e => by simp only at e; omega, by simp only; omega, hw2⟩
  · next h0 =>
    obtain ⟨k, x, rfl, hk, hx, hat⟩ := hWho_zero (show hWho h n = 0 by omega)
    obtain ⟨f, hq, hv⟩ := hf.view hx
    rw [hat]
    split
    · exact ⟨t, by rw [if_neg (by simp)]; exact hf, fun e => by simp at e, by simp, by simp⟩
    · next hb =>
      split
      · exact ⟨t, by rw [if_neg (by simp)]; exact hf, fun e => by simp at e, by simp, by simp⟩
      · next hs =>
        split
        · exact ⟨t, by rw [if_neg (by simp)]; exact hf, fun e => by simp at e, by simp, by simp⟩
        · next hp =>
          have hs0 : x.m.st (4 * b.toNat) = 0 := by simpa using hs
          have hb4 : b.toNat < 4 := by omega
          have hall : ∀ j, j < 4 → x.m.st (4 * b.toNat + j) = 0 := fun j hj => (hf.blk k x hx b.toNat j hb4 hj).1 hs0
          rw [gPlugs_is _ _ hb4 hall 4 (Nat.le_refl _), Int.toNat_natCast, hq]
          refine ⟨zeroTo t (16 * k + 4 * b.toNat) 4, ?_, fun _ => ⟨by omega, by omega, by omega⟩, by simp, by simp⟩
          simp only [if_true, Option.map_some]
          exact hf.block hx hq hb4 (by omega) (by omega) (fun _ => ⟨hs0, by omega⟩)
theorem HF.unplug (hf : HF h t F W) (n b : Int) : ∃ t', HF (hUnplug h n b).2 t' (if (hUnplug h n b).1 = 0 then setAt F n.toNat ((F n.toNat).map fun f => fTurnTo f b.toNat 0 4) else F) W ∧ ((hUnplug h n b).1 = 0 → hWho h n = 0 ∧ 0 ≤ b ∧ b ≤ 3) ∧ 0 ≤ (hUnplug h n b).1 ∧ (hUnplug h n b).1 ≠ 3 := by
  have hle := hWho_le (h := h) n
  have hw2 : hWho h n ≠ 3 := by unfold hWho; split; (· omega); (· split <;> omega)
  unfold hUnplug
  split
  · next h0 => exact ⟨t, by rw [if_neg (by simp only; omega)]; exact hf, fun e => by simp only at e; omega, by simp only; omega, hw2⟩
  · next h0 =>
    obtain ⟨k, x, rfl, hk, hx, hat⟩ := hWho_zero (show hWho h n = 0 by omega)
    obtain ⟨f, hq, hv⟩ := hf.view hx
    rw [hat]
    split
    · exact ⟨t, by rw [if_neg (by simp)]; exact hf, fun e => by simp at e, by simp, by simp⟩
    · next hb =>
      have hb4 : b.toNat < 4 := by omega
      by_cases hs0 : x.m.st (4 * b.toNat) = 0
      · rw [gUnplugs_no _ _ hb4 hs0 3, Int.toNat_natCast]
        refine ⟨t, ?_, fun e => by simp at e, by simp, by simp⟩
        rw [if_neg (by simp)]
        simp only
        rw [Hs.put_self hx]
        exact hf
      · have hall : ∀ j, j < 4 → x.m.st (4 * b.toNat + j) ≠ 0 := fun j hj e => hs0 ((hf.blk k x hx b.toNat j hb4 hj).2 e)
        rw [gUnplugs_is _ _ hb4 hall 4 (Nat.le_refl _), Int.toNat_natCast, hq]
        refine ⟨zeroTo t (16 * k + 4 * b.toNat) 4, ?_, fun _ => ⟨by omega, by omega, by omega⟩, by simp, by simp⟩
        simp only [if_true, Option.map_some]
        exact hf.block hx hq hb4 (by omega) (by omega) (fun e => by omega)
theorem gGive_yes (s : Pl) (x : Gs) {k : Nat} (hk : k < 16) (h1 : x.m.st k = 1) : gGive s x (k : Int) false = (0, gTurn s x k 2) := by
  have ho : onB (k : Int) = true := (onB_iff _).2 ⟨by omega, by omega⟩
  unfold gGive gMap giveR
  simp only [ho, if_true, Int.toNat_natCast, h1, Bool.false_eq_true, if_false]
  rfl
theorem gBack_yes (s : Pl) (x : Gs) {k : Nat} (hk : k < 16) (h1 : x.m.st k = 2) : gGive s x (k : Int) true = (0, gTurn s x k 1) := by
  have ho : onB (k : Int) = true := (onB_iff _).2 ⟨by omega, by omega⟩
  unfold gGive gMap giveR
  simp only [ho, if_true, Int.toNat_natCast, h1]
  rfl
theorem gGive_no (s : Pl) (x : Gs) (p : Int) (back : Bool) (he : onB p = false ∨ x.m.st p.toNat ≠ (if back then 2 else 1)) : ∃ e, gGive s x p back = (e, s, x) ∧ (e = 1 ∨ e = 8) := by
  unfold gGive gMap giveR
  cases ho : onB p with
  | false => exact ⟨1, rfl, Or.inl rfl⟩
  | true =>
    rw [ho] at he
    rcases he with he | he
    · simp at he
    · cases back with
      | true => simp only [if_true] at he ⊢; rw [if_neg he]; exact ⟨8, rfl, Or.inr rfl⟩
      | false => simp only [Bool.false_eq_true, if_false] at he ⊢; simp only [if_true]; rw [if_neg he]; exact ⟨8, rfl, Or.inr rfl⟩
theorem HF.give (hf : HF h t F W) (n p : Int) (back : Bool) : ∃ t', HF (hGive h n p back).2 t' (if (hGive h n p back).1 = 0 then setAt F n.toNat ((F n.toNat).map fun f => fTurn f p.toNat (if back then 1 else 2)) else F) W ∧ ((hGive h n p back).1 = 0 → hWho h n = 0 ∧ 0 ≤ p ∧ p < 16) ∧ 0 ≤ (hGive h n p back).1 ∧ (hGive h n p back).1 ≠ 3 := by
  have hle := hWho_le (h := h) n
  have hw2 : hWho h n ≠ 3 := by unfold hWho; split; (· omega); (· split <;> omega)
  unfold hGive
  split
  · next h0 => exact ⟨t, by rw [if_neg (by simp only; omega)]; exact hf, fun e => by simp only at e; omega, by simp only; omega, hw2⟩
  · next h0 =>
    obtain ⟨k, x, rfl, hk, hx, hat⟩ := hWho_zero (show hWho h n = 0 by omega)
    obtain ⟨f, hq, hv⟩ := hf.view hx
    rw [hat]
    split
    · exact ⟨t, by rw [if_neg (by simp)]; exact hf, fun e => by simp at e, by simp, by simp⟩
    · next hc =>
      by_cases he : onB p = false ∨ x.m.st p.toNat ≠ (if back then 2 else 1)
      · obtain ⟨e, h1, h2⟩ := gGive_no h.s x p back he
        rw [h1, Int.toNat_natCast]
        refine ⟨t, ?_, fun e => by simp only at e; omega, by simp only; omega, by simp only; omega⟩
        rw [if_neg (by simp only; omega)]
        simp only
        rw [Hs.put_self hx]
        exact hf
      · have ho : onB p = true := by
          cases ho : onB p with
          | true => rfl
          | false => exact absurd (Or.inl ho) he
        have hst : x.m.st p.toNat = if back then 2 else 1 := by
          by_cases e : x.m.st p.toNat = if back then 2 else 1
          · exact e
          · exact absurd (Or.inr e) he
        obtain ⟨p0, p1⟩ := (onB_iff p).1 ho
        obtain ⟨q, rfl⟩ := Int.eq_ofNat_of_zero_le p0
        rw [Int.toNat_natCast] at hst
        have hq16 : q < 16 := by omega
        cases back with
        | true =>
          simp only [if_true] at hst
          rw [gBack_yes _ _ hq16 hst, Int.toNat_natCast, Int.toNat_natCast, hq]
          refine ⟨setAt t (16 * k + q) fun _ => 0, ?_, fun _ => ⟨by omega, by omega, by omega⟩, by simp, by simp⟩
          simp only [if_true, Option.map_some]
          refine hf.page hx hq hq16 (by omega) (by omega) (by omega) (fun _ => ⟨by omega, ?_⟩)
          have := hf.hr.le
          have hne : pln (rowS h) 64 ≠ h.s.n := fun e => hc ⟨by simp [ho], by rw [Int.toNat_natCast]; exact hst, e⟩
          omega
        | false =>
          simp only [Bool.false_eq_true, if_false] at hst
          rw [gGive_yes _ _ hq16 hst, Int.toNat_natCast, Int.toNat_natCast, hq]
          refine ⟨setAt t (16 * k + q) fun _ => 0, ?_, fun _ => ⟨by omega, by omega, by omega⟩, by simp, by simp⟩
          simp only [if_true, Option.map_some, Bool.false_eq_true, if_false]
          exact hf.page hx hq hq16 (by omega) (by omega) (by omega) (fun e => by omega)
theorem HF.rem (hf : HF h t F W) (n : Int) : ∃ t', HF (hRemove h n).2 t' (if (hRemove h n).1 = 0 then setAt F n.toNat none else F) W ∧ ((hRemove h n).1 = 0 → hWho h n = 0) ∧ 0 ≤ (hRemove h n).1 := by
  have hle := hWho_le (h := h) n
  unfold hRemove
  split
  · next h0 => exact ⟨t, by rw [if_neg (by simp only; omega)]; exact hf, fun e => by simp only at e; omega, by simp only; omega⟩
  · next h0 =>
    obtain ⟨k, x, rfl, hk, hx, hat⟩ := hWho_zero (show hWho h n = 0 by omega)
    rw [hat, Int.toNat_natCast]
    obtain ⟨t', h1⟩ := hf.remove hx
    exact ⟨t', by simp only [if_true]; exact h1, fun _ => by omega, by simp⟩
theorem HF.hadd (hf : HF h t F W) (hW : 0 ≤ W) : HF (hAdd h).2 t (if (hAdd h).1.2 = 0 then setAt F (hAdd h).1.1.toNat (some fl0) else F) W ∧ ((hAdd h).1.2 = 0 → 0 ≤ (hAdd h).1.1 ∧ (hAdd h).1.1 ≤ 3 ∧ F (hAdd h).1.1.toNat = none) ∧ 0 ≤ (hAdd h).1.2 := by
  unfold hAdd
  have key : ∀ i, hFree h = some i → i < 4 ∧ h.g i = none := by
    intro i
    unfold hFree
    repeat' split
    all_goals intro e
    all_goals first | (cases e; done) | (cases e; refine ⟨by omega, ?_⟩; assumption)
  cases hfr : hFree h with
  | none => exact ⟨by simp only; rw [if_neg (by omega)]; exact hf, fun e => by simp at e, by simp⟩
  | some i =>
    obtain ⟨h1, h2⟩ := key i hfr
    refine ⟨?_, fun _ => ⟨by simp, by simp only; omega, by simp only [Int.toNat_natCast]; exact (hf.non i).1 h2⟩, by simp⟩
    simp only [if_true, Int.toNat_natCast]
    exact hf.add h1 h2 hW
end Go.Proofs.YtadpibcgjgcjhabGreatDoor
