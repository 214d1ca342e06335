/- What a host answers hangs on its pages' states and, of a guest's loads and stores, on its flat memory (E5). -/
import Derived.Test.YtadpibcgjgcjhabGreatDoorHoM
namespace Go.Proofs.YtadpibcgjgcjhabGreatDoor
open Go.RowKit
variable {h : Hs} {t : Nat → Nat → Int} {F F' : Nat → Option Fl} {W : Int} {x : Gs} {f : Fl}

def fWho (F : Nat → Option Fl) (n : Int) : Int := if n < 0 ∨ 3 < n then 1 else match F n.toNat with
  | none => 2
  | some _ => 0
def fSt (o : Option Fl) (j : Nat) : Int := match o with
  | some f => f.st j
  | none => 0
def rowF (F : Nat → Option Fl) (k : Nat) : Int := fSt (F (k / 16)) (k % 16)
theorem pln_congr {S T : Nat → Int} : ∀ K, (∀ k, k < K → S k = T k) → pln S K = pln T K
  | 0, _ => rfl
  | K + 1, h => by simp only [pln]; rw [pln_congr K (fun k hk => h k (by omega)), h K (by omega)]
theorem HF.who (hf : HF h t F W) (n : Int) : hWho h n = fWho F n := by
  unfold hWho fWho
  split
  · rfl
  · have := hf.non n.toNat
    cases hx : h.g n.toNat with
    | none => rw [this.1 hx]
    | some x =>
      cases hq : F n.toNat with
      | none => have := this.2 hq; rw [hx] at this; cases this
      | some f => rfl
theorem HF.rowF (hf : HF h t F W) (k : Nat) : rowS h k = rowF F k := by
  unfold rowS Go.Proofs.YtadpibcgjgcjhabGreatDoor.rowF gSt fSt
  have hn := hf.non (k / 16)
  cases hx : h.g (k / 16) with
  | none => rw [hn.1 hx]
  | some x =>
    cases hq : F (k / 16) with
    | none => have := hn.2 hq; rw [hx] at this; cases this
    | some f => exact ((hf.fl _ x f hx hq).st (k % 16) (by omega)).symm
theorem HF.prom (hf : HF h t F W) : pln (rowS h) 64 = pln (Go.Proofs.YtadpibcgjgcjhabGreatDoor.rowF F) 64 := pln_congr 64 (fun k _ => hf.rowF k)
/-- What Plug answers. -/
def cPlug (F : Nat → Option Fl) (N : Nat) (n b : Int) : Int :=
  if 0 < fWho F n then fWho F n else if b < 0 ∨ 3 < b then 1 else if fSt (F n.toNat) (4 * b.toNat) ≠ 0 then 4 else if N < pln (rowF F) 64 + 4 then 7 else 0
def cUnplug (F : Nat → Option Fl) (n b : Int) : Int :=
  if 0 < fWho F n then fWho F n else if b < 0 ∨ 3 < b then 1 else if fSt (F n.toNat) (4 * b.toNat) = 0 then 2 else 0
def cGive (F : Nat → Option Fl) (N : Nat) (n p : Int) (back : Bool) : Int :=
  if 0 < fWho F n then fWho F n else if onB p = true then (if back = true then (if fSt (F n.toNat) p.toNat = 2 then (if pln (rowF F) 64 = N then 7 else 0) else 8) else (if fSt (F n.toNat) p.toNat = 1 then 0 else 8)) else 1
def cAdd (F : Nat → Option Fl) : Int × Int := if (F 0).isNone then (0, 0) else if (F 1).isNone then (1, 0) else if (F 2).isNone then (2, 0) else if (F 3).isNone then (3, 0) else (0, 4)
theorem HF.st_at (hf : HF h t F W) {n : Int} (hw : ¬ 0 < hWho h n) {j : Nat} (hj : j < 16) : (hAt h n).m.st j = fSt (F n.toNat) j := by
  obtain ⟨k, x, rfl, hk, hx, hat⟩ := hWho_zero (show hWho h n = 0 by have := hWho_le (h := h) n; omega)
  obtain ⟨f, hq, hv⟩ := hf.view hx
  rw [hat, Int.toNat_natCast, hq]
  exact (hv.st j hj).symm
theorem HF.cplug (hf : HF h t F W) (n b : Int) : (hPlug h n b).1 = cPlug F h.s.n n b := by
  unfold hPlug cPlug
  rw [← hf.who, ← hf.prom]
  by_cases h0 : 0 < hWho h n
  · rw [if_pos h0, if_pos h0]
  · rw [if_neg h0, if_neg h0]
    by_cases hb : b < 0 ∨ 3 < b
    · rw [if_pos hb, if_pos hb]
    · rw [if_neg hb, if_neg hb, hf.st_at h0 (by omega)]
      repeat' split
      all_goals rfl
theorem HF.cunplug (hf : HF h t F W) (n b : Int) : (hUnplug h n b).1 = cUnplug F n b := by
  unfold hUnplug cUnplug
  rw [← hf.who]
  by_cases h0 : 0 < hWho h n
  · rw [if_pos h0, if_pos h0]
  · rw [if_neg h0, if_neg h0]
    by_cases hb : b < 0 ∨ 3 < b
    · rw [if_pos hb, if_pos hb]
    · rw [if_neg hb, if_neg hb]
      have hst := hf.st_at h0 (show 4 * b.toNat < 16 by omega)
      obtain ⟨k, x, rfl, hk, hx, hat⟩ := hWho_zero (show hWho h n = 0 by have := hWho_le (h := h) n; omega)
      rw [hat] at hst ⊢
      rw [← hst]
      have hb4 : b.toNat < 4 := by omega
      by_cases hs0 : x.m.st (4 * b.toNat) = 0
      · rw [if_pos hs0, gUnplugs_no _ _ hb4 hs0 3]
      · have hall : ∀ j, j < 4 → x.m.st (4 * b.toNat + j) ≠ 0 := fun j hj e => hs0 ((hf.blk k x hx b.toNat j hb4 hj).2 e)
        rw [if_neg hs0, gUnplugs_is _ _ hb4 hall 4 (Nat.le_refl _)]
theorem HF.cgive (hf : HF h t F W) (n p : Int) (back : Bool) : (hGive h n p back).1 = cGive F h.s.n n p back := by
  unfold hGive cGive
  rw [← hf.who, ← hf.prom]
  by_cases h0 : 0 < hWho h n
  · rw [if_pos h0, if_pos h0]
  · rw [if_neg h0, if_neg h0]
    by_cases ho : onB p = true
    · have hp := (onB_iff p).1 ho
      rw [if_pos ho, ← hf.st_at h0 (show p.toNat < 16 by omega)]
      obtain ⟨q, rfl⟩ := Int.eq_ofNat_of_zero_le hp.1
      have hq16 : q < 16 := by omega
      cases back with
      | true =>
        simp only [ho, Bool.and_self, true_and, if_true, Int.toNat_natCast]
        by_cases h2 : (hAt h n).m.st q = 2
        · by_cases h3 : pln (rowS h) 64 = h.s.n
          · rw [if_pos ⟨h2, h3⟩, if_pos h2, if_pos h3]
          · rw [if_neg (fun c => h3 c.2), if_pos h2, if_neg h3, gBack_yes _ _ hq16 h2]
        · rw [if_neg (fun c => h2 c.1), if_neg h2]
          unfold gGive gMap giveR
          simp only [ho, if_true, Int.toNat_natCast]
          rw [if_neg h2]
      | false =>
        simp only [Bool.false_and, Bool.false_eq_true, false_and, if_false, Int.toNat_natCast]
        by_cases h1 : (hAt h n).m.st q = 1
        · rw [if_pos h1, gGive_yes _ _ hq16 h1]
        · rw [if_neg h1]
          unfold gGive gMap giveR
          simp only [ho, if_true, Int.toNat_natCast, Bool.false_eq_true, if_false]
          rw [if_neg h1]
    · have ho' : onB p = false := by simpa using ho
      rw [if_neg ho, if_neg (fun c => by rw [ho'] at c; simp at c)]
      unfold gGive gMap giveR
      simp only [ho', Bool.false_eq_true, if_false]
theorem HF.cadd (hf : HF h t F W) : (hAdd h).1 = cAdd F := by
  unfold hAdd hFree cAdd
  have e : ∀ i, (h.g i = none) ↔ ((F i).isNone = true) := fun i => by rw [hf.non i, Option.isNone_iff_eq_none]
  by_cases h0 : h.g 0 = none
  · rw [if_pos h0, if_pos ((e 0).1 h0)]; rfl
  · rw [if_neg h0, if_neg (fun c => h0 ((e 0).2 c))]
    by_cases h1 : h.g 1 = none
    · rw [if_pos h1, if_pos ((e 1).1 h1)]; rfl
    · rw [if_neg h1, if_neg (fun c => h1 ((e 1).2 c))]
      by_cases h2 : h.g 2 = none
      · rw [if_pos h2, if_pos ((e 2).1 h2)]; rfl
      · rw [if_neg h2, if_neg (fun c => h2 ((e 2).2 c))]
        by_cases h3 : h.g 3 = none
        · rw [if_pos h3, if_pos ((e 3).1 h3)]; rfl
        · rw [if_neg h3, if_neg (fun c => h3 ((e 3).2 c))]
/-- Two hosts whose pages have the same states. -/
def Alk (F F' : Nat → Option Fl) : Prop := ∀ i, (F i = none ↔ F' i = none) ∧ ∀ f f', F i = some f → F' i = some f' → f.st = f'.st
end Go.Proofs.YtadpibcgjgcjhabGreatDoor
