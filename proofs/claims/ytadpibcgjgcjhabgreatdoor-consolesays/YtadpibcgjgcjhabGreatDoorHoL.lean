/- All pages are scanned, plainly (E4); what is left. -/
import Derived.Test.YtadpibcgjgcjhabGreatDoorHoK
namespace Go.Proofs.YtadpibcgjgcjhabGreatDoor
open Go.RowKit
variable {h : Hs} {t t' : Nat → Nat → Int} {F : Nat → Option Fl} {W W' : Int} {n : Nat} {x y : Gs} {f f' : Fl} {s' : Pl}

/-- The first pages are scanned: how many joined. -/
def hScanTo (h : Hs) : Nat → Int × Hs
  | 0 => (0, h)
  | K + 1 => ((hScanTo h K).1 + (if (hScan (hScanTo h K).2 ((K / 16 : Nat) : Int) ((K % 16 : Nat) : Int)).1.1 = true then 1 else 0), (hScan (hScanTo h K).2 ((K / 16 : Nat) : Int) ((K % 16 : Nat) : Int)).2)
theorem scan_none {K : Nat} (hK : K < 64) (hx : h.g (K / 16) = none) : hScan h ((K / 16 : Nat) : Int) ((K % 16 : Nat) : Int) = ((false, 2), h) := by
  have hw : hWho h ((K / 16 : Nat) : Int) = 2 := by
    unfold hWho
    rw [if_neg (by omega), Int.toNat_natCast, hx]
  unfold hScan
  rw [hw, if_pos (by omega)]
theorem HF.scans (hf : HF h t F W) : ∀ K, K ≤ 64 → HF (hScanTo h K).2 t F W ∧ Mg (hScanTo h K).2 t K ∧ (hScanTo h K).2.s.n = h.s.n ∧ (∀ i, (hScanTo h K).2.g i = none ↔ h.g i = none) ∧ rowS (hScanTo h K).2 = rowS h ∧ 0 ≤ (hScanTo h K).1 ∧ (hScanTo h K).1 ≤ K ∧ ∀ k, (rowL (hScanTo h K).2 k).there = (rowL h k).there
  | 0, _ => ⟨hf, fun i _ hi => absurd hi (by omega), rfl, fun _ => Iff.rfl, rfl, Int.le_refl _, by show (0 : Int) ≤ 0; omega, fun _ => rfl⟩
  | K + 1, hK => by
    obtain ⟨h1, h2, h3, h4, h5, h6, h7, h8⟩ := hf.scans K (by omega)
    have hc : (hScanTo h (K + 1)).2 = (hScan (hScanTo h K).2 ((K / 16 : Nat) : Int) ((K % 16 : Nat) : Int)).2 := rfl
    have hcnt : (hScanTo h (K + 1)).1 = (hScanTo h K).1 + (if (hScan (hScanTo h K).2 ((K / 16 : Nat) : Int) ((K % 16 : Nat) : Int)).1.1 = true then 1 else 0) := rfl
    have hb : 0 ≤ (hScanTo h (K + 1)).1 ∧ (hScanTo h (K + 1)).1 ≤ ((K + 1 : Nat) : Int) := by
      rw [hcnt]
      split <;> omega
    cases hx : (hScanTo h K).2.g (K / 16) with
    | none =>
      rw [scan_none (by omega) hx] at hc
      rw [hc]
      refine ⟨h1, fun i j hi hj ti tj hbb => ?_, h3, h4, h5, hb.1, hb.2, h8⟩
      have no : (rowL (hScanTo h K).2 K).there = false := by unfold rowL; rw [hx]; rfl
      have ei : i ≠ K := fun e => by rw [e, no] at ti; simp at ti
      have ej : j ≠ K := fun e => by rw [e, no] at tj; simp at tj
      exact h2 i j (by omega) (by omega) ti tj hbb
    | some x =>
      obtain ⟨a1, _, a2, a3, a4, _, a5, a6, a7⟩ := h1.scan hx (p := K % 16) (by omega)
      have eK : 16 * (K / 16) + K % 16 = K := by omega
      rw [eK] at a2 a3 a4
      rw [hc]
      refine ⟨a1, a4 h2, a5.trans h3, fun i => (a6 i).trans (h4 i), a7.trans h5, hb.1, hb.2, fun k => ?_⟩
      by_cases e : k = K
      · rw [e, a3]; exact h8 K
      · rw [(a2 k e).1]; exact h8 k
end Go.Proofs.YtadpibcgjgcjhabGreatDoor
