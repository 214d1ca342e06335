/- TopApart: where it begins; both hosts in one state. -/
import Derived.Test.YtadpibcgjgcjhabGreatDoorHaA
namespace Go.Proofs.YtadpibcgjgcjhabGreatDoor
open Go.ChangeShapes Go.WideShapes Go.ChangeAt Go.RowKit
set_option maxRecDepth 100000
attribute [local go_sem ↓] Go.wp_at_zero Go.wp_at_succ

theorem cntTo_off {L : Nat → Lf} (f : Int) (hl : ∀ k, (L k).there = false) : ∀ K, cntTo L f K = 0
  | 0 => rfl
  | K + 1 => by
    rw [cntTo_succ, cntTo_off f hl K]
    unfold inIn
    rw [hl K]
    simp
theorem pln_off {S : Nat → Int} (hs : ∀ k, S k = 0) : ∀ K, pln S K = 0
  | 0 => rfl
  | K + 1 => by
    simp only [pln]
    rw [pln_off hs K, hs K]
    simp
/-- A new host. -/
theorem HF.start (n : Nat) : HF (hs0 n) (fun _ _ => 0) (fun _ => none) 0 := by
  have hl : ∀ k, (rowL (hs0 n) k).there = false := fun _ => rfl
  have no : ∀ k, (rowL (hs0 n) k).there = true → False := fun k ht => by rw [hl k] at ht; cases ht
  have ng : ∀ i x, (hs0 n).g i = some x → False := fun i x hx => by cases hx
  have hs : ∀ k, rowS (hs0 n) k = 0 := fun _ => rfl
  have hp := pln_off hs 64
  refine ⟨⟨⟨⟨fun f _ => (by rw [cntTo_off f hl]; rfl), fun k _ ht => (no k ht).elim⟩, fun _ _ => ⟨Int.le_refl _, (by show (0 : Int) ≤ 255; omega)⟩, fun i x hx => (ng i x hx).elim⟩, ⟨fun k _ ht => (no k ht).elim, fun _ _ _ _ _ => rfl, fun k _ ht => (no k ht).elim⟩, (by rw [hp]; exact Nat.zero_le _)⟩, fun i x hx => (ng i x hx).elim, fun _ => ⟨fun _ => rfl, fun _ => rfl⟩, fun i x f hx => (ng i x hx).elim⟩
/-- A host in memory, with what its guests see; its blocks are new. -/
structure HS (W w : World) (n k : Nat) (bh bp bf : Nat) (G : Nat → G3) (h : Hs) (F : Nat → Option Fl) : Prop where
  m : HM w bh bp bf G h
  hf : ∃ t, HF h t F (k : Int)
  n : h.s.n = n
  new : ∀ j, Own bh bp bf G h j → W.heap.size ≤ j
/-- Both hosts of TopApart. -/
structure A2 (W w : World) (n k : Nat) (g : Int) (bh bp bf ch cp cf : Nat) : Prop where
  ex : ∃ G h F G' o F', HS W w n k bh bp bf G h F ∧ HS W w n k ch cp cf G' o F' ∧ Apn g F F' ∧ ∀ j, Own bh bp bf G h j → ¬ Own ch cp cf G' o j
  up : Upd (fun _ => False) W w
end Go.Proofs.YtadpibcgjgcjhabGreatDoor
