/- A host of the program and the document's host, in one state. -/
import Derived.Test.YtadpibcgjgcjhabGreatDoorHqA
import Derived.Test.YtadpibcgjgcjhabGreatDoorHaB
import Derived.Test.YtadpibcgjgcjhabGreatDoorAsPool
namespace Go.Proofs.YtadpibcgjgcjhabGreatDoor
open Go.ChangeShapes Go.WideShapes Go.ChangeAt Go.RowKit
set_option maxRecDepth 100000
variable {W w w1 w2 w' : World} {bh bp bf rh rm base : Nat} {G G' : Nat → G3} {bx : Nat → Nat} {v : Nat → Value} {h h' : Hs} {x : Gs} {n k : Nat} {F : Nat → Option Fl}

/-- Elsewhere something turned. -/
theorem RHo.upd {S : Nat → Prop} (r : RHo w rh rm base bx v h) (u : Upd S w w') (hS : ∀ j, RFt rh rm bx h j → ¬ S j) (hv : ∀ i x j, h.g i = some x → (v i).ownBlock = some j → ¬ S j) : RHo w' rh rm base bx v h :=
  ⟨u.cell r.c0 (hS _ (Or.inl rfl)), fun i hi => u.cell (r.cg i hi) (hS _ (Or.inl rfl)), fun o => by rw [World.frozen?_of_block (w := w) (u.block rh r.lt.1 (hS _ (Or.inl rfl)))]; exact r.fz o, r.ref.upd u (hS _ (Or.inr (Or.inl rfl))), fun i x hx => (r.gu i x hx).upd u (hS _ (Or.inr (Or.inr ⟨i, x, hx, rfl⟩))) (fun j hj => hv i x j hx hj), r.hm, r.ne, r.nx, r.nv, Nat.le_trans r.base u.size, fun j hj => Nat.lt_of_lt_of_le (r.lx j hj) u.size, r.nl⟩
theorem RHo.ftLt (r : RHo w rh rm base bx v h) {j : Nat} (hj : RFt rh rm bx h j) : j < w.heap.size := by
  have := r.lt
  rcases hj with e | e | ⟨i, x, hx, e⟩
  · omega
  · omega
  · rw [e]; exact (r.gu i x hx).mp.lt
/-- The program's blocks, told one by one behind the document's guests. -/
def tagB (bx : Nat → Nat) (bh bp bf : Nat) (G : Nat → G3) (h : Hs) (j : Nat) : Nat :=
  if j < 4 then bx j else if j = 4 then bh else if j = 5 then bp else if j = 6 then bf else
  if (h.g ((j - 7) / 3)).isSome = true then (if (j - 7) % 3 = 0 then (G ((j - 7) / 3)).g else if (j - 7) % 3 = 1 then (G ((j - 7) / 3)).l else (G ((j - 7) / 3)).c) else bh
/-- Both hosts, in one state. -/
structure HB (W w : World) (n k : Nat) (bh bp bf rh rm base : Nat) (G : Nat → G3) (h : Hs) (F : Nat → Option Fl) (bx : Nat → Nat) (v : Nat → Value) : Prop where
  s : HS W w n k bh bp bf G h F
  r : RHo w rh rm base bx v h
  dj : ∀ j, Own bh bp bf G h j → ¬ RFt rh rm bx h j
  nv : ∀ i x j, h.g i = some x → (v i).ownBlock = some j → ¬ Own bh bp bf G h j
  new : ∀ j, RFt rh rm bx h j → W.heap.size ≤ j
  up : Upd (fun _ => False) W w
/-- The program has acted, the document not yet. -/
structure HX (W w w1 : World) (n k : Nat) (bh bp bf rh rm base : Nat) (h h1 : Hs) (F1 : Nat → Option Fl) (bx : Nat → Nat) (v : Nat → Value) : Prop where
  ex : ∃ G1, HS W w1 n (k + 1) bh bp bf G1 h1 F1 ∧ (∀ j, Own bh bp bf G1 h1 j → ¬ RFt rh rm bx h j) ∧ (∀ j, Own bh bp bf G1 h1 j → ∃ i, 4 ≤ i ∧ bx i = j)
  r : RHo w1 rh rm base bx v h
  new : ∀ j, RFt rh rm bx h j → W.heap.size ≤ j
  up : Upd (fun _ => False) W w1
/-- What holds of both. -/
def HBs (W w : World) (n k : Nat) (bh bp bf rh rm base : Nat) : Prop := ∃ G h F bx v, HB W w n k bh bp bf rh rm base G h F bx v
end Go.Proofs.YtadpibcgjgcjhabGreatDoor
