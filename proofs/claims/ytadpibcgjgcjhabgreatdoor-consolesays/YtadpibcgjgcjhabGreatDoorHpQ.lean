/- Package host: Copy. -/
import Derived.Test.YtadpibcgjgcjhabGreatDoorHpM
namespace Go.Proofs.YtadpibcgjgcjhabGreatDoor
open Go.ChangeShapes Go.WideShapes Go.ChangeAt Go.RowKit
set_option maxRecDepth 100000
attribute [local go_sem ↓] Go.wp_at_zero Go.wp_at_succ
variable {w w' : World} {bh bp bf : Nat} {G G' : Nat → G3} {h h' : Hs} {x : Gs} {s' : Pl} {x' : Gs} {b : Mp} {W : Int}

/-- A host's first guests alone. -/
def hTo (h : Hs) (k : Nat) : Hs := ⟨h.s, fun i => if i < k then h.g i else none⟩
/-- The copy, up to a guest. -/
structure Cpd (w wr : World) (bo cp cf : Nat) (h : Hs) : Prop where
  ex : ∃ C, HM wr bo cp cf C h ∧ ∀ k, Own bo cp cf C h k → w.heap.size ≤ k
  up : Upd (fun _ => False) w wr
end Go.Proofs.YtadpibcgjgcjhabGreatDoor
