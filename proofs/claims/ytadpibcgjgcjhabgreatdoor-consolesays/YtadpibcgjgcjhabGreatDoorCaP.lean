/- The document's answer for chapter 3: an entry behind Point; two lists of entries held against each other. -/
import Derived.Test.YtadpibcgjgcjhabGreatDoorCaN
namespace Go.Proofs.YtadpibcgjgcjhabGreatDoor
open Go.ChangeShapes Go.WideShapes Go.ChangeAt Go.RowKit
set_option maxRecDepth 100000
attribute [local go_sem ↓] Go.wp_at_zero Go.wp_at_succ

/-- An entry behind Point. -/
def pnt (d : Int) (l : Lf) (e : En) : En := if e.dest == d then { e with lf := l } else e
def pntTo (d : Int) (l : Lf) (es : List En) : Nat → List En
  | 0 => []
  | k + 1 => pntTo d l es k ++ [pnt d l (atE es k)]
def pntN (d : Int) (es : List En) : Nat → Nat
  | 0 => 0
  | k + 1 => pntN d es k + if (atE es k).dest == d then 1 else 0
theorem pntTo_length (d : Int) (l : Lf) (es : List En) : ∀ k, (pntTo d l es k).length = k
  | 0 => rfl
  | k + 1 => by simp [pntTo, pntTo_length d l es k]
theorem pntN_le (d : Int) (es : List En) : ∀ k, pntN d es k ≤ k
  | 0 => Nat.le_refl _
  | k + 1 => by
    have := pntN_le d es k
    unfold pntN
    split <;> omega
end Go.Proofs.YtadpibcgjgcjhabGreatDoor
