/- A function in which loops over iterators have run out: their marks, and how it is left. -/
import Derived.Test.YtadpibcgjgcjhabGreatDoorMapM
import Derived.RangeFuncNested
import Derived.RangeFuncBound
import Derived.RangeFuncCalls
import Derived.RangeFuncLeaves
namespace Go.Proofs.YtadpibcgjgcjhabGreatDoor
open Go.ChangeShapes Go.WideShapes Go.ChangeAt Go.RowKit

/-- The blocks that loops over iterators have laid, all taken up. -/
def Marks (base : Nat) (w : World) (ds : List Nat) : Prop := ds.Nodup ∧ ∀ D ∈ ds, base ≤ D ∧ D < w.heap.size ∧ w.heap[D]? = some (.deferred (some []))
def marks (ds : List Nat) : List Deferred := ds.map fun D => { target := .collected D, args := #[] }
/-- What the marks' taking leaves: all other blocks as they lay. -/
structure Took (ds : List Nat) (w w' : World) : Prop where
  os : w'.os = w.os
  tape : w'.tape = w.tape
  output : w'.output = w.output
  size : w'.heap.size = w.heap.size
  block : ∀ k, k ∉ ds → w'.heap[k]? = w.heap[k]?
end Go.Proofs.YtadpibcgjgcjhabGreatDoor
