/- Package cache: All, and what it goes over. -/
import Derived.Test.YtadpibcgjgcjhabGreatDoorCkG
import Derived.Test.YtadpibcgjgcjhabGreatDoorCaR
import Derived.Shelf.RegionOpen
import Derived.OwnWalkIn
import Derived.TacticsInMore
import Derived.LoopNIn
import Derived.LoopIn
namespace Go.Proofs.YtadpibcgjgcjhabGreatDoor
open Go.ChangeShapes Go.WideShapes Go.ChangeAt Go.RowKit Go.Shelf
set_option maxRecDepth 100000
attribute [local go_sem] Oper.semAt_some

/-- What a round that goes on keeps: the copy, and where it stands. -/
def KpT (b B : Nat) (W W' : World) : Prop := W'.heap[b]? = W.heap[b]? ∧ W'.heap[B]? = W.heap[B]?
def enArgs (es : List En) (i : Nat) : Array Value := #[.int .i64 i, .agg #[.int .i64 (atE es i).root, .int .i64 (atE es i).page, .int .i64 (atE es i).dest, .bool (atE es i).may, .bool (atE es i).lf.there, .bool (atE es i).lf.wr, .int .i64 (atE es i).lf.fr]]
theorem upd_of_below {w W : World} (h : Below w.heap.size w W) : Upd (fun _ => False) w W := ⟨h.os, h.tape, h.output, h.size, fun k hk _ => h.block k hk⟩
end Go.Proofs.YtadpibcgjgcjhabGreatDoor
