/- A loop over a cache's entries: the law of a range over a function, for what All answers; frames by a function. -/
import Derived.Test.YtadpibcgjgcjhabGreatDoorCkH
import Derived.Test.YtadpibcgjgcjhabGreatDoorCpA
import Derived.Test.YtadpibcgjgcjhabGreatDoorActs
namespace Go.Proofs.YtadpibcgjgcjhabGreatDoor
open Go.ChangeShapes Go.WideShapes Go.ChangeAt Go.RowKit Go.Shelf
set_option maxRecDepth 100000

/-- The loop over the function that stands in that slot. -/
def rfAt (n : Nat) : Code → Option Code
  | .rangeFunc (.tmp m) ps a b => if m = n then some (.rangeFunc (.tmp m) ps a b) else none
  | .block _ c => rfAt n c
  | .seq a b => match rfAt n a with
    | some c => some c
    | none => rfAt n b
  | .cond _ a b => match rfAt n a with
    | some c => some c
    | none => rfAt n b
  | .loop c => rfAt n c
  | _ => none
/-- The block of that number. -/
def blkAt (n : Nat) : Code → Option Code
  | .block i c => if i = n then some (.block i c) else blkAt n c
  | .seq a b => match blkAt n a with
    | some c => some c
    | none => blkAt n b
  | .cond _ a b => match blkAt n a with
    | some c => some c
    | none => blkAt n b
  | .loop c => blkAt n c
  | _ => none
/-- The first loop's body. -/
def loopIn : Code → Option Code
  | .loop c => some c
  | .seq a b => match loopIn a with
    | some c => some c
    | none => loopIn b
  | .block _ c => loopIn c
  | .cond _ a b => match loopIn a with
    | some c => some c
    | none => loopIn b
  | _ => none
end Go.Proofs.YtadpibcgjgcjhabGreatDoor
