/- Copy of package frames, with slices.Clone beneath it. -/
import Derived.Test.YtadpibcgjgcjhabGreatDoorSame
import Derived.Deep.AppendLies
namespace Go.Proofs.YtadpibcgjgcjhabGreatDoor
open Go.ChangeShapes Go.WideShapes Go.ChangeAt Go.RowKit
set_option maxRecDepth 100000

/-- Cell number i of the frames' block. -/
def poolCell (s : Pl) (i : Nat) : Value := if i % 17 = 0 then .int .i64 (s.refs (i / 17)) else .int .u8 (s.byt (i / 17) (i % 17 - 1))
def poolCells (s : Pl) : List Value := (List.range (s.n * 17)).map (poolCell s)
end Go.Proofs.YtadpibcgjgcjhabGreatDoor
