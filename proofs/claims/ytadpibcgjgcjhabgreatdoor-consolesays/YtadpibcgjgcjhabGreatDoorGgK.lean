/- Package guest: Cached. -/
import Derived.Test.YtadpibcgjgcjhabGreatDoorGgJ
import Derived.Test.YtadpibcgjgcjhabGreatDoorCrA
namespace Go.Proofs.YtadpibcgjgcjhabGreatDoor
open Go.ChangeShapes Go.WideShapes Go.ChangeAt Go.RowKit Go.Shelf
set_option maxRecDepth 1000000
attribute [local go_sem] Oper.semAt_some
end Go.Proofs.YtadpibcgjgcjhabGreatDoor
