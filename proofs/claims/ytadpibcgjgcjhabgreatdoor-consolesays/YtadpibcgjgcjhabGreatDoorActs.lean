/- How a list of acts that came in lies in memory: what each statement over acts is told of its argument. -/
import Derived.Test.YtadpibcgjgcjhabGreatDoorTopA
import Derived.Deep.Slices
import Derived.ShutString
import Derived.ChangeOld
import Derived.Below
namespace Go.Proofs.YtadpibcgjgcjhabGreatDoor
open Go.ChangeShapes Go.WideShapes Go.ChangeAt Go.RowKit Go.Deep
set_option maxRecDepth 100000

end Go.Proofs.YtadpibcgjgcjhabGreatDoor
