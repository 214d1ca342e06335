/- The document's answer for chapter 4: Cached. -/
import Derived.Test.YtadpibcgjgcjhabGreatDoorGuE
namespace Go.Proofs.YtadpibcgjgcjhabGreatDoor
open Go.ChangeShapes Go.WideShapes Go.ChangeAt Go.RowKit
set_option maxRecDepth 100000
attribute [local go_sem ↓] Go.wp_at_zero Go.wp_at_succ

def showTo (m : Mp) (es : List En) (k : Nat) : List En := (es.take k).map (gShow m)
end Go.Proofs.YtadpibcgjgcjhabGreatDoor
