/- The law's asPool: a pool has what its model has. -/
import Derived.Test.YtadpibcgjgcjhabGreatDoorAs
namespace Go.Proofs.YtadpibcgjgcjhabGreatDoor
open Go.ChangeShapes Go.WideShapes Go.ChangeAt Go.RowKit
set_option maxRecDepth 100000

/-- The box of a frame's description. -/
structure FrAt (w : World) (q : Nat) (c r : Int) : Prop where
  c0 : w.cell? ⟨q, 0, none⟩ = some (.int .i64 c)
  c1 : w.cell? ⟨q, 1, none⟩ = some (.int .i64 r)
theorem FrAt.new (w : World) (c r : Int) : FrAt (w.alloc (.cells #[.int .i64 c, .int .i64 r] 67)) w.heap.size c r := ⟨by rw [World.cell?_alloc_new]; rfl, by rw [World.cell?_alloc_new]; rfl⟩

end Go.Proofs.YtadpibcgjgcjhabGreatDoor
