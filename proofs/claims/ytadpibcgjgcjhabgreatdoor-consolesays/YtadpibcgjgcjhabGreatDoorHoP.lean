/- The box of a leaf. -/
import Derived.Test.YtadpibcgjgcjhabGreatDoorMapT
namespace Go.Proofs.YtadpibcgjgcjhabGreatDoor
open Go.ChangeShapes Go.WideShapes Go.ChangeAt Go.RowKit

/-- The box of a leaf, as it is made. -/
theorem box0 (w0 : World) (t : TypeId) : (w0.alloc (.cells #[.bool false, .bool false, .int .i64 0] t)).cell? ⟨w0.heap.size, 0, none⟩ = some (.bool false) ∧ (w0.alloc (.cells #[.bool false, .bool false, .int .i64 0] t)).cell? ⟨w0.heap.size, 1, none⟩ = some (.bool false) ∧
    (w0.alloc (.cells #[.bool false, .bool false, .int .i64 0] t)).cell? ⟨w0.heap.size, 2, none⟩ = some (.int .i64 0) ∧ (w0.alloc (.cells #[.bool false, .bool false, .int .i64 0] t)).frozen? ⟨w0.heap.size, 0, none⟩ = false ∧ (w0.alloc (.cells #[.bool false, .bool false, .int .i64 0] t)).frozen? ⟨w0.heap.size, 1, none⟩ = false ∧ (w0.alloc (.cells #[.bool false, .bool false, .int .i64 0] t)).frozen? ⟨w0.heap.size, 2, none⟩ = false := by
  refine ⟨?_, ?_, ?_, World.frozen?_alloc_new _ _ _ _, World.frozen?_alloc_new _ _ _ _, World.frozen?_alloc_new _ _ _ _⟩
  all_goals rw [World.cell?_alloc_new]; rfl
end Go.Proofs.YtadpibcgjgcjhabGreatDoor
