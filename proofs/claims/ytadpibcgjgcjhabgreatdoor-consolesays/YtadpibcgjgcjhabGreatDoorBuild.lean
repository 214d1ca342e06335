/- The model's pool as it is made: a literal of 1,089 cells, by a law. -/
import Derived.Test.YtadpibcgjgcjhabGreatDoorAsPool
namespace Go.Proofs.YtadpibcgjgcjhabGreatDoor
open Go.ChangeShapes Go.WideShapes Go.ChangeAt Go.RowKit
set_option maxRecDepth 100000

def refTail (a b : Nat) : List Value := List.replicate a (.int .u8 0) ++ List.replicate b (.int .i64 0)
theorem refTail_byt (a b i : Nat) (h : i < a) : (refTail a b)[i]? = some (.int .u8 0) := by
  unfold refTail
  rw [List.getElem?_append_left (by rw [List.length_replicate]; exact h), List.getElem?_replicate, if_pos h]
theorem refTail_refs (a b i : Nat) (h : i < b) : (refTail a b)[a + i]? = some (.int .i64 0) := by
  unfold refTail
  rw [List.getElem?_append_right (by rw [List.length_replicate]; omega), List.length_replicate, List.getElem?_replicate, if_pos (by omega)]
def refZero (n : Int) : Array Value := (.int .i64 n :: refTail 1024 64).toArray
theorem refZero_num (n : Int) : (refZero n)[0]? = some (.int .i64 n) := by
  unfold refZero
  simp
theorem refZero_byt (n : Int) (i : Nat) (h : i < 1024) : (refZero n)[1 + i]? = some (.int .u8 0) := by
  unfold refZero
  rw [Nat.add_comm, List.getElem?_toArray, List.getElem?_cons_succ]
  exact refTail_byt 1024 64 i h
theorem refZero_refs (n : Int) (i : Nat) (h : i < 64) : (refZero n)[1025 + i]? = some (.int .i64 0) := by
  unfold refZero
  rw [show 1025 + i = (1024 + i) + 1 by omega, List.getElem?_toArray, List.getElem?_cons_succ]
  exact refTail_refs 1024 64 i h
theorem RefAt.new (w : World) (n : Nat) (hn : n ≤ 64) : RefAt (w.alloc (.cells (refZero n) 48)) w.heap.size (pl0 n) where
  num := by rw [World.cell?_alloc_new, refZero_num]; rfl
  byt := fun f i hf hi => by
    have hf : f < n := hf
    rw [World.cell?_alloc_new, show 1 + f * 16 + i = 1 + (f * 16 + i) by omega, refZero_byt _ _ (by omega)]; rfl
  refs := fun f hf => by
    have hf : f < n := hf
    rw [World.cell?_alloc_new, refZero_refs _ _ (by omega)]; rfl
  fz := fun o => World.frozen?_alloc_new _ _ _ _
  le := hn
  nn := fun f _ => Int.le_refl _
end Go.Proofs.YtadpibcgjgcjhabGreatDoor
