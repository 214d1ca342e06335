/- Slices of numbers. -/
import Derived.Test.YtadpibcgjgcjhabGreatDoorCaM
namespace Go.Proofs.YtadpibcgjgcjhabGreatDoor
open Go.ChangeShapes Go.WideShapes Go.ChangeAt Go.RowKit
set_option maxRecDepth 100000

def nmC (l : List Nat) : List Value := l.map fun (n : Nat) => Value.int .i64 (n : Int)
/-- A list of numbers that a slice holds. -/
def SlN (w : World) (base : Nat) (v : Value) (l : List Nat) : Prop := w.ownsRow base 3 1 v l.length (nmC l)
theorem SlN.nil (w : World) (base : Nat) : SlN w base (.slice none 0 0) [] := World.ownsRow_nil _ _ _ _
theorem SlN.form {w : World} {base : Nat} {v : Value} {l : List Nat} (h : SlN w base v l) : ∃ a cap, v = .slice a l.length cap ∧ (∀ i, i < l.length → ∃ g, a = some ⟨g, 0, none⟩ ∧ base ≤ g ∧ g < w.heap.size ∧ w.cell? ⟨g, i, none⟩ = some (.int .i64 (l.getD i 0 : Nat))) := by
  rcases h.2 with ⟨rfl, h0⟩ | ⟨g, cap, cur, rfl, hb, hg, _⟩
  · exact ⟨none, 0, by rw [h0], fun i hi => absurd hi (by omega)⟩
  · refine ⟨some ⟨g, 0, none⟩, cap, rfl, fun i hi => ⟨g, rfl, hb, ?_, ?_⟩⟩
    · rcases Nat.lt_or_ge g w.heap.size with hlt | hge
      · exact hlt
      · rw [Array.getElem?_eq_none hge] at hg; cases hg
    · have hu : (nmC l)[i]? = some (.int .i64 (l.getD i 0 : Nat)) := by
        simp [nmC, List.getElem?_map, List.getElem?_eq_getElem hi, List.getD_eq_getElem?_getD]
      have := World.ownsRow.cells h (g := g) rfl _ _ hu
      rw [Addr.add_mid, Nat.zero_add] at this
      exact this
theorem SlN.grown {w wr w2 : World} {v : Value} {l : List Nat} {x : Nat} {g cap : Nat} (hu : Upd (fun _ => False) w wr) (hS : SlN wr w.heap.size v l) (o : Obj)
    (hown : w2.ownsRow w.heap.size 3 1 (.slice (some ⟨g, 0, none⟩) (l.length + 1) cap) (l.length + 1) (nmC l ++ [.int .i64 (x : Int)])) (hgrow : (wr.alloc o).grownBy w2 v.ownBlock) :
    SlN w2 w.heap.size (.slice (some ⟨g, 0, none⟩) (l.length + 1) cap) (l ++ [x]) ∧ Upd (fun _ => False) w w2 := by
  refine ⟨?_, hgrow.os.trans hu.os, hgrow.tape.trans hu.tape, hgrow.output.trans hu.output, ?_, ?_⟩
  · unfold SlN
    rw [List.length_append]
    simpa [nmC] using hown
  · have := hgrow.size
    simp only [World.size_alloc] at this
    have := hu.size
    omega
  · intro k hk _
    have hz := hu.size
    rw [hgrow.block k (by simp only [World.size_alloc]; omega) (by
      intro e
      have := World.ownsRow.lt hS k e.symm
      omega), Below.heap_alloc _ _ _ (by omega)]
    exact hu.block k hk (fun f => f)
theorem infoInt : (Tryz.prog.info? 3).map (fun i => (i.size, i.bytes, i.zero)) = some (1, 8, some (.int .i64 0)) := by kernel_rfl
end Go.Proofs.YtadpibcgjgcjhabGreatDoor
