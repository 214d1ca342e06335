/- Slices of texts. -/
import Derived.Test.YtadpibcgjgcjhabGreatDoorCnF
import Derived.Test.YtadpibcgjgcjhabGreatDoorCaM
namespace Go.Proofs.YtadpibcgjgcjhabGreatDoor
open Go.ChangeShapes Go.WideShapes Go.ChangeAt Go.RowKit
set_option maxRecDepth 100000

def txC (l : List ByteArray) : List Value := l.map fun (n : ByteArray) => Value.string n
theorem txC_length (l : List ByteArray) : (txC l).length = l.length := by simp [txC]
/-- A list of texts that a slice holds. -/
def SlS (w : World) (base : Nat) (v : Value) (l : List ByteArray) : Prop := w.ownsRow base 9 1 v l.length (txC l)
theorem SlS.nil (w : World) (base : Nat) : SlS w base (.slice none 0 0) [] := World.ownsRow_nil _ _ _ _
theorem SlS.form {w : World} {base : Nat} {v : Value} {l : List ByteArray} (h : SlS w base v l) : ∃ a cap, v = .slice a l.length cap ∧ (∀ i, i < l.length → ∃ g, a = some ⟨g, 0, none⟩ ∧ base ≤ g ∧ g < w.heap.size ∧ w.cell? ⟨g, i, none⟩ = some (.string (l.getD i ByteArray.empty))) := by
  rcases h.2 with ⟨rfl, h0⟩ | ⟨g, cap, cur, rfl, hb, hg, _⟩
  · exact ⟨none, 0, by rw [h0], fun i hi => absurd hi (by omega)⟩
  · refine ⟨some ⟨g, 0, none⟩, cap, rfl, fun i hi => ⟨g, rfl, hb, ?_, ?_⟩⟩
    · rcases Nat.lt_or_ge g w.heap.size with hlt | hge
      · exact hlt
      · rw [Array.getElem?_eq_none hge] at hg; cases hg
    · have hu : (txC l)[i]? = some (.string (l.getD i ByteArray.empty)) := by
        simp [txC, List.getElem?_map, List.getElem?_eq_getElem hi, List.getD_eq_getElem?_getD]
      have := World.ownsRow.cells h (g := g) rfl _ _ hu
      rw [Addr.add_mid, Nat.zero_add] at this
      exact this
theorem SlS.upd {S : Nat → Prop} {w w' : World} {base : Nat} {v : Value} {l : List ByteArray} (h : SlS w base v l) (u : Upd S w w') (hS : ∀ k, v.ownBlock = some k → ¬ S k) : SlS w' base v l := by
  refine ⟨h.1, ?_⟩
  rcases h.2 with h0 | ⟨g, cap, cur, rfl, hb, hg, r⟩
  · exact Or.inl h0
  · refine Or.inr ⟨g, cap, cur, rfl, hb, ?_, r⟩
    have hlt : g < w.heap.size := by
      rcases Nat.lt_or_ge g w.heap.size with hlt | hge
      · exact hlt
      · rw [Array.getElem?_eq_none hge] at hg; cases hg
    rw [u.block g hlt (hS g (by simp [Value.ownBlock]))]
    exact hg
theorem SlS.grown {w wr w2 : World} {v : Value} {l : List ByteArray} {x : ByteArray} {g cap : Nat} (hu : Upd (fun _ => False) w wr) (hS : SlS wr w.heap.size v l) (o : Obj)
    (hown : w2.ownsRow w.heap.size 9 1 (.slice (some ⟨g, 0, none⟩) (l.length + 1) cap) (l.length + 1) (txC l ++ [.string x])) (hgrow : (wr.alloc o).grownBy w2 v.ownBlock) :
    SlS w2 w.heap.size (.slice (some ⟨g, 0, none⟩) (l.length + 1) cap) (l ++ [x]) ∧ Upd (fun _ => False) w w2 := by
  refine ⟨?_, hgrow.os.trans hu.os, hgrow.tape.trans hu.tape, hgrow.output.trans hu.output, ?_, ?_⟩
  · unfold SlS
    rw [List.length_append]
    simpa [txC] using hown
  · have := hgrow.size
    simp only [World.size_alloc] at this
    have := hu.size
    omega
  · intro k hk _
    have hz := hu.size
    rw [hgrow.block k (by simp only [World.size_alloc]; omega) (by
      intro e
      have := World.ownsRow.lt hS k e.symm
      omega), Below.heap_alloc _ _ _ (by omega)]
    exact hu.block k hk (fun f => f)
theorem infoStr : (Tryz.prog.info? 9).map (fun i => (i.size, i.bytes, i.zero)) = some (1, 16, some (.string ByteArray.empty)) := by kernel_rfl
end Go.Proofs.YtadpibcgjgcjhabGreatDoor
