/- A function in which loops over iterators have run out: their marks, and how it is left. -/
import Derived.Test.YtehdddmpjimfhaaMapM
import Derived.RangeFuncNested
import Derived.RangeFuncBound
import Derived.RangeFuncCalls
import Derived.RangeFuncLeaves
namespace Go.Proofs.Ytehdddmpjimfhaa
open Go.ChangeShapes Go.WideShapes Go.ChangeAt Go.RowKit

/-- The blocks that loops over iterators have laid, all taken up. -/
def Marks (base : Nat) (w : World) (ds : List Nat) : Prop := ds.Nodup ∧ ∀ D ∈ ds, base ≤ D ∧ D < w.heap.size ∧ w.heap[D]? = some (.deferred (some []))
def marks (ds : List Nat) : List Deferred := ds.map fun D => { target := .collected D, args := #[] }
theorem Marks.nil (base : Nat) (w : World) : Marks base w [] := ⟨List.nodup_nil, fun _ h => by simp at h⟩
theorem Marks.upd {S : Nat → Prop} {base : Nat} {w w' : World} {ds : List Nat} (h : Marks base w ds) (u : Upd S w w') (hS : ∀ D ∈ ds, ¬ S D) : Marks base w' ds :=
  ⟨h.1, fun D hD => by obtain ⟨a, b, c⟩ := h.2 D hD; exact ⟨a, Nat.lt_of_lt_of_le b u.size, by rw [u.block D b (hS D hD)]; exact c⟩⟩
theorem Marks.cons {base : Nat} {w : World} {ds : List Nat} {D : Nat} (h : Marks base w ds) (hb : base ≤ D) (hD : w.heap[D]? = some (.deferred (some []))) (hn : D ∉ ds) : Marks base w (D :: ds) :=
  ⟨List.nodup_cons.2 ⟨hn, h.1⟩, fun E hE => by
    rcases List.mem_cons.1 hE with rfl | hE
    · exact ⟨hb, by rcases Nat.lt_or_ge E w.heap.size with g | g; (· exact g); (· rw [Array.getElem?_eq_none g] at hD; cases hD), hD⟩
    · exact h.2 E hE⟩
/-- What the marks' taking leaves: all other blocks as they lay. -/
structure Took (ds : List Nat) (w w' : World) : Prop where
  os : w'.os = w.os
  tape : w'.tape = w.tape
  output : w'.output = w.output
  size : w'.heap.size = w.heap.size
  block : ∀ k, k ∉ ds → w'.heap[k]? = w.heap[k]?
theorem Took.upd {base : Nat} {ds : List Nat} {w w' : World} (h : Took ds w w') (hb : ∀ D ∈ ds, base ≤ D) : Upd (fun k => base ≤ k ∧ k ∈ ds) w w' :=
  ⟨h.os, h.tape, h.output, Nat.le_of_eq h.size.symm, fun k _ hn => h.block k (fun hk => hn ⟨hb k hk, hk⟩)⟩
theorem leaves_marks {F : Fence} {n : Nat} {P : Program} {fn : Func} {tmps : Array Value} {R : Ending → World → Prop} {base : Nat} : ∀ (ds : List Nat) (w : World), Marks base w ds →
    (∀ w', Took ds w w' → LeavesIn F n P fn tmps R [] .returning w') → LeavesInM F n P fn tmps R (marks ds) .returning w
  | [], w, _, h => h w ⟨rfl, rfl, rfl, rfl, fun _ _ => rfl⟩
  | D :: ds, w, hm, h => by
    have hD := hm.2 D (by simp)
    have hnd := List.nodup_cons.1 hm.1
    refine ⟨by simp, .inl ⟨D, w.putObj D (.deferred none), rfl, run_takeDeferred hD.2.2, ?_⟩⟩
    refine leaves_marks (base := base) ds (w.putObj D (.deferred none)) ⟨hnd.2, fun E hE => ?_⟩ (fun w' ht => h w' ?_)
    · have hE' := hm.2 E (by simp [hE])
      refine ⟨hE'.1, by simpa [World.putObj] using hE'.2.1, ?_⟩
      rw [World.putObj_heap_other (fun e => hnd.1 (by rw [← e]; exact hE))]
      exact hE'.2.2
    · refine ⟨ht.os, ht.tape, ht.output, by rw [ht.size]; simp [World.putObj], fun k hk => ?_⟩
      rw [ht.block k (fun g => hk (by simp [g])), World.putObj_heap_other (fun e => hk (by simp [e]))]
end Go.Proofs.Ytehdddmpjimfhaa
