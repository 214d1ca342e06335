/- The document's host, line by line. -/
import Derived.Test.YtadpibcgjgcjhabGreatDoorCnHb
import Derived.Test.YtadpibcgjgcjhabGreatDoorCnQ
import Derived.Test.YtadpibcgjgcjhabGreatDoorHqB
namespace Go.Proofs.YtadpibcgjgcjhabGreatDoor
open Go.ChangeShapes Go.WideShapes Go.ChangeAt Go.RowKit
set_option maxRecDepth 100000
variable {W w w0 w1 w2 w3 w' : World} {rh rm : Nat} {bx : Nat → Nat} {vs : Nat → Value} {n k : Nat}
/-- Where the document stands behind k lines. -/
structure WI (w0 w : World) (n k rh rm : Nat) (v : Value) (ls : List ByteArray) : Prop where
  ex : ∃ bx vs, RHo w rh rm w0.heap.size bx vs (runL (hs0 n) (lns (ls.take k))).2 ∧ ∀ j, RFt rh rm bx (runL (hs0 n) (lns (ls.take k))).2 j → w0.heap.size ≤ j ∧ v.ownBlock ≠ some j
  ok : HOk (runL (hs0 n) (lns (ls.take k))).2 n k
  sl : SlS w w0.heap.size v (txs (runL (hs0 n) (lns (ls.take k))).1)
  up : Upd (fun _ => False) w0 w
theorem RHo.start (w : World) (n : Nat) (hn : n ≤ 64) : RHo ((w.alloc (.cells (refZero n) 48)).alloc (.cells #[.pointer (some ⟨w.heap.size, 0, none⟩), .pointer none, .pointer none, .pointer none, .pointer none] 52)) (w.heap.size + 1) w.heap.size w.heap.size (fun _ => w.heap.size) (fun _ => undef) (hs0 n) := by
  have ub := (Upd.refl (fun _ => False) (w.alloc (.cells (refZero n) 48))).alloc (.cells #[.pointer (some ⟨w.heap.size, 0, none⟩), .pointer none, .pointer none, .pointer none, .pointer none] 52)
  have sz : (w.alloc (.cells (refZero n) 48)).heap.size = w.heap.size + 1 := by simp
  have hcell : ∀ j, ((w.alloc (.cells (refZero n) 48)).alloc (.cells #[.pointer (some ⟨w.heap.size, 0, none⟩), .pointer none, .pointer none, .pointer none, .pointer none] 52)).cell? ⟨w.heap.size + 1, j, none⟩ = (#[.pointer (some ⟨w.heap.size, 0, none⟩), .pointer none, .pointer none, .pointer none, .pointer none] : Array Value)[j]? := fun j => by
    have := World.cell?_alloc_new (w.alloc (.cells (refZero n) 48)) #[.pointer (some ⟨w.heap.size, 0, none⟩), .pointer none, .pointer none, .pointer none, .pointer none] 52 j
    rw [sz] at this
    exact this
  refine ⟨by rw [hcell]; rfl, fun i hi => ?_, fun o => by rw [← sz]; exact World.frozen?_alloc_new _ _ _ _, (RefAt.new w n hn).upd ub (fun f => f), fun i x hx => (by cases hx), by omega, fun i x hx => (by cases hx), fun i j x y hx => (by cases hx), fun i x q hx => (by cases hx), by simp; omega, fun j _ => (by simp; omega), fun i x q j hx => (by cases hx)⟩
  rw [hcell]
  have : i = 0 ∨ i = 1 ∨ i = 2 ∨ i = 3 := by omega
  rcases this with rfl | rfl | rfl | rfl <;> rfl
theorem WI.start (w : World) (n : Nat) (hn : n ≤ 64) (ls : List ByteArray) : WI w ((w.alloc (.cells (refZero n) 48)).alloc (.cells #[.pointer (some ⟨w.heap.size, 0, none⟩), .pointer none, .pointer none, .pointer none, .pointer none] 52)) n 0 (w.heap.size + 1) w.heap.size (.slice none 0 0) ls := by
  refine ⟨⟨_, _, RHo.start w n hn, fun j hj => ⟨?_, by simp [Value.ownBlock]⟩⟩, HOk.start n, SlS.nil _ _, ((Upd.refl _ _).alloc _).alloc _⟩
  rcases hj with e | e | ⟨i, x, hx, _⟩
  · omega
  · omega
  · cases hx
/-- A list of texts is no list of entries. -/
theorem apart_tx {v u : Value} {l : List ByteArray} {es : List En} {b c j : Nat} (hs : SlS w b v l) (hc : SlC w c u es) (h1 : v.ownBlock = some j) (h2 : u.ownBlock = some j) : False := by
  rcases hs.2 with ⟨rfl, _⟩ | ⟨g, cap, cur, rfl, _, hg, _⟩
  · simp [Value.ownBlock] at h1
  · rcases hc.2 with ⟨rfl, _⟩ | ⟨g', cap', cur', rfl, _, hg', _⟩
    · simp [Value.ownBlock] at h2
    · simp only [Value.ownBlock, Option.some.injEq] at h1 h2
      subst h1
      subst h2
      rw [hg] at hg'
      simp at hg'
theorem WI.next {v : Value} {ls : List ByteArray} {w6 w7 : World} {v2 : Value} {o : Obj} {x : ByteArray} (I : WI w0 w n k rh rm v ls) (hlt : k < ls.length)
    (sep : ∀ j, RFt rh rm bx (runL (hs0 n) (lns (ls.take k))).2 j → w0.heap.size ≤ j ∧ v.ownBlock ≠ some j)
    (hd : ∃ bx' v', RHo w6 rh rm w0.heap.size bx' v' (sayL (runL (hs0 n) (lns (ls.take k))).2 (ls.getD k ByteArray.empty).data.toList).2 ∧ ∀ j, RFt rh rm bx' (sayL (runL (hs0 n) (lns (ls.take k))).2 (ls.getD k ByteArray.empty).data.toList).2 j → RFt rh rm bx (runL (hs0 n) (lns (ls.take k))).2 j ∨ w.heap.size ≤ j)
    (hu : Upd (RFt rh rm bx (runL (hs0 n) (lns (ls.take k))).2) w w6)
    (hx : x = TX (sayL (runL (hs0 n) (lns (ls.take k))).2 (ls.getD k ByteArray.empty).data.toList).1)
    (hown : SlS w7 w0.heap.size v2 (txs (runL (hs0 n) (lns (ls.take k))).1 ++ [x]))
    (hgrow : (w6.alloc o).grownBy w7 v.ownBlock) (hat : v2.ownBlock = v.ownBlock ∨ v2.ownBlock = some (w6.alloc o).heap.size) : WI w0 w7 n (k + 1) rh rm v2 ls := by
  have hR : runL (hs0 n) (lns (ls.take (k + 1))) = ((runL (hs0 n) (lns (ls.take k))).1 ++ [(sayL (runL (hs0 n) (lns (ls.take k))).2 (ls.getD k ByteArray.empty).data.toList).1], (sayL (runL (hs0 n) (lns (ls.take k))).2 (ls.getD k ByteArray.empty).data.toList).2) := by
    rw [take_lns hlt, runL_snoc]
  have u7 : Upd (fun j => v.ownBlock = some j) w6 w7 := ⟨hgrow.os, hgrow.tape, hgrow.output, by have := hgrow.size; simp only [World.size_alloc] at this; omega, fun j hj hn => by
    rw [hgrow.block j (by simp only [World.size_alloc]; omega) (fun e => hn e.symm), Below.heap_alloc _ _ _ hj]⟩
  have hvl : ∀ j, v.ownBlock = some j → w0.heap.size ≤ j ∧ j < w.heap.size := fun j hj => World.ownsRow.lt I.sl j hj
  have hs6 := hu.size
  have hWs := I.up.size
  obtain ⟨bx', v', r6, hj6⟩ := hd
  have s6 : SlS w6 w0.heap.size v (txs (runL (hs0 n) (lns (ls.take k))).1) := I.sl.upd hu (fun j hj e => (sep j e).2 hj)
  have nv : ∀ j, RFt rh rm bx' (sayL (runL (hs0 n) (lns (ls.take k))).2 (ls.getD k ByteArray.empty).data.toList).2 j → ¬ v.ownBlock = some j := fun j hj e => by
    rcases hj6 j hj with h | h
    · exact (sep j h).2 e
    · have := hvl j e; omega
  refine ⟨?_, ?_, ?_, ?_⟩
  · rw [hR]
    refine ⟨bx', v', r6.upd u7 nv (fun i x j hx hv e => apart_tx s6 (r6.gu i x hx).sl e hv), fun j hj => ⟨?_, fun e => ?_⟩⟩
    · rcases hj6 j hj with h | h
      · exact (sep j h).1
      · omega
    · have hjl := r6.ftLt hj
      rcases hat with h | h
      · exact nv j hj (by rw [← h, e])
      · rw [e] at h
        simp only [Option.some.injEq, World.size_alloc] at h
        omega
  · rw [hR]
    exact I.ok.say _
  · rw [hR]
    simp only [txs, List.map_append, List.map_cons, List.map_nil] at hown ⊢
    rw [← hx]
    exact hown
  · exact (I.up.trans hu (fun i hi e => by have := (sep i e).1; omega)).trans u7 (fun i hi e => by have := (hvl i e).1; omega)
theorem SlS.grew {b : Nat} {v : Value} {l : List ByteArray} {x : ByteArray} (h : SlS w b v (l ++ [x])) : ∃ g c, v = .slice (some ⟨g, 0, none⟩) (l.length + 1) c ∧ l.length + 1 ≤ c ∧ c ≤ maxLen ∧ TxAt w (some ⟨g, 0, none⟩) l := by
  have hl : (l ++ [x]).length = l.length + 1 := by simp
  have h0 := h
  rcases h.2 with ⟨rfl, h1⟩ | ⟨g, cap, cur, rfl, hb, hg, h1, h2, _⟩
  · omega
  · rw [hl] at h1 ⊢
    obtain ⟨a, c, e, ht, _⟩ := h0.txAt
    cases e
    exact ⟨g, cap, rfl, h1, h2, ht.pre⟩
end Go.Proofs.YtadpibcgjgcjhabGreatDoor
