/- Copy of package frames, with slices.Clone beneath it. -/
import Derived.Test.YtehdddmpjimfhaaSame
import Derived.Deep.AppendLies
namespace Go.Proofs.Ytehdddmpjimfhaa
open Go.ChangeShapes Go.WideShapes Go.ChangeAt Go.RowKit
set_option maxRecDepth 100000

/-- Cell number i of the frames' block. -/
def poolCell (s : Pl) (i : Nat) : Value := if i % 17 = 0 then .int .i64 (s.refs (i / 17)) else .int .u8 (s.byt (i / 17) (i % 17 - 1))
theorem PoolAt.cellAt {w : World} {bp bf : Nat} {s : Pl} (h : PoolAt w bp bf s) {i : Nat} (hi : i < s.n * 17) : w.cell? ⟨bf, i, none⟩ = some (poolCell s i) := by
  unfold poolCell
  split
  · have := h.refs (i / 17) (by omega)
    rw [show i / 17 * 17 = i by omega] at this
    exact this
  · have := h.byt (i / 17) (i % 17 - 1) (by omega) (by omega)
    rw [show i / 17 * 17 + 1 + (i % 17 - 1) = i by omega] at this
    exact this
def poolCells (s : Pl) : List Value := (List.range (s.n * 17)).map (poolCell s)
theorem poolCells_length (s : Pl) : (poolCells s).length = s.n * 17 := by simp [poolCells]
theorem poolCells_get (s : Pl) (i : Nat) (hi : i < s.n * 17) : (poolCells s)[i]? = some (poolCell s i) := by simp [poolCells, hi]
theorem poolCells_one (s : Pl) : ∀ v ∈ poolCells s, v.oneCell' = true := by
  intro v hv
  simp only [poolCells, List.mem_map] at hv
  obtain ⟨i, _, rfl⟩ := hv
  unfold poolCell
  split <;> rfl

set_option maxHeartbeats 400000 in
theorem clone_walk (w : World) (bp bf cap : Nat) (s : Pl) (h : PoolAt w bp bf s) (hn : 0 < s.n) :
    Calls Try.prog 62 #[.slice (some ⟨bf, 0, none⟩) s.n cap] w fun e w' => ∃ g cap', e = .returned (.slice (some ⟨g, 0, none⟩) s.n cap') ∧ w'.ownsRow w.heap.size 112 17 (.slice (some ⟨g, 0, none⟩) s.n cap') s.n (poolCells s) ∧ Upd (fun _ => False) w w' := by
  have hl := h.le
  have hq : (binOp .eql 106 (.slice (some ⟨bf, 0, none⟩) s.n cap) (.slice none 0 0)).run Try.prog w = .ok (.bool false) w := Lib.run_eql_slice_nil w 106 112 _ _ _ _ _ Try.underlying106
  obtain ⟨i, hi, he⟩ := Option.map_eq_some_iff.1 info68
  simp only [Prod.mk.injEq] at he
  obtain ⟨he1, he2, he3⟩ := he
  have hb : bf < w.heap.size := World.block_lt_of_cell? w _ (h.refs 0 hn)
  have hown : (w.alloc (.cells #[] 112)).ownsRow w.heap.size 112 17 (.slice (some ⟨w.heap.size, 0, none⟩) 0 0) 0 [] :=
    ⟨rfl, Or.inr ⟨w.heap.size, 0, #[], rfl, Nat.le_refl _, by show (w.heap.push _)[w.heap.size]? = _; simp, Nat.le_refl _, by unfold maxLen; omega, rfl, rfl⟩⟩
  have hnews : ∀ j u, (poolCells s)[j]? = some u → (w.alloc (.cells #[] 112)).cell? ((⟨bf, 0, none⟩ : Addr).add j) = some u := by
    intro j u hu
    have hj : j < s.n * 17 := by have := (List.getElem?_eq_some_iff.1 hu).1; rw [poolCells_length] at this; exact this
    rw [poolCells_get s j hj] at hu
    rw [Addr.add_mid, Nat.zero_add, World.cell?_alloc_lt _ _ _ hb, h.cellAt hj]
    exact hu
  have HE1 : Hid _ := he1
  have HE2 : Hid _ := he2
  have HE3 : Hid _ := he3
  have HI : Hid _ := hi
  have HN : Hid _ := hnews
  have HO : Hid _ := hown
  clear he1 he2 he3 hi hnews hown
  go_enter Try.func62, Try.ntmps62
  go_wp2_with (at_builtin; refine wpList_append_lies _ (by rfl) _ _ 106 (by rfl) w.heap.size 112 i (.agg zeroFrame) 17 24 Try.underlying106 HI.out HE3.out HE1.out HE2.out (by rfl) (by omega) (.slice (some ⟨w.heap.size, 0, none⟩) 0 0) 0 [] (by rfl) HO.out ⟨bf, 0, none⟩ s.n cap (poolCells s) (by rfl) (poolCells_length s) HN.out (poolCells_one s) hn (by unfold maxLen; omega) (by omega) (by simp) (w.heap.size + 1) (by simp) ?_; intro g cap' w1 hown1 hgrow hat hlt)
  rw [Nat.zero_add] at *
  go_ret
  refine ⟨g, cap', rfl, hown1, hgrow.os, hgrow.tape, hgrow.output, ?_, ?_⟩
  · have := hgrow.size
    simp only [World.size_alloc] at this
    omega
  · intro k hk _
    rw [hgrow.block k (by simp only [World.size_alloc]; omega) (by simp [Value.ownBlock]; omega)]
    exact Below.heap_alloc _ _ _ hk

theorem owned_pool {w : World} {base g cap bp : Nat} {s : Pl} (hg : w.ownsRow base 112 17 (.slice (some ⟨g, 0, none⟩) s.n cap) s.n (poolCells s))
    (hd : ∃ cap : Nat, w.cell? ⟨bp, 0, none⟩ = some (.slice (some ⟨g, 0, none⟩) s.n cap)) (ne : bp ≠ g) (le : s.n ≤ 64) (nn : ∀ f, f < s.n → 0 ≤ s.refs f) : PoolAt w bp g s := by
  rcases hg.2 with ⟨h0, _⟩ | ⟨g', cap', cur, hv, _, hb, _, _, _, ht⟩
  · cases h0
  · simp only [Value.slice.injEq, Option.some.injEq, Addr.mk.injEq, and_true, true_and] at hv
    obtain ⟨rfl, rfl⟩ := hv
    have hc : ∀ i, i < s.n * 17 → w.cell? ⟨g, i, none⟩ = some (poolCell s i) := by
      intro i hi
      rw [cell_of_row w g i cur 112 (0, 0) hb]
      have := poolCells_get s i hi
      rw [← ht, List.getElem?_take_of_lt hi] at this
      simpa using this
    refine ⟨hd, ?_, ?_, ?_, ne, le, nn⟩
    · intro f hf
      rw [hc _ (by omega)]
      unfold poolCell
      rw [if_pos (by omega), show f * 17 / 17 = f by omega]
    · intro f i hf hi
      rw [hc _ (by omega)]
      unfold poolCell
      rw [if_neg (by omega), show (f * 17 + 1 + i) / 17 = f by omega, show (f * 17 + 1 + i) % 17 - 1 = i by omega]
    · intro o
      simp [World.frozen?, hb]

theorem ownsRow_more {w : World} {base e size n : Nat} {v : Value} {xs : List Value} (h : w.ownsRow base e size v n xs) (o : Obj) : (w.alloc o).ownsRow base e size v n xs := by
  refine ⟨h.1, ?_⟩
  rcases h.2 with h0 | ⟨g, cap, cur, hv, hg, hb, r⟩
  · exact Or.inl h0
  · have hlt : g < w.heap.size := by
      rcases Nat.lt_or_ge g w.heap.size with hlt | hge
      · exact hlt
      · rw [Array.getElem?_eq_none hge] at hb; cases hb
    exact Or.inr ⟨g, cap, cur, hv, hg, by rw [Below.heap_alloc _ _ _ hlt]; exact hb, r⟩

theorem copy_any (w : World) (bp bf : Nat) (s : Pl) (h : PoolAt w bp bf s) (hn : 0 < s.n) :
    Calls Try.prog 26 #[.pointer (some ⟨bp, 0, none⟩)] w fun e w' => ∃ cp cf, e = .returned (.pointer (some ⟨cp, 0, none⟩)) ∧ PoolAt w' cp cf s ∧ w.heap.size ≤ cp ∧ w.heap.size ≤ cf ∧ cp < w'.heap.size ∧ cf < w'.heap.size ∧ Upd (fun _ => False) w w' := by
  obtain ⟨cap, h1⟩ := h.hd
  go_enter Try.func26, Try.ntmps26
  go_wp2_with fail
  refine (clone_walk _ bp bf cap s h hn).mono ?_
  rintro e w1 ⟨g, cap', rfl, hown, hu⟩
  go_wp2_with fail
  go_ret
  obtain ⟨g', cap2, hv, hge, hlt⟩ := hown.form hn
  simp only [Value.slice.injEq, Option.some.injEq, Addr.mk.injEq, and_true, true_and] at hv
  obtain ⟨rfl, rfl⟩ := hv
  refine ⟨w1.heap.size, g, rfl, owned_pool (ownsRow_more hown _) ⟨cap', ?_⟩ (by omega) h.le h.nn, hu.size, hge, by simp, by simp only [World.size_alloc]; omega, hu.alloc _⟩
  rw [World.cell?_alloc_new]
  rfl
end Go.Proofs.Ytehdddmpjimfhaa
