/- Package cache: a cache in memory; the predicates; live. -/
import Derived.Test.YtadpibcgjgcjhabGreatDoorCaP
import Derived.Shelf.Abstract
namespace Go.Proofs.YtadpibcgjgcjhabGreatDoor
open Go.ChangeShapes Go.WideShapes Go.ChangeAt Go.RowKit
set_option maxRecDepth 100000
attribute [local go_sem ↓] Go.wp_at_zero Go.wp_at_succ

/-- A cache in memory: four places, and how many of them have an entry. -/
structure CaAt (w : World) (b : Nat) (cur : Nat → En) (n : Nat) : Prop where
  cells : ∀ i j, i < 4 → j < 7 → w.cell? ⟨b, i * 7 + j, none⟩ = (enCells (cur i))[j]?
  cnt : w.cell? ⟨b, 28, none⟩ = some (.int .i64 n)
  fz : ∀ o, w.frozen? ⟨b, o, none⟩ = false
  le : n ≤ 4
theorem CaAt.lt {w : World} {b : Nat} {cur : Nat → En} {n : Nat} (h : CaAt w b cur n) : b < w.heap.size := World.block_lt_of_cell? w _ h.cnt
theorem enCells_some (e : En) (j : Nat) (hj : j < 7) : ∃ v, (enCells e)[j]? = some v := ⟨_, List.getElem?_eq_getElem (show j < (enCells e).length from hj)⟩
theorem CaAt.upd {S : Nat → Prop} {w w' : World} {b : Nat} {cur : Nat → En} {n : Nat} (h : CaAt w b cur n) (u : Upd S w w') (hb : ¬ S b) : CaAt w' b cur n where
  cells := fun i j hi hj => by
    obtain ⟨v, hv⟩ := enCells_some (cur i) j hj
    rw [hv]
    exact u.cell ((h.cells i j hi hj).trans hv) hb
  cnt := u.cell h.cnt hb
  fz := fun o => by rw [World.frozen?_of_block (w := w) (u.block b h.lt hb)]; exact h.fz o
  le := h.le
theorem CaAt.setCnt {w : World} {b : Nat} {cur : Nat → En} {n : Nat} (h : CaAt w b cur n) (m : Nat) (hm : m ≤ 4) : CaAt (w.setCell ⟨b, 28, none⟩ (.int .i64 m)) b cur m where
  cells := fun i j hi hj => by rw [World.cell?_setCell_other _ _ _ _ (addr_ne (Or.inr (by omega)))]; exact h.cells i j hi hj
  cnt := World.cell?_setCell_same _ _ _ h.cnt
  fz := fun o => by rw [World.frozen?_setCell]; exact h.fz o
  le := hm
theorem CaAt.there {w : World} {b : Nat} {cur : Nat → En} {n : Nat} (h : CaAt w b cur n) (o : Nat) (ho : o < 28) : (w.cell? ⟨b, o, none⟩).isSome = true ∧ w.frozen? ⟨b, o, none⟩ = false := by
  refine ⟨?_, h.fz o⟩
  have := h.cells (o / 7) (o % 7) (by omega) (by omega)
  obtain ⟨v, hv⟩ := enCells_some (cur (o / 7)) (o % 7) (by omega)
  rw [hv, show o / 7 * 7 + o % 7 = o by omega] at this
  rw [this]; rfl
theorem CaAt.setRow {w : World} {b : Nat} {cur : Nat → En} {n : Nat} (h : CaAt w b cur n) {i : Nat} (hi : i < 4) (x : En) : CaAt (w.setCells b (i * 7) (enCells x)) b (setAt cur i x) n where
  cells := fun k j hk hj => by
    by_cases e : k = i
    · subst e
      obtain ⟨v, hv⟩ := enCells_some x j hj
      have := World.rangeAt_setCells_same w b (k * 7) (enCells x) (fun o ho => h.there _ (by have : (enCells x).length = 7 := rfl; omega)) j v hv
      rw [this, setAt_same, hv]
    · rw [World.cell?_setCells_out _ _ _ _ _ (fun _ _ => by have : (enCells x).length = 7 := rfl; simp only [this]; omega), h.cells k j hk hj, setAt_other _ _ _ _ e]
  cnt := by rw [World.cell?_setCells_out _ _ _ _ _ (fun _ _ => by have : (enCells x).length = 7 := rfl; simp only [this]; omega)]; exact h.cnt
  fz := fun o => by rw [World.frozen?_setCells]; exact h.fz o
  le := h.le
theorem CaAt.set7 {w : World} {b : Nat} {cur : Nat → En} {n : Nat} (h : CaAt w b cur n) {i : Nat} (hi : i < 4) (x : En) :
    CaAt (((((((w.setCell ⟨b, i * 7, none⟩ (.int .i64 x.root)).setCell ⟨b, i * 7 + 1, none⟩ (.int .i64 x.page)).setCell ⟨b, i * 7 + 2, none⟩ (.int .i64 x.dest)).setCell ⟨b, i * 7 + 3, none⟩ (.bool x.may)).setCell ⟨b, i * 7 + 4, none⟩ (.bool x.lf.there)).setCell ⟨b, i * 7 + 5, none⟩ (.bool x.lf.wr)).setCell ⟨b, i * 7 + 6, none⟩ (.int .i64 x.lf.fr)) b (setAt cur i x) n := h.setRow hi x
theorem Upd.set7 (w : World) (b i : Nat) (x : En) :
    Upd (fun k => k = b) w (((((((w.setCell ⟨b, i * 7, none⟩ (.int .i64 x.root)).setCell ⟨b, i * 7 + 1, none⟩ (.int .i64 x.page)).setCell ⟨b, i * 7 + 2, none⟩ (.int .i64 x.dest)).setCell ⟨b, i * 7 + 3, none⟩ (.bool x.may)).setCell ⟨b, i * 7 + 4, none⟩ (.bool x.lf.there)).setCell ⟨b, i * 7 + 5, none⟩ (.bool x.lf.wr)).setCell ⟨b, i * 7 + 6, none⟩ (.int .i64 x.lf.fr)) := Upd.row w b (i * 7) (enCells x)
/-- What is asked of a predicate that is handed to the library. -/
def PredOn (b : Nat) (w : World) (g : Nat) (lb : Array Value) (p : En → Bool) : Prop :=
  ∀ (W : World) (x : En), Upd (fun k => k = b) w W → Calls Tryz.prog g (#[.agg #[.int .i64 x.root, .int .i64 x.page, .int .i64 x.dest, .bool x.may, .bool x.lf.there, .bool x.lf.wr, .int .i64 x.lf.fr]] ++ lb) W fun e w' => e = .returned (.bool (p x)) ∧ Upd (fun _ => False) W w'
theorem PredOn.trans {b : Nat} {w w' : World} {g : Nat} {lb : Array Value} {p : En → Bool} (h : PredOn b w g lb p) (u : Upd (fun k => k = b) w w') : PredOn b w' g lb p :=
  fun W x hu => h W x (u.trans hu (fun _ _ e => e))

theorem kOf_any (w : World) (r p : Int) :
    Calls Tryz.prog 182 #[.int .i64 r, .int .i64 p] w fun e w' => e = .returned (.func (.func 197) #[] #[.pointer (some ⟨w.heap.size, 0, none⟩), .pointer (some ⟨w.heap.size + 1, 0, none⟩)]) ∧ w' = (w.alloc (.cells #[.int .i64 r] 3)).alloc (.cells #[.int .i64 p] 3) := by
  go_enter Tryz.func182, Tryz.ntmps182
  go_wp2_with fail
  go_ret
  exact ⟨rfl, rfl⟩
theorem kOf1_any (W : World) (B C : Nat) (r p : Int) (x : En) (h1 : W.cell? ⟨B, 0, none⟩ = some (.int .i64 r)) (h2 : W.cell? ⟨C, 0, none⟩ = some (.int .i64 p)) :
    Calls Tryz.prog 197 #[.agg #[.int .i64 x.root, .int .i64 x.page, .int .i64 x.dest, .bool x.may, .bool x.lf.there, .bool x.lf.wr, .int .i64 x.lf.fr], .pointer (some ⟨B, 0, none⟩), .pointer (some ⟨C, 0, none⟩)] W
      fun e w' => e = .returned (.bool (isAt r p x)) ∧ Upd (fun _ => False) W w' := by
  have u := (Upd.refl (fun _ => False) W).alloc (.cells #[.int .i64 x.root, .int .i64 x.page, .int .i64 x.dest, .bool x.may, .bool x.lf.there, .bool x.lf.wr, .int .i64 x.lf.fr] 151)
  have g1 := u.cell h1 (fun f => f)
  have g2 := u.cell h2 (fun f => f)
  have HU : Hid _ := u
  clear u h1 h2
  cases h0 : (x.root == r) with
  | false =>
    go_enter Tryz.func197, Tryz.ntmps197
    go_wp2_with fail
    go_ret
    exact ⟨by simp [isAt, h0], HU.out⟩
  | true =>
    go_enter Tryz.func197, Tryz.ntmps197
    go_wp2_with fail
    go_ret
    exact ⟨by simp [isAt, h0], HU.out⟩
theorem kForget1_any (W : World) (B : Nat) (r : Int) (x : En) (h1 : W.cell? ⟨B, 0, none⟩ = some (.int .i64 r)) :
    Calls Tryz.prog 183 #[.agg #[.int .i64 x.root, .int .i64 x.page, .int .i64 x.dest, .bool x.may, .bool x.lf.there, .bool x.lf.wr, .int .i64 x.lf.fr], .pointer (some ⟨B, 0, none⟩)] W
      fun e w' => e = .returned (.bool (x.root == r)) ∧ Upd (fun _ => False) W w' := by
  have u := (Upd.refl (fun _ => False) W).alloc (.cells #[.int .i64 x.root, .int .i64 x.page, .int .i64 x.dest, .bool x.may, .bool x.lf.there, .bool x.lf.wr, .int .i64 x.lf.fr] 151)
  have g1 := u.cell h1 (fun f => f)
  have HU : Hid _ := u
  clear u h1
  go_enter Tryz.func183, Tryz.ntmps183
  go_wp2_with fail
  go_ret
  exact ⟨rfl, HU.out⟩
theorem kLive_any (w : World) (b : Nat) (cur : Nat → En) (n : Nat) (h : CaAt w b cur n) :
    Calls Tryz.prog 177 #[.pointer (some ⟨b, 0, none⟩)] w fun e w' => e = .returned (.slice (some ⟨b, 0, none⟩) n 4) ∧ ∃ m, w' = w.drewN m := by
  have hc := h.cnt
  have hl := h.le
  have n0 : (0 : Int) ≤ (n : Int) := by omega
  have n4 : (n : Int) ≤ 4 := by omega
  go_enter Tryz.func177, Tryz.ntmps177
  go_wp2_with fail
  go_quiet (fail)
  go_wp2_with fail
  go_ret
  exact ⟨rfl, _, rfl⟩
end Go.Proofs.YtadpibcgjgcjhabGreatDoor
