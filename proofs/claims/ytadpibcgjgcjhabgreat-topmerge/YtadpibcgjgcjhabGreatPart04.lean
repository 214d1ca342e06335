/- Touch, plainly: the frame it tells is one, and bytes stay bytes. -/
import Derived.Test.YtadpibcgjgcjhabGreatPart03
import Derived.Shelf.Abstract
namespace Go.Proofs.YtadpibcgjgcjhabGreat
def BytOk (s : Pl) : Prop := ∀ f i, 0 ≤ s.byt f i ∧ s.byt f i ≤ 255
theorem take_or (s : Pl) : (∃ j : Nat, j < s.n ∧ s.take = ((j : Int), 0, { s with refs := setAt s.refs j 1, byt := setAt s.byt j fun _ => 0 })) ∨ s.take = (0, 3, s) := by
  unfold Pl.take
  cases h : firstFrom s.refs 0 s.n with
  | none => exact Or.inr rfl
  | some j =>
    refine Or.inl ⟨j, ?_, rfl⟩
    have aux : ∀ (m k : Nat), firstFrom s.refs k m = some j → k ≤ j ∧ j < k + m := by
      intro m
      induction m with
      | zero => intro k hk; simp [firstFrom] at hk
      | succ m ih =>
        intro k hk
        unfold firstFrom at hk
        split at hk
        · cases hk; omega
        · have := ih (k + 1) hk; omega
    have := aux s.n 0 h
    omega
theorem share_same (s : Pl) (f d : Int) : (s.share f d).2.n = s.n ∧ (s.share f d).2.byt = s.byt := by unfold Pl.share; split <;> exact ⟨rfl, rfl⟩
theorem touch_code (s : Pl) (m : Mp) (n : Int) (wt : Bool) : 0 ≤ (touchR s m n wt).1.2.2 := by
  unfold touchR
  repeat' split
  all_goals first | (simp; done) | skip
  rcases take_or s with ⟨j, _, e⟩ | e <;> rw [e] <;> simp
theorem touch_frame {s : Pl} {a b : Mp} (h : Inv s a b) (n : Int) (wt : Bool) (he : (touchR s a n wt).1.2.2 = 0) :
    0 ≤ (touchR s a n wt).1.1 ∧ (touchR s a n wt).1.1 < (touchR s a n wt).2.1.n ∧ onB n = true ∧ ((touchR s a n wt).2.2.lf n.toNat).there = true ∧ ((touchR s a n wt).2.2.lf n.toNat).fr = (touchR s a n wt).1.1 := by
  unfold touchR at he ⊢
  cases ho : onB n with
  | false => simp [ho] at he
  | true =>
    obtain ⟨n0, n1⟩ := (onB_iff n).1 ho
    have hk : n.toNat < 16 := by omega
    simp only [ho, if_true] at he ⊢
    by_cases h0 : a.st n.toNat = 0
    · simp [h0] at he
    · rw [if_neg h0] at he ⊢
      by_cases h2 : a.st n.toNat = 2
      · simp [h2] at he
      · rw [if_neg h2] at he ⊢
        cases ht : (a.lf n.toNat).there with
        | true =>
          have hin := h.ina n.toNat hk ht
          cases hw : (!wt || (a.lf n.toNat).wr) with
          | true => simp [ht, hin]
          | false =>
            simp only [ht, hw, Bool.and_false, Bool.false_eq_true, if_false, Bool.true_and] at he ⊢
            cases hr : (s.refs (a.lf n.toNat).fr.toNat == 1) with
            | true => simp [setAt, hin]
            | false =>
              simp only [hr, Bool.false_eq_true, if_false] at he ⊢
              rcases take_or s with ⟨j, hj, e⟩ | e
              · rw [e]
                simp only [if_true, setAt]
                exact ⟨by omega, by rw [(share_same _ _ _).1]; show (j : Int) < s.n; omega, trivial, by simp, by simp⟩
              · rw [e] at he; simp at he
        | false =>
          simp only [ht, Bool.false_and, Bool.false_eq_true, if_false] at he ⊢
          rcases take_or s with ⟨j, hj, e⟩ | e
          · rw [e]
            simp only [if_true, setAt]
            exact ⟨by omega, by show (j : Int) < s.n; omega, trivial, by simp, by simp⟩
          · rw [e] at he; simp at he
theorem BytOk.touch {s : Pl} (h : BytOk s) (m : Mp) (n : Int) (wt : Bool) : BytOk (touchR s m n wt).2.1 := by
  have ht : BytOk s.take.2.2 := by
    rcases take_or s with ⟨j, _, e⟩ | e
    · rw [e]
      intro f i
      show 0 ≤ setAt s.byt j (fun _ => 0) f i ∧ setAt s.byt j (fun _ => 0) f i ≤ 255
      by_cases ef : f = j
      · subst ef; simp [setAt]
      · rw [setAt_other _ _ _ _ ef]; exact h f i
    · rw [e]; exact h
  unfold touchR
  repeat' split
  all_goals first | exact h | exact ht | skip
  intro f i
  rw [(share_same _ _ _).2]
  show 0 ≤ setAt s.take.2.2.byt s.take.1.toNat (s.take.2.2.byt (m.lf n.toNat).fr.toNat) f i ∧ setAt s.take.2.2.byt s.take.1.toNat (s.take.2.2.byt (m.lf n.toNat).fr.toNat) f i ≤ 255
  by_cases ef : f = s.take.1.toNat
  · rw [ef, setAt_same]; exact ht _ _
  · rw [setAt_other _ _ _ _ ef]; exact ht f i
end Go.Proofs.YtadpibcgjgcjhabGreat
/- A guest, plainly: what At keeps. -/
namespace Go.Proofs.YtadpibcgjgcjhabGreat

/-- What holds of a guest and its pool (b: another map on that pool). -/
structure GInv (s : Pl) (g : Gs) (b : Mp) (W : Int) : Prop where
  inv : Inv s g.m b
  byt : BytOk s
  len : g.c.length ≤ 4
  w0 : 0 ≤ g.walks
  w1 : g.walks ≤ W
  r0 : -1 ≤ g.root
  r1 : g.root ≤ 15
  en : ∀ x ∈ g.c, 0 ≤ x.dest ∧ x.dest < 16
theorem GInv.more {s : Pl} {g : Gs} {b : Mp} {W W' : Int} (h : GInv s g b W) (hw : W ≤ W') : GInv s g b W' := { h with w1 := Int.le_trans h.w1 hw }
theorem GInv.touch {s : Pl} {g : Gs} {b : Mp} {W : Int} (h : GInv s g b W) (n : Int) (wt : Bool) : GInv (gTouch s g n wt).2.1 (gTouch s g n wt).2.2 b W :=
  ⟨h.inv.touch n wt, h.byt.touch g.m n wt, h.len, h.w0, h.w1, h.r0, h.r1, h.en⟩
theorem keepTo_mem (P : Nat → Bool) (es : List En) : ∀ k, k ≤ es.length → ∀ x ∈ keepTo P es k, x ∈ es
  | 0, _, x, hx => by simp [keepTo] at hx
  | k + 1, hk, x, hx => by
    unfold keepTo at hx
    rw [List.mem_append] at hx
    rcases hx with hx | hx
    · exact keepTo_mem P es k (by omega) x hx
    · split at hx
      · rw [List.mem_singleton] at hx
        subst hx
        simp [atE, List.getD_eq_getElem?_getD, List.getElem?_eq_getElem (show k < es.length by omega)]
      · simp at hx
theorem keepTo_drop0 (l : List En) (h : 0 < l.length) : (keepTo (fun i => (i : Int) != 0) l l.length).length < l.length := by
  have aux : ∀ k, k + 1 ≤ l.length → (keepTo (fun i => (i : Int) != 0) l (k + 1)).length ≤ k := by
    intro k
    induction k with
    | zero => intro _; simp [keepTo]
    | succ k ih =>
      intro hk
      have := ih (by omega)
      unfold keepTo
      rw [List.length_append]
      split
      · simp; omega
      · simp; omega
  have := aux (l.length - 1) (by omega)
  rw [show l.length - 1 + 1 = l.length by omega] at this
  omega
theorem putC_le (es : List En) (x : En) (h : es.length ≤ 4) : (putC es x).length ≤ 4 := by
  have h1 := keepTo_length (fun i => (i : Int) != fndI es x.root x.page) es es.length
  unfold putC
  simp only
  generalize keepTo (fun i => (i : Int) != fndI es x.root x.page) es es.length = l at *
  split
  · have := keepTo_drop0 (l ++ [x]) (by simp)
    simp at this ⊢
    omega
  · omega
theorem putC_mem (es : List En) (x : En) : ∀ y ∈ putC es x, y ∈ es ∨ y = x := by
  intro y hy
  unfold putC at hy
  simp only at hy
  have aux : ∀ z ∈ keepTo (fun i => (i : Int) != fndI es x.root x.page) es es.length ++ [x], z ∈ es ∨ z = x := by
    intro z hz
    rw [List.mem_append, List.mem_singleton] at hz
    rcases hz with hz | hz
    · exact Or.inl (keepTo_mem _ _ _ (Nat.le_refl _) z hz)
    · exact Or.inr hz
  split at hy
  · exact aux y (keepTo_mem _ _ _ (Nat.le_refl _) y hy)
  · exact aux y hy
theorem GInv.step {s : Pl} {g : Gs} {b : Mp} {W : Int} (h : GInv s g b W) (x : En) (hx : 0 ≤ x.dest ∧ x.dest < 16) (found wt : Bool) : GInv (gStep s g x found wt).2.1 (gStep s g x found wt).2.2 b W := by
  unfold gStep
  split
  · exact h
  · split
    · exact h.touch _ _
    · have ht := h.touch x.dest wt
      cases found with
      | true => exact ht
      | false =>
        simp only [Bool.false_eq_true, if_false]
        exact ⟨ht.inv, ht.byt, putC_le _ _ ht.len, ht.w0, ht.w1, ht.r0, ht.r1, fun y hy => by
          rcases putC_mem _ _ y hy with hy | rfl
          · exact ht.en y hy
          · exact hx⟩
theorem GInv.at {s : Pl} {g : Gs} {b : Mp} {W : Int} (h : GInv s g b W) (addr : Int) (wt : Bool) : GInv (gAt s g addr wt).2.1 (gAt s g addr wt).2.2 b (W + 1) := by
  have h' := h.more (show W ≤ W + 1 by omega)
  unfold gAt
  split
  · exact h'
  · split
    · exact h'.touch _ _
    · split
      · next hf =>
        rcases Nat.lt_or_ge (fndI g.c g.root (addr / 16)).toNat g.c.length with hlt | hge
        · exact h'.step _ (h'.en _ (by simp [atE, List.getD_eq_getElem?_getD, List.getElem?_eq_getElem hlt])) _ _
        · exact h'.step _ (by simp [atE, List.getD_eq_getElem?_getD, List.getElem?_eq_none hge, en0]) _ _
      · unfold gWalk
        have ht := h.touch g.root false
        split
        · exact ht.more (by omega)
        · have hw : GInv (gTouch s g g.root false).2.1 { (gTouch s g g.root false).2.2 with walks := g.walks + 1 } b (W + 1) :=
            ⟨ht.inv, ht.byt, ht.len, by have := h.w0; show 0 ≤ g.walks + 1; omega, by have := h.w1; show g.walks + 1 ≤ W + 1; omega, ht.r0, ht.r1, ht.en⟩
          split
          · exact hw
          · exact hw.step _ (by show 0 ≤ _ % 16 ∧ _ % 16 < 16; omega) _ _
theorem idx_or (es : List En) (r p : Int) : (∃ j : Nat, j < es.length ∧ fndI es r p = j) ∨ fndI es r p = -1 := by
  unfold fndI
  cases h : es.findIdx? (isAt r p) with
  | none => exact Or.inr rfl
  | some i =>
    refine Or.inl ⟨i, ?_, rfl⟩
    have := (List.findIdx?_eq_some_iff_getElem.1 h).1
    exact this
theorem gTouch_code (s : Pl) (g : Gs) (n : Int) (wt : Bool) : 0 ≤ (gTouch s g n wt).1.2 := touch_code s g.m n wt
theorem gStep_code (s : Pl) (g : Gs) (x : En) (found wt : Bool) : 0 ≤ (gStep s g x found wt).1.2 := by
  unfold gStep
  split
  · simp
  · split
    · exact gTouch_code _ _ _ _
    · simp
theorem gAt_code (s : Pl) (g : Gs) (addr : Int) (wt : Bool) : 0 ≤ (gAt s g addr wt).1.2 := by
  unfold gAt
  split
  · simp
  · split
    · exact gTouch_code _ _ _ _
    · split
      · exact gStep_code _ _ _ _ _
      · unfold gWalk
        split
        · exact gTouch_code _ _ _ _
        · split
          · simp
          · exact gStep_code _ _ _ _ _
theorem gTouch_frame {s : Pl} {g : Gs} {b : Mp} {W : Int} (h : GInv s g b W) (n : Int) (wt : Bool) (he : (gTouch s g n wt).1.2 = 0) : 0 ≤ (gTouch s g n wt).1.1 ∧ (gTouch s g n wt).1.1 < (gTouch s g n wt).2.1.n := by
  have := touch_frame h.inv n wt he
  exact ⟨this.1, this.2.1⟩
theorem gStep_frame {s : Pl} {g : Gs} {b : Mp} {W : Int} (h : GInv s g b W) (x : En) (found wt : Bool) (he : (gStep s g x found wt).1.2 = 0) : 0 ≤ (gStep s g x found wt).1.1 ∧ (gStep s g x found wt).1.1 < (gStep s g x found wt).2.1.n := by
  have hc := gTouch_code s g x.dest wt
  unfold gStep at he ⊢
  split
  · simp_all
  · next h1 =>
    rw [if_neg h1] at he
    split
    · next h2 => rw [if_pos h2] at he; simp only at he; omega
    · next h2 => exact gTouch_frame h x.dest wt (by omega)
theorem gAt_frame {s : Pl} {g : Gs} {b : Mp} {W : Int} (h : GInv s g b W) (addr : Int) (wt : Bool) (he : (gAt s g addr wt).1.2 = 0) : (0 ≤ addr ∧ addr ≤ 255) ∧ 0 ≤ (gAt s g addr wt).1.1 ∧ (gAt s g addr wt).1.1 < (gAt s g addr wt).2.1.n := by
  unfold gAt at he ⊢
  split
  · simp_all
  · next h0 =>
    rw [if_neg h0] at he
    refine ⟨by omega, ?_⟩
    split
    · next h1 => rw [if_pos h1] at he; exact gTouch_frame h _ _ he
    · next h1 =>
      rw [if_neg h1] at he
      split
      · next h2 => rw [if_pos h2] at he; exact gStep_frame h _ _ _ he
      · next h2 =>
        rw [if_neg h2] at he
        unfold gWalk at he ⊢
        have hc := gTouch_code s g g.root false
        have ht := h.touch g.root false
        split
        · next h3 => rw [if_pos h3] at he; simp only at he; omega
        · next h3 =>
          rw [if_neg h3] at he
          have hw : GInv (gTouch s g g.root false).2.1 { (gTouch s g g.root false).2.2 with walks := g.walks + 1 } b (W + 1) :=
            ⟨ht.inv, ht.byt, ht.len, by have := h.w0; show 0 ≤ g.walks + 1; omega, by have := h.w1; show g.walks + 1 ≤ W + 1; omega, ht.r0, ht.r1, ht.en⟩
          split
          · next h4 => rw [if_pos h4] at he; simp at he
          · next h4 => rw [if_neg h4] at he; exact gStep_frame hw _ _ _ he
end Go.Proofs.YtadpibcgjgcjhabGreat
/- Package cache: a cache in memory; the predicates; live. -/
namespace Go.Proofs.YtadpibcgjgcjhabGreat
open Go.ChangeShapes Go.WideShapes Go.ChangeAt Go.RowKit
set_option maxRecDepth 100000
attribute [local go_sem ↓] Go.wp_at_zero Go.wp_at_succ

/-- A cache in memory: four places, and how many of them have an entry. -/
structure CaAt (w : World) (b : Nat) (cur : Nat → En) (n : Nat) : Prop where
  cells : ∀ i j, i < 4 → j < 7 → w.cell? ⟨b, i * 7 + j, none⟩ = (enCells (cur i))[j]?
  cnt : w.cell? ⟨b, 28, none⟩ = some (.int .i64 n)
  fz : ∀ o, w.frozen? ⟨b, o, none⟩ = false
  le : n ≤ 4
theorem CaAt.lt {w : World} {b : Nat} {cur : Nat → En} {n : Nat} (h : CaAt w b cur n) : b < w.heap.size := World.block_lt_of_cell? w _ h.cnt
theorem enCells_some (e : En) (j : Nat) (hj : j < 7) : ∃ v, (enCells e)[j]? = some v := ⟨_, List.getElem?_eq_getElem (show j < (enCells e).length from hj)⟩
theorem CaAt.upd {S : Nat → Prop} {w w' : World} {b : Nat} {cur : Nat → En} {n : Nat} (h : CaAt w b cur n) (u : Upd S w w') (hb : ¬ S b) : CaAt w' b cur n where
  cells := fun i j hi hj => by
    obtain ⟨v, hv⟩ := enCells_some (cur i) j hj
    rw [hv]
    exact u.cell ((h.cells i j hi hj).trans hv) hb
  cnt := u.cell h.cnt hb
  fz := fun o => by rw [World.frozen?_of_block (w := w) (u.block b h.lt hb)]; exact h.fz o
  le := h.le
theorem CaAt.setCnt {w : World} {b : Nat} {cur : Nat → En} {n : Nat} (h : CaAt w b cur n) (m : Nat) (hm : m ≤ 4) : CaAt (w.setCell ⟨b, 28, none⟩ (.int .i64 m)) b cur m where
  cells := fun i j hi hj => by rw [World.cell?_setCell_other _ _ _ _ (addr_ne (Or.inr (by omega)))]; exact h.cells i j hi hj
  cnt := World.cell?_setCell_same _ _ _ h.cnt
  fz := fun o => by rw [World.frozen?_setCell]; exact h.fz o
  le := hm
theorem CaAt.there {w : World} {b : Nat} {cur : Nat → En} {n : Nat} (h : CaAt w b cur n) (o : Nat) (ho : o < 28) : (w.cell? ⟨b, o, none⟩).isSome = true ∧ w.frozen? ⟨b, o, none⟩ = false := by
  refine ⟨?_, h.fz o⟩
  have := h.cells (o / 7) (o % 7) (by omega) (by omega)
  obtain ⟨v, hv⟩ := enCells_some (cur (o / 7)) (o % 7) (by omega)
  rw [hv, show o / 7 * 7 + o % 7 = o by omega] at this
  rw [this]; rfl
theorem CaAt.setRow {w : World} {b : Nat} {cur : Nat → En} {n : Nat} (h : CaAt w b cur n) {i : Nat} (hi : i < 4) (x : En) : CaAt (w.setCells b (i * 7) (enCells x)) b (setAt cur i x) n where
  cells := fun k j hk hj => by
    by_cases e : k = i
    · subst e
      obtain ⟨v, hv⟩ := enCells_some x j hj
      have := World.rangeAt_setCells_same w b (k * 7) (enCells x) (fun o ho => h.there _ (by have : (enCells x).length = 7 := rfl; omega)) j v hv
      rw [this, setAt_same, hv]
    · rw [World.cell?_setCells_out _ _ _ _ _ (fun _ _ => by have : (enCells x).length = 7 := rfl; simp only [this]; omega), h.cells k j hk hj, setAt_other _ _ _ _ e]
  cnt := by rw [World.cell?_setCells_out _ _ _ _ _ (fun _ _ => by have : (enCells x).length = 7 := rfl; simp only [this]; omega)]; exact h.cnt
  fz := fun o => by rw [World.frozen?_setCells]; exact h.fz o
  le := h.le
theorem CaAt.set7 {w : World} {b : Nat} {cur : Nat → En} {n : Nat} (h : CaAt w b cur n) {i : Nat} (hi : i < 4) (x : En) :
    CaAt (((((((w.setCell ⟨b, i * 7, none⟩ (.int .i64 x.root)).setCell ⟨b, i * 7 + 1, none⟩ (.int .i64 x.page)).setCell ⟨b, i * 7 + 2, none⟩ (.int .i64 x.dest)).setCell ⟨b, i * 7 + 3, none⟩ (.bool x.may)).setCell ⟨b, i * 7 + 4, none⟩ (.bool x.lf.there)).setCell ⟨b, i * 7 + 5, none⟩ (.bool x.lf.wr)).setCell ⟨b, i * 7 + 6, none⟩ (.int .i64 x.lf.fr)) b (setAt cur i x) n := h.setRow hi x
theorem Upd.set7 (w : World) (b i : Nat) (x : En) :
    Upd (fun k => k = b) w (((((((w.setCell ⟨b, i * 7, none⟩ (.int .i64 x.root)).setCell ⟨b, i * 7 + 1, none⟩ (.int .i64 x.page)).setCell ⟨b, i * 7 + 2, none⟩ (.int .i64 x.dest)).setCell ⟨b, i * 7 + 3, none⟩ (.bool x.may)).setCell ⟨b, i * 7 + 4, none⟩ (.bool x.lf.there)).setCell ⟨b, i * 7 + 5, none⟩ (.bool x.lf.wr)).setCell ⟨b, i * 7 + 6, none⟩ (.int .i64 x.lf.fr)) := Upd.row w b (i * 7) (enCells x)
/-- What is asked of a predicate that is handed to the library. -/
def PredOn (b : Nat) (w : World) (g : Nat) (lb : Array Value) (p : En → Bool) : Prop :=
  ∀ (W : World) (x : En), Upd (fun k => k = b) w W → Calls Tryz.prog g (#[.agg #[.int .i64 x.root, .int .i64 x.page, .int .i64 x.dest, .bool x.may, .bool x.lf.there, .bool x.lf.wr, .int .i64 x.lf.fr]] ++ lb) W fun e w' => e = .returned (.bool (p x)) ∧ Upd (fun _ => False) W w'
theorem PredOn.trans {b : Nat} {w w' : World} {g : Nat} {lb : Array Value} {p : En → Bool} (h : PredOn b w g lb p) (u : Upd (fun k => k = b) w w') : PredOn b w' g lb p :=
  fun W x hu => h W x (u.trans hu (fun _ _ e => e))

theorem kOf_any (w : World) (r p : Int) :
    Calls Tryz.prog 84 #[.int .i64 r, .int .i64 p] w fun e w' => e = .returned (.func (.func 97) #[] #[.pointer (some ⟨w.heap.size, 0, none⟩), .pointer (some ⟨w.heap.size + 1, 0, none⟩)]) ∧ w' = (w.alloc (.cells #[.int .i64 r] 3)).alloc (.cells #[.int .i64 p] 3) := by
  go_enter Tryz.func84, Tryz.ntmps84
  go_wp2_with fail
  go_ret
  exact ⟨rfl, rfl⟩
theorem kOf1_any (W : World) (B C : Nat) (r p : Int) (x : En) (h1 : W.cell? ⟨B, 0, none⟩ = some (.int .i64 r)) (h2 : W.cell? ⟨C, 0, none⟩ = some (.int .i64 p)) :
    Calls Tryz.prog 97 #[.agg #[.int .i64 x.root, .int .i64 x.page, .int .i64 x.dest, .bool x.may, .bool x.lf.there, .bool x.lf.wr, .int .i64 x.lf.fr], .pointer (some ⟨B, 0, none⟩), .pointer (some ⟨C, 0, none⟩)] W
      fun e w' => e = .returned (.bool (isAt r p x)) ∧ Upd (fun _ => False) W w' := by
  have u := (Upd.refl (fun _ => False) W).alloc (.cells #[.int .i64 x.root, .int .i64 x.page, .int .i64 x.dest, .bool x.may, .bool x.lf.there, .bool x.lf.wr, .int .i64 x.lf.fr] 94)
  have g1 := u.cell h1 (fun f => f)
  have g2 := u.cell h2 (fun f => f)
  have HU : Hid _ := u
  clear u h1 h2
  cases h0 : (x.root == r) with
  | false =>
    go_enter Tryz.func97, Tryz.ntmps97
    go_wp2_with fail
    go_ret
    exact ⟨by simp [isAt, h0], HU.out⟩
  | true =>
    go_enter Tryz.func97, Tryz.ntmps97
    go_wp2_with fail
    go_ret
    exact ⟨by simp [isAt, h0], HU.out⟩
theorem kForget1_any (W : World) (B : Nat) (r : Int) (x : En) (h1 : W.cell? ⟨B, 0, none⟩ = some (.int .i64 r)) :
    Calls Tryz.prog 85 #[.agg #[.int .i64 x.root, .int .i64 x.page, .int .i64 x.dest, .bool x.may, .bool x.lf.there, .bool x.lf.wr, .int .i64 x.lf.fr], .pointer (some ⟨B, 0, none⟩)] W
      fun e w' => e = .returned (.bool (x.root == r)) ∧ Upd (fun _ => False) W w' := by
  have u := (Upd.refl (fun _ => False) W).alloc (.cells #[.int .i64 x.root, .int .i64 x.page, .int .i64 x.dest, .bool x.may, .bool x.lf.there, .bool x.lf.wr, .int .i64 x.lf.fr] 94)
  have g1 := u.cell h1 (fun f => f)
  have HU : Hid _ := u
  clear u h1
  go_enter Tryz.func85, Tryz.ntmps85
  go_wp2_with fail
  go_ret
  exact ⟨rfl, HU.out⟩
theorem kLive_any (w : World) (b : Nat) (cur : Nat → En) (n : Nat) (h : CaAt w b cur n) :
    Calls Tryz.prog 88 #[.pointer (some ⟨b, 0, none⟩)] w fun e w' => e = .returned (.slice (some ⟨b, 0, none⟩) n 4) ∧ ∃ m, w' = w.drewN m := by
  have hc := h.cnt
  have hl := h.le
  have n0 : (0 : Int) ≤ (n : Int) := by omega
  have n4 : (n : Int) ≤ 4 := by omega
  go_enter Tryz.func88, Tryz.ntmps88
  go_wp2_with fail
  go_quiet (fail)
  go_wp2_with fail
  go_ret
  exact ⟨rfl, _, rfl⟩
end Go.Proofs.YtadpibcgjgcjhabGreat
/- Package cache: what the library's IndexFunc answers over a cache's places. -/
namespace Go.Proofs.YtadpibcgjgcjhabGreat
open Go.ChangeShapes Go.WideShapes Go.ChangeAt Go.RowKit
set_option maxRecDepth 100000
attribute [local go_sem ↓] Go.wp_at_zero Go.wp_at_succ

/-- The place of the first entry of which p holds. -/
def idxP (p : En → Bool) (es : List En) : Int := match es.findIdx? p with
  | some i => i
  | none => -1
theorem idxP_some {p : En → Bool} {es : List En} {k : Nat} (hk : k < es.length) (h : p (atE es k) = true) (hb : ∀ i, i < k → p (atE es i) = false) : idxP p es = k := by
  have : es.findIdx? p = some k := by
    rw [List.findIdx?_eq_some_iff_getElem]
    refine ⟨hk, ?_, fun j hj => ?_⟩
    · simpa [atE, List.getD_eq_getElem?_getD, List.getElem?_eq_getElem hk] using h
    · have := hb j hj
      simpa [atE, List.getD_eq_getElem?_getD, List.getElem?_eq_getElem (show j < es.length by omega)] using this
  unfold idxP
  rw [this]
theorem idxP_none {p : En → Bool} {es : List En} (hb : ∀ i, i < es.length → p (atE es i) = false) : idxP p es = -1 := by
  have : es.findIdx? p = none := by
    rw [List.findIdx?_eq_none_iff]
    intro x hx
    obtain ⟨i, hi, rfl⟩ := List.getElem_of_mem hx
    have := hb i hi
    simpa [atE, List.getD_eq_getElem?_getD, List.getElem?_eq_getElem hi] using this
  unfold idxP
  rw [this]
/-- It is a place, or there is none. -/
theorem idxP_cases (p : En → Bool) (es : List En) : (∃ k : Nat, k < es.length ∧ idxP p es = k ∧ p (atE es k) = true ∧ ∀ i, i < k → p (atE es i) = false) ∨ (idxP p es = -1 ∧ ∀ i, i < es.length → p (atE es i) = false) := by
  by_cases h : ∃ k, k < es.length ∧ p (atE es k) = true
  · obtain ⟨k, ⟨hk, hp⟩, hmin⟩ := exists_least h
    have hb : ∀ i, i < k → p (atE es i) = false := fun i hi => by
      cases hq : p (atE es i) with
      | false => rfl
      | true => have := hmin i ⟨by omega, hq⟩; omega
    exact Or.inl ⟨k, hk, idxP_some hk hp hb, hp, hb⟩
  · have hb : ∀ i, i < es.length → p (atE es i) = false := fun i hi => by
      cases hq : p (atE es i) with
      | false => rfl
      | true => exact absurd ⟨i, hi, hq⟩ h
    exact Or.inr ⟨idxP_none hb, hb⟩
/-- The entries of a cache. -/
def CaL (w : World) (b : Nat) (es : List En) : Prop := ∃ cur, CaAt w b cur es.length ∧ ∀ i, i < es.length → cur i = atE es i
theorem kIndex_any (w : World) (b : Nat) (cur : Nat → En) (es : List En) (g : Nat) (lb : Array Value) (p : En → Bool) (h : CaAt w b cur es.length) (hes : ∀ i, i < es.length → cur i = atE es i)
    (hp : PredOn b w g lb p) (eg : ∀ args w, (callFunc g args).run Tryz.prog w = .ok (.enter g args) w) :
    Calls Tryz.prog 100 #[.slice (some ⟨b, 0, none⟩) es.length 4, .func (.func g) #[] lb] w fun e w' => e = .returned (.int .i64 (idxP p es)) ∧ Upd (fun _ => False) w w' := by
  have HH : Hid _ := h
  have HE : Hid _ := hes
  have HP : Hid _ := hp
  have hle := h.le
  clear h hes hp
  go_enter Tryz.func100, Tryz.ntmps100
  go_wp2_with fail
  go_loopg [8] es.length (fun gg i wi => ∃ k : Nat, k + gg = es.length ∧ i = .int .i64 k ∧ Hid (∀ i, i < k → p (atE es i) = false) ∧ Hid (Upd (fun _ => False) w wi))
  case atStart => exact ⟨0, by omega, rfl, fun i hi => absurd hi (by omega), Upd.refl _ _⟩
  case round =>
    obtain ⟨k, hk, rfl, HB, HU⟩ := hrel
    have HK : Hid _ := hk
    by_cases hlt : k < es.length
    · clear hk
      have HA : Hid _ := HH.out.upd HU.out (fun f => f)
      have ek := HE.out k hlt
      have c0 : wr.cell? ⟨b, k * 7, none⟩ = some (.int .i64 (atE es k).root) := by have := HA.out.cells k 0 (by omega) (by omega); rw [ek] at this; exact this
      have c1 : wr.cell? ⟨b, k * 7 + 1, none⟩ = some (.int .i64 (atE es k).page) := by have := HA.out.cells k 1 (by omega) (by omega); rw [ek] at this; exact this
      have c2 : wr.cell? ⟨b, k * 7 + 2, none⟩ = some (.int .i64 (atE es k).dest) := by have := HA.out.cells k 2 (by omega) (by omega); rw [ek] at this; exact this
      have c3 : wr.cell? ⟨b, k * 7 + 3, none⟩ = some (.bool (atE es k).may) := by have := HA.out.cells k 3 (by omega) (by omega); rw [ek] at this; exact this
      have c4 : wr.cell? ⟨b, k * 7 + 4, none⟩ = some (.bool (atE es k).lf.there) := by have := HA.out.cells k 4 (by omega) (by omega); rw [ek] at this; exact this
      have c5 : wr.cell? ⟨b, k * 7 + 5, none⟩ = some (.bool (atE es k).lf.wr) := by have := HA.out.cells k 5 (by omega) (by omega); rw [ek] at this; exact this
      have c6 : wr.cell? ⟨b, k * 7 + 6, none⟩ = some (.int .i64 (atE es k).lf.fr) := by have := HA.out.cells k 6 (by omega) (by omega); rw [ek] at this; exact this
      clear ek HA HE
      have k0 : (0 : Int) ≤ (k : Int) := by omega
      have k1 : (k : Int) < es.length := by omega
      generalize hx : atE es k = x at c0 c1 c2 c3 c4 c5 c6
      have HX : Hid _ := hx
      clear hx
      have hcall := HP.out wr x (HU.out.trans (T := fun _ => False) (Upd.refl _ _) (fun _ _ f => f.elim) |> fun u => ⟨u.os, u.tape, u.output, u.size, fun i hi _ => u.block i hi (fun f => f)⟩)
      clear HP
      cases hq : p x with
      | true =>
        rw [hq] at hcall
        go_wp2_with (go_at_fn g; refine hcall.mono ?_; rintro e w' ⟨rfl, hb'⟩)
        go_ret
        exact ⟨by rw [idxP_some hlt (by rw [HX.out]; exact hq) HB.out]; rfl, HU.out.trans hb' (fun _ _ f => f)⟩
      | false =>
        rw [hq] at hcall
        go_wp2_with (go_at_fn g; refine hcall.mono ?_; rintro e w' ⟨rfl, hb'⟩)
        go_roundg (es.length - (k + 1))
        case rel =>
          refine ⟨k + 1, by omega, by go_num, (show Hid _ from fun i hi => ?_), HU.out.trans hb' (fun _ _ f => f)⟩
          by_cases e : i = k
          · subst e; rw [HX.out]; exact hq
          · exact HB.out i (by omega)
        case measure => have := HK.out; omega
    · have HF : Hid _ := idxP_none (p := p) (es := es) (fun i hi => HB.out i (by have := HK.out; omega))
      clear hk HP HE HH
      go_wp2_with fail
      go_ret
      exact ⟨by rw [HF.out]; rfl, HU.out⟩
end Go.Proofs.YtadpibcgjgcjhabGreat
/- Package cache: what the library's DeleteFunc answers and turns over a cache's places; remove. -/
namespace Go.Proofs.YtadpibcgjgcjhabGreat
open Go.ChangeShapes Go.WideShapes Go.ChangeAt Go.RowKit
set_option maxRecDepth 100000
attribute [local go_sem ↓] Go.wp_at_zero Go.wp_at_succ

/-- Of the first j those of which p does not hold. -/
def fltTo (p : En → Bool) (es : List En) (j : Nat) : List En := (es.take j).filter fun e => !p e
def flt (p : En → Bool) (es : List En) : List En := es.filter fun e => !p e
theorem take_succ_atE (es : List En) (j : Nat) (h : j < es.length) : es.take (j + 1) = es.take j ++ [atE es j] := by
  rw [List.take_add_one, List.getElem?_eq_getElem h]
  simp [atE, List.getD_eq_getElem?_getD, h]
theorem fltTo_succ (p : En → Bool) (es : List En) (j : Nat) (h : j < es.length) : fltTo p es (j + 1) = fltTo p es j ++ if p (atE es j) then [] else [atE es j] := by
  unfold fltTo
  rw [take_succ_atE es j h, List.filter_append]
  cases hp : p (atE es j) <;> simp [hp]
theorem fltTo_all (p : En → Bool) (es : List En) : fltTo p es es.length = flt p es := by simp [fltTo, flt]
theorem fltTo_length (p : En → Bool) (es : List En) (j : Nat) : (fltTo p es j).length ≤ j := by
  have h1 := List.length_filter_le (fun e => !p e) (es.take j)
  have h2 := List.length_take_le j es
  unfold fltTo
  omega
theorem flt_length (p : En → Bool) (es : List En) : (flt p es).length ≤ es.length := List.length_filter_le _ _
theorem fltTo_keep (p : En → Bool) (es : List En) : ∀ k, k ≤ es.length → (∀ i, i < k → p (atE es i) = false) → fltTo p es k = (List.range k).map (atE es)
  | 0, _, _ => by simp [fltTo]
  | k + 1, h, hb => by
    rw [fltTo_succ p es k (by omega), fltTo_keep p es k (by omega) (fun i hi => hb i (by omega)), hb k (by omega), List.range_succ]
    simp
theorem range_set (c : Nat → En) (i : Nat) (x : En) : (List.range (i + 1)).map (setAt c i x) = (List.range i).map c ++ [x] := by
  rw [List.range_succ, List.map_append]
  congr 1
  · apply List.map_congr_left
    intro t ht
    rw [setAt_other _ _ _ _ (by have := List.mem_range.1 ht; omega)]
  · simp [setAt]
theorem range_eq (c : Nat → En) (es : List En) (h : ∀ i, i < es.length → c i = atE es i) : (List.range es.length).map c = es := by
  apply List.ext_getElem
  · simp
  · intro i h1 h2
    simp only [List.getElem_map, List.getElem_range]
    rw [h i h2]
    simp [atE, List.getD_eq_getElem?_getD, h2]
theorem of_range {c : Nat → En} {n : Nat} {es : List En} (h : (List.range n).map c = es) : es.length = n ∧ ∀ i, i < n → c i = atE es i := by
  subst h
  refine ⟨by simp, fun i hi => ?_⟩
  simp [atE, List.getD_eq_getElem?_getD, hi]
theorem zeroCells_get (m t : Nat) (h : t < m * 7) : (Builtin.zeroCells zeroEn m).toList[t]? = (enCells en0)[t % 7]? := by
  have hz : zeroEn.size = 7 := rfl
  have h2 : t % 7 < 7 := by omega
  unfold Builtin.zeroCells
  rw [hz]
  simp only [Array.toList_map, Array.toList_range, List.getElem?_map, List.getElem?_range h, Option.map_some]
  generalize t % 7 = r at h2
  rcases r with _ | _ | _ | _ | _ | _ | _ | r
  all_goals first | rfl | omega
theorem zeroCells_length (m : Nat) : (Builtin.zeroCells zeroEn m).toList.length = m * 7 := by
  have hz : zeroEn.size = 7 := rfl
  simp [Builtin.zeroCells, hz]
theorem clear_entries (w : World) (b i n : Nat) (cur : Nat → En) (h : CaAt w b cur n) (hi : i < n) (c : Nat) (ty : TypeId) :
    (Builtin.clear_ #[122] ty #[.slice (some ⟨b, i * 7, none⟩) (n - i) c]).run Tryz.prog w = .ok (.tuple #[]) (w.setCells b (i * 7) (Builtin.zeroCells zeroEn (n - i)).toList) := by
  have hl := h.le
  have hst := run_storeCells_cells (P := Tryz.prog) b (i * 7) (Builtin.zeroCells zeroEn (n - i)).toList 0 w
    (fun j hj => by rw [zeroCells_length] at hj; exact (h.there _ (by omega)).1) (fun j hj => by rw [zeroCells_length] at hj; exact (h.there _ (by omega)).2)
    (fun v hv => by
      obtain ⟨t, ht, rfl⟩ := List.getElem_of_mem hv
      have ht' := ht
      rw [zeroCells_length] at ht'
      have := zeroCells_get (n - i) t ht'
      rw [List.getElem?_eq_getElem ht] at this
      exact enAll_one [en0] _ (by simpa [enAll] using List.mem_of_getElem? this.symm))
  simp only [Nat.add_zero] at hst
  obtain ⟨m, hm⟩ : ∃ m, n - i = m + 1 := ⟨n - i - 1, by omega⟩
  rw [hm] at hst ⊢
  simp [Builtin.clear_, run_underlying Tryz.underlying122]
  change ((Sem.run Tryz.prog (storeCells ⟨b, i * 7, none⟩ (Builtin.zeroCells zeroEn (m + 1)).toList) w).andThen _) = _
  rw [hst]
  rfl
theorem CaAt.cleared {w : World} {b i n : Nat} {cur : Nat → En} (h : CaAt w b cur n) (hi : i < n) : CaAt (w.setCells b (i * 7) (Builtin.zeroCells zeroEn (n - i)).toList) b (fun t => if i ≤ t ∧ t < n then en0 else cur t) n where
  cells := fun k j hk hj => by
    have hl := h.le
    by_cases e : i ≤ k ∧ k < n
    · rw [if_pos e]
      have hlt : (k - i) * 7 + j < (n - i) * 7 := by have : k - i + 1 ≤ n - i := by omega
                                                     omega
      have hg := zeroCells_get (n - i) ((k - i) * 7 + j) hlt
      rw [show ((k - i) * 7 + j) % 7 = j by omega] at hg
      obtain ⟨v, hv⟩ := enCells_some en0 j hj
      have := World.rangeAt_setCells_same w b (i * 7) (Builtin.zeroCells zeroEn (n - i)).toList (fun o ho => h.there _ (by rw [zeroCells_length] at ho; omega)) ((k - i) * 7 + j) v (hg.trans hv)
      rw [show i * 7 + ((k - i) * 7 + j) = k * 7 + j by omega] at this
      rw [this, hv]
    · rw [if_neg e, World.cell?_setCells_out _ _ _ _ _ (fun _ _ => by simp only [zeroCells_length]; omega)]
      exact h.cells k j hk hj
  cnt := by have hl := h.le; rw [World.cell?_setCells_out _ _ _ _ _ (fun _ _ => by simp only [zeroCells_length]; omega)]; exact h.cnt
  fz := fun o => by rw [World.frozen?_setCells]; exact h.fz o
  le := h.le
theorem Upd.free {S : Nat → Prop} {w w' : World} (u : Upd (fun _ => False) w w') : Upd S w w' := ⟨u.os, u.tape, u.output, u.size, fun k hk _ => u.block k hk (fun f => f)⟩
theorem kDelete_any (w : World) (b : Nat) (cur : Nat → En) (es : List En) (g : Nat) (lb : Array Value) (p : En → Bool) (h : CaAt w b cur es.length) (hes : ∀ i, i < es.length → cur i = atE es i)
    (hp : PredOn b w g lb p) (eg : ∀ args w, (callFunc g args).run Tryz.prog w = .ok (.enter g args) w) :
    Calls Tryz.prog 96 #[.slice (some ⟨b, 0, none⟩) es.length 4, .func (.func g) #[] lb] w fun e w' =>
      e = .returned (.slice (some ⟨b, 0, none⟩) (flt p es).length 4) ∧ Upd (fun k => k = b) w w' ∧ ∃ c, CaAt w' b c es.length ∧ ∀ i, i < (flt p es).length → c i = atE (flt p es) i := by
  have hI := kIndex_any w b cur es g lb p h hes hp eg
  have HH : Hid _ := h
  have HE : Hid _ := hes
  have HP : Hid _ := hp
  have hle := h.le
  clear h hes hp
  rcases idxP_cases p es with ⟨k, hk, ek, hpk, hbk⟩ | ⟨ek, hbk⟩
  · rw [ek] at hI
    clear ek
    have HBK : Hid _ := hbk
    have HPK : Hid _ := hpk
    clear hbk hpk
    have hne : ((k : Int) == -1) = false := beq_eq_false_iff_ne.2 (by omega)
    go_enter Tryz.func96, Tryz.ntmps96
    go_wp2_with fail
    refine Calls.mono hI ?_
    rintro e w1 ⟨rfl, hu1⟩
    have HU1 : Hid _ := hu1
    clear hI hu1
    go_wp2_with fail
    go_loopg [5, 6] es.length (fun gg s5 s6 wi => ∃ (j i : Nat) (c : Nat → En), j ≤ es.length ∧ es.length - j ≤ gg ∧ s5 = .int .i64 i ∧ s6 = .int .i64 j ∧ i < j ∧ Hid (CaAt wi b c es.length) ∧ Hid ((List.range i).map c = fltTo p es j) ∧ Hid (∀ t, j ≤ t → t < es.length → c t = atE es t) ∧ Hid (Upd (fun k => k = b) w wi))
    case atStart =>
      refine ⟨k + 1, k, cur, by omega, by omega, rfl, by go_num, by omega, HH.out.upd HU1.out (fun f => f), (show _ = _ from ?_), fun t _ ht => HE.out t ht, HU1.out.free⟩
      rw [fltTo_succ p es k hk, HPK.out, fltTo_keep p es k (by omega) HBK.out]
      simp only [if_true, List.append_nil]
      apply List.map_congr_left
      intro t ht
      exact HE.out t (by have := List.mem_range.1 ht; omega)
    case round =>
      obtain ⟨j, i, c, hj, hgg, rfl, rfl, hij, HA, HF, HT, HU⟩ := hrel
      by_cases hlt : j < es.length
      · have ej := HT.out j (Nat.le_refl _) hlt
        have c0 : wr.cell? ⟨b, j * 7, none⟩ = some (.int .i64 (atE es j).root) := by have := HA.out.cells j 0 (by omega) (by omega); rw [ej] at this; exact this
        have c1 : wr.cell? ⟨b, j * 7 + 1, none⟩ = some (.int .i64 (atE es j).page) := by have := HA.out.cells j 1 (by omega) (by omega); rw [ej] at this; exact this
        have c2 : wr.cell? ⟨b, j * 7 + 2, none⟩ = some (.int .i64 (atE es j).dest) := by have := HA.out.cells j 2 (by omega) (by omega); rw [ej] at this; exact this
        have c3 : wr.cell? ⟨b, j * 7 + 3, none⟩ = some (.bool (atE es j).may) := by have := HA.out.cells j 3 (by omega) (by omega); rw [ej] at this; exact this
        have c4 : wr.cell? ⟨b, j * 7 + 4, none⟩ = some (.bool (atE es j).lf.there) := by have := HA.out.cells j 4 (by omega) (by omega); rw [ej] at this; exact this
        have c5 : wr.cell? ⟨b, j * 7 + 5, none⟩ = some (.bool (atE es j).lf.wr) := by have := HA.out.cells j 5 (by omega) (by omega); rw [ej] at this; exact this
        have c6 : wr.cell? ⟨b, j * 7 + 6, none⟩ = some (.int .i64 (atE es j).lf.fr) := by have := HA.out.cells j 6 (by omega) (by omega); rw [ej] at this; exact this
        have HS : Hid _ := fltTo_succ p es j hlt
        clear ej
        have k0 : (0 : Int) ≤ (j : Int) := by omega
        have k1 : (j : Int) < es.length := by omega
        have i0 : (0 : Int) ≤ (i : Int) := by omega
        have i1 : (i : Int) < es.length := by omega
        generalize hx : atE es j = x at c0 c1 c2 c3 c4 c5 c6 HS
        have HX : Hid _ := hx
        clear hx
        have hu2 := (Upd.refl (fun _ => False) wr).alloc (.cells #[.int .i64 x.root, .int .i64 x.page, .int .i64 x.dest, .bool x.may, .bool x.lf.there, .bool x.lf.wr, .int .i64 x.lf.fr] 94)
        have hcall := HP.out (wr.alloc (.cells #[.int .i64 x.root, .int .i64 x.page, .int .i64 x.dest, .bool x.may, .bool x.lf.there, .bool x.lf.wr, .int .i64 x.lf.fr] 94)) x (HU.out.trans hu2 (fun _ _ f => f.elim))
        have hq : ∀ j, (wr.alloc (.cells #[.int .i64 x.root, .int .i64 x.page, .int .i64 x.dest, .bool x.may, .bool x.lf.there, .bool x.lf.wr, .int .i64 x.lf.fr] 94)).cell? ⟨wr.heap.size, j, none⟩ = (enCells x)[j]? := fun j => by
          rw [World.cell?_alloc_new]
          show (enCells x).toArray[j]? = _
          simp
        have HU2 : Hid _ := hu2
        have HQ : Hid _ := hq
        clear hu2 hq HE HBK HPK HH
        cases hpx : p x with
        | true =>
          rw [hpx] at hcall HS
          clear HQ
          go_wp2_with fail
          refine Calls.mono hcall ?_
          rintro e w2 ⟨rfl, hu3⟩
          have hu4 := HU2.out.trans hu3 (fun _ _ f => f)
          have HU4 : Hid _ := hu4
          clear hcall hu3 hu4 HU2
          go_wp2_with fail
          go_roundg (es.length - (j + 1))
          case rel =>
            refine ⟨j + 1, i, c, by omega, Nat.le_refl _, rfl, by go_num, by omega, HA.out.upd HU4.out (fun f => f), (show _ = _ from ?_), fun t h1 h2 => HT.out t (by omega) h2, HU.out.trans HU4.out (fun _ _ f => f.elim)⟩
            rw [HF.out, HS.out]; simp
          case measure => omega
        | false =>
          rw [hpx] at hcall HS
          go_wp2_with fail
          refine Calls.mono hcall ?_
          rintro e w2 ⟨rfl, hu3⟩
          have hu4 := HU2.out.trans hu3 (fun _ _ f => f)
          have HU4 : Hid _ := hu4
          have q0 := hu3.cell (show _ = some (.int .i64 x.root) from HQ.out 0) (fun f => f)
          have q1 := hu3.cell (show _ = some (.int .i64 x.page) from HQ.out 1) (fun f => f)
          have q2 := hu3.cell (show _ = some (.int .i64 x.dest) from HQ.out 2) (fun f => f)
          have q3 := hu3.cell (show _ = some (.bool x.may) from HQ.out 3) (fun f => f)
          have q4 := hu3.cell (show _ = some (.bool x.lf.there) from HQ.out 4) (fun f => f)
          have q5 := hu3.cell (show _ = some (.bool x.lf.wr) from HQ.out 5) (fun f => f)
          have q6 := hu3.cell (show _ = some (.int .i64 x.lf.fr) from HQ.out 6) (fun f => f)
          have hA2 := HA.out.upd hu4 (fun f => f)
          have fz := hA2.fz
          have e0 : w2.cell? ⟨b, i * 7, none⟩ = some (.int .i64 (c i).root) := hA2.cells i 0 (by omega) (by omega)
          have e1 : w2.cell? ⟨b, i * 7 + 1, none⟩ = some (.int .i64 (c i).page) := hA2.cells i 1 (by omega) (by omega)
          have e2 : w2.cell? ⟨b, i * 7 + 2, none⟩ = some (.int .i64 (c i).dest) := hA2.cells i 2 (by omega) (by omega)
          have e3 : w2.cell? ⟨b, i * 7 + 3, none⟩ = some (.bool (c i).may) := hA2.cells i 3 (by omega) (by omega)
          have e4 : w2.cell? ⟨b, i * 7 + 4, none⟩ = some (.bool (c i).lf.there) := hA2.cells i 4 (by omega) (by omega)
          have e5 : w2.cell? ⟨b, i * 7 + 5, none⟩ = some (.bool (c i).lf.wr) := hA2.cells i 5 (by omega) (by omega)
          have e6 : w2.cell? ⟨b, i * 7 + 6, none⟩ = some (.int .i64 (c i).lf.fr) := hA2.cells i 6 (by omega) (by omega)
          have HA2 : Hid _ := hA2
          generalize (c i) = y at e0 e1 e2 e3 e4 e5 e6
          clear hcall hu3 hu4 HU2 HQ hA2 c0 c1 c2 c3 c4 c5 c6
          go_wp2_with fail
          go_roundg (es.length - (j + 1))
          case rel =>
            refine ⟨j + 1, i + 1, setAt c i x, by omega, Nat.le_refl _, by go_num, by go_num, by omega, HA2.out.set7 (by omega) x, (show _ = _ from ?_), (show Hid _ from fun t h1 h2 => ?_), HU.out.trans (HU4.out.free.trans (Upd.set7 w2 b i x) (fun _ _ e => e)) (fun _ _ e => e)⟩
            · rw [range_set, HF.out, HS.out]; simp
            · rw [setAt_other _ _ _ _ (by omega)]; exact HT.out t (by omega) h2
          case measure => omega
      · obtain rfl : j = es.length := by omega
        have hcl := clear_entries wr b i es.length c HA.out hij
        have i0 : (0 : Int) ≤ (i : Int) := by omega
        have i1 : (i : Int) ≤ es.length := by omega
        have i4 : (i : Int) ≤ 4 := by omega
        have hnn : ¬ ((es.length : Nat) : Int) < ((es.length : Nat) : Int) := by omega
        clear hlt HE HBK HPK HH HP
        go_wp2_with fail
        go_ret
        obtain ⟨l1, l2⟩ := of_range HF.out
        rw [fltTo_all] at l1 l2
        refine ⟨by rw [l1]; rfl, HU.out.trans (Upd.row _ _ _ _) (fun _ _ e => e), _, HA.out.cleared hij, fun t ht => ?_⟩
        rw [l1] at ht
        show (if i ≤ t ∧ t < es.length then en0 else c t) = _
        rw [if_neg (by omega)]
        exact l2 t ht
  · rw [ek] at hI
    clear ek
    have hfe : flt p es = es := by
      unfold flt
      rw [List.filter_eq_self]
      intro x hx
      obtain ⟨i, hi, rfl⟩ := List.getElem_of_mem hx
      have := hbk i hi
      simp only [atE, List.getD_eq_getElem?_getD, List.getElem?_eq_getElem hi, Option.getD_some] at this
      rw [this]; rfl
    rw [hfe]
    clear hfe hbk
    go_enter Tryz.func96, Tryz.ntmps96
    go_wp2_with fail
    refine Calls.mono hI ?_
    rintro e w1 ⟨rfl, hu1⟩
    have HU1 : Hid _ := hu1
    clear hI hu1
    go_wp2_with fail
    go_ret
    exact ⟨rfl, HU1.out.free, cur, HH.out.upd HU1.out (fun f => f), HE.out⟩
end Go.Proofs.YtadpibcgjgcjhabGreat
