/- A guest, plainly: what At keeps. -/
import Derived.Test.YtadpibcgjgcjhabGreatDoorGuP
namespace Go.Proofs.YtadpibcgjgcjhabGreatDoor

/-- What holds of a guest and its pool (b: another map on that pool). -/
structure GInv (s : Pl) (g : Gs) (b : Mp) (W : Int) : Prop where
  inv : Inv s g.m b
  byt : BytOk s
  len : g.c.length ≤ 4
  w0 : 0 ≤ g.walks
  w1 : g.walks ≤ W
  r0 : -1 ≤ g.root
  r1 : g.root ≤ 15
  en : ∀ x ∈ g.c, 0 ≤ x.dest ∧ x.dest < 16
theorem GInv.more {s : Pl} {g : Gs} {b : Mp} {W W' : Int} (h : GInv s g b W) (hw : W ≤ W') : GInv s g b W' := { h with w1 := Int.le_trans h.w1 hw }
theorem GInv.touch {s : Pl} {g : Gs} {b : Mp} {W : Int} (h : GInv s g b W) (n : Int) (wt : Bool) : GInv (gTouch s g n wt).2.1 (gTouch s g n wt).2.2 b W :=
  ⟨h.inv.touch n wt, h.byt.touch g.m n wt, h.len, h.w0, h.w1, h.r0, h.r1, h.en⟩
theorem keepTo_mem (P : Nat → Bool) (es : List En) : ∀ k, k ≤ es.length → ∀ x ∈ keepTo P es k, x ∈ es
  | 0, _, x, hx => by simp [keepTo] at hx
  | k + 1, hk, x, hx => by
    unfold keepTo at hx
    rw [List.mem_append] at hx
    rcases hx with hx | hx
    · exact keepTo_mem P es k (by omega) x hx
    · split at hx
      · rw [List.mem_singleton] at hx
        subst hx
        simp [atE, List.getD_eq_getElem?_getD, List.getElem?_eq_getElem (show k < es.length by omega)]
      · simp at hx
theorem keepTo_drop0 (l : List En) (h : 0 < l.length) : (keepTo (fun i => (i : Int) != 0) l l.length).length < l.length := by
  have aux : ∀ k, k + 1 ≤ l.length → (keepTo (fun i => (i : Int) != 0) l (k + 1)).length ≤ k := by
    intro k
    induction k with
    | zero => intro _; simp [keepTo]
    | succ k ih =>
      intro hk
      have := ih (by omega)
      unfold keepTo
      rw [List.length_append]
      split
      · simp; omega
      · simp; omega
  have := aux (l.length - 1) (by omega)
  rw [show l.length - 1 + 1 = l.length by omega] at this
  omega
theorem putC_le (es : List En) (x : En) (h : es.length ≤ 4) : (putC es x).length ≤ 4 := by
  have h1 := keepTo_length (fun i => (i : Int) != fndI es x.root x.page) es es.length
  unfold putC
  simp only
  generalize keepTo (fun i => (i : Int) != fndI es x.root x.page) es es.length = l at *
  split
  · have := keepTo_drop0 (l ++ [x]) (by simp)
    simp at this ⊢
    omega
  · omega
theorem putC_mem (es : List En) (x : En) : ∀ y ∈ putC es x, y ∈ es ∨ y = x := by
  intro y hy
  unfold putC at hy
  simp only at hy
  have aux : ∀ z ∈ keepTo (fun i => (i : Int) != fndI es x.root x.page) es es.length ++ [x], z ∈ es ∨ z = x := by
    intro z hz
    rw [List.mem_append, List.mem_singleton] at hz
    rcases hz with hz | hz
    · exact Or.inl (keepTo_mem _ _ _ (Nat.le_refl _) z hz)
    · exact Or.inr hz
  split at hy
  · exact aux y (keepTo_mem _ _ _ (Nat.le_refl _) y hy)
  · exact aux y hy
theorem GInv.step {s : Pl} {g : Gs} {b : Mp} {W : Int} (h : GInv s g b W) (x : En) (hx : 0 ≤ x.dest ∧ x.dest < 16) (found wt : Bool) : GInv (gStep s g x found wt).2.1 (gStep s g x found wt).2.2 b W := by
  unfold gStep
  split
  · exact h
  · split
    · exact h.touch _ _
    · have ht := h.touch x.dest wt
      cases found with
      | true => exact ht
      | false =>
        simp only [Bool.false_eq_true, if_false]
        exact ⟨ht.inv, ht.byt, putC_le _ _ ht.len, ht.w0, ht.w1, ht.r0, ht.r1, fun y hy => by
          rcases putC_mem _ _ y hy with hy | rfl
          · exact ht.en y hy
          · exact hx⟩
theorem GInv.at {s : Pl} {g : Gs} {b : Mp} {W : Int} (h : GInv s g b W) (addr : Int) (wt : Bool) : GInv (gAt s g addr wt).2.1 (gAt s g addr wt).2.2 b (W + 1) := by
  have h' := h.more (show W ≤ W + 1 by omega)
  unfold gAt
  split
  · exact h'
  · split
    · exact h'.touch _ _
    · split
      · next hf =>
        rcases Nat.lt_or_ge (fndI g.c g.root (addr / 16)).toNat g.c.length with hlt | hge
        · exact h'.step _ (h'.en _ (by simp [atE, List.getD_eq_getElem?_getD, List.getElem?_eq_getElem hlt])) _ _
        · exact h'.step _ (by simp [atE, List.getD_eq_getElem?_getD, List.getElem?_eq_none hge, en0]) _ _
      · unfold gWalk
        have ht := h.touch g.root false
        split
        · exact ht.more (by omega)
        · have hw : GInv (gTouch s g g.root false).2.1 { (gTouch s g g.root false).2.2 with walks := g.walks + 1 } b (W + 1) :=
            ⟨ht.inv, ht.byt, ht.len, by have := h.w0; show 0 ≤ g.walks + 1; omega, by have := h.w1; show g.walks + 1 ≤ W + 1; omega, ht.r0, ht.r1, ht.en⟩
          split
          · exact hw
          · exact hw.step _ (by show 0 ≤ _ % 16 ∧ _ % 16 < 16; omega) _ _
theorem idx_or (es : List En) (r p : Int) : (∃ j : Nat, j < es.length ∧ fndI es r p = j) ∨ fndI es r p = -1 := by
  unfold fndI
  cases h : es.findIdx? (isAt r p) with
  | none => exact Or.inr rfl
  | some i =>
    refine Or.inl ⟨i, ?_, rfl⟩
    have := (List.findIdx?_eq_some_iff_getElem.1 h).1
    exact this
theorem gTouch_code (s : Pl) (g : Gs) (n : Int) (wt : Bool) : 0 ≤ (gTouch s g n wt).1.2 := touch_code s g.m n wt
theorem gStep_code (s : Pl) (g : Gs) (x : En) (found wt : Bool) : 0 ≤ (gStep s g x found wt).1.2 := by
  unfold gStep
  split
  · simp
  · split
    · exact gTouch_code _ _ _ _
    · simp
theorem gAt_code (s : Pl) (g : Gs) (addr : Int) (wt : Bool) : 0 ≤ (gAt s g addr wt).1.2 := by
  unfold gAt
  split
  · simp
  · split
    · exact gTouch_code _ _ _ _
    · split
      · exact gStep_code _ _ _ _ _
      · unfold gWalk
        split
        · exact gTouch_code _ _ _ _
        · split
          · simp
          · exact gStep_code _ _ _ _ _
theorem gTouch_frame {s : Pl} {g : Gs} {b : Mp} {W : Int} (h : GInv s g b W) (n : Int) (wt : Bool) (he : (gTouch s g n wt).1.2 = 0) : 0 ≤ (gTouch s g n wt).1.1 ∧ (gTouch s g n wt).1.1 < (gTouch s g n wt).2.1.n := by
  have := touch_frame h.inv n wt he
  exact ⟨this.1, this.2.1⟩
theorem gStep_frame {s : Pl} {g : Gs} {b : Mp} {W : Int} (h : GInv s g b W) (x : En) (found wt : Bool) (he : (gStep s g x found wt).1.2 = 0) : 0 ≤ (gStep s g x found wt).1.1 ∧ (gStep s g x found wt).1.1 < (gStep s g x found wt).2.1.n := by
  have hc := gTouch_code s g x.dest wt
  unfold gStep at he ⊢
  split
  · simp_all
  · next h1 =>
    rw [if_neg h1] at he
    split
    · next h2 => rw [if_pos h2] at he; simp only at he; omega
    · next h2 => exact gTouch_frame h x.dest wt (by omega)
theorem gAt_frame {s : Pl} {g : Gs} {b : Mp} {W : Int} (h : GInv s g b W) (addr : Int) (wt : Bool) (he : (gAt s g addr wt).1.2 = 0) : (0 ≤ addr ∧ addr ≤ 255) ∧ 0 ≤ (gAt s g addr wt).1.1 ∧ (gAt s g addr wt).1.1 < (gAt s g addr wt).2.1.n := by
  unfold gAt at he ⊢
  split
  · simp_all
  · next h0 =>
    rw [if_neg h0] at he
    refine ⟨by omega, ?_⟩
    split
    · next h1 => rw [if_pos h1] at he; exact gTouch_frame h _ _ he
    · next h1 =>
      rw [if_neg h1] at he
      split
      · next h2 => rw [if_pos h2] at he; exact gStep_frame h _ _ _ he
      · next h2 =>
        rw [if_neg h2] at he
        unfold gWalk at he ⊢
        have hc := gTouch_code s g g.root false
        have ht := h.touch g.root false
        split
        · next h3 => rw [if_pos h3] at he; simp only at he; omega
        · next h3 =>
          rw [if_neg h3] at he
          have hw : GInv (gTouch s g g.root false).2.1 { (gTouch s g g.root false).2.2 with walks := g.walks + 1 } b (W + 1) :=
            ⟨ht.inv, ht.byt, ht.len, by have := h.w0; show 0 ≤ g.walks + 1; omega, by have := h.w1; show g.walks + 1 ≤ W + 1; omega, ht.r0, ht.r1, ht.en⟩
          split
          · next h4 => rw [if_pos h4] at he; simp at he
          · next h4 => rw [if_neg h4] at he; exact gStep_frame hw _ _ _ he
end Go.Proofs.YtadpibcgjgcjhabGreatDoor
