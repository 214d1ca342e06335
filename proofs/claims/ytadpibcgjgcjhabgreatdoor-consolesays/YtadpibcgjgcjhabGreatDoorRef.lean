/- The document's answer for chapter 1 (package undercroftref): what its pool is in memory, what its functions answer, and what they turn. -/
import Derived.Test.YtadpibcgjgcjhabGreatDoorFramesD
namespace Go.Proofs.YtadpibcgjgcjhabGreatDoor
open Go.ChangeShapes Go.WideShapes Go.ChangeAt Go.RowKit
set_option maxRecDepth 100000

/-- The model's pool in memory: one block. -/
structure RefAt (w : World) (bm : Nat) (s : Pl) : Prop where
  num : w.cell? ⟨bm, 0, none⟩ = some (.int .i64 s.n)
  byt : ∀ f i, f < s.n → i < 16 → w.cell? ⟨bm, 1 + f * 16 + i, none⟩ = some (.int .u8 (s.byt f i))
  refs : ∀ f, f < s.n → w.cell? ⟨bm, 1025 + f, none⟩ = some (.int .i64 (s.refs f))
  fz : ∀ o, w.frozen? ⟨bm, o, none⟩ = false
  le : s.n ≤ 64
  nn : ∀ f, f < s.n → 0 ≤ s.refs f

theorem rUsed_yes (w : World) (bm f : Nat) (s : Pl) (h : RefAt w bm s) (hf : f < s.n) (hr : 0 < s.refs f) :
    Calls Tryz.prog 66 #[.pointer (some ⟨bm, 0, none⟩), .int .i64 f] w fun e w' => e = .returned (.bool true) ∧ w' = w := by
  have h1 := h.num
  have h2 := h.le
  have h3 := h.refs f hf
  have i1 : (f : Int) < 64 := by omega
  go_enter Tryz.func66, Tryz.ntmps66
  go_wp2
  go_ret
  exact ⟨rfl, rfl⟩
theorem rUsed_free (w : World) (bm f : Nat) (s : Pl) (h : RefAt w bm s) (hf : f < s.n) (hr : s.refs f = 0) :
    Calls Tryz.prog 66 #[.pointer (some ⟨bm, 0, none⟩), .int .i64 f] w fun e w' => e = .returned (.bool false) ∧ w' = w := by
  have h1 := h.num
  have h2 := h.le
  have h3 := h.refs f hf
  rw [hr] at h3
  have i1 : (f : Int) < 64 := by omega
  clear hr
  go_enter Tryz.func66, Tryz.ntmps66
  go_wp2
  go_ret
  exact ⟨rfl, rfl⟩
theorem rUsed_neg (w : World) (bm : Nat) (f : Int) (hf : f < 0) :
    Calls Tryz.prog 66 #[.pointer (some ⟨bm, 0, none⟩), .int .i64 f] w fun e w' => e = .returned (.bool false) ∧ w' = w := by
  have hd : decide (0 ≤ f) = false := by simp; omega
  go_enter Tryz.func66, Tryz.ntmps66
  go_wp2
  go_ret
  exact ⟨rfl, rfl⟩
theorem rUsed_big (w : World) (bm : Nat) (f : Int) (s : Pl) (h : RefAt w bm s) (hf : s.n ≤ f) :
    Calls Tryz.prog 66 #[.pointer (some ⟨bm, 0, none⟩), .int .i64 f] w fun e w' => e = .returned (.bool false) ∧ w' = w := by
  have h1 := h.num
  have hd : decide (f < s.n) = false := by simp; omega
  have h0 : 0 ≤ f := by omega
  go_enter Tryz.func66, Tryz.ntmps66
  go_wp2
  go_ret
  exact ⟨rfl, rfl⟩
theorem rUsed_any (w : World) (bm : Nat) (f : Int) (s : Pl) (h : RefAt w bm s) :
    Calls Tryz.prog 66 #[.pointer (some ⟨bm, 0, none⟩), .int .i64 f] w fun e w' => e = .returned (.bool (s.used f)) ∧ w' = w := by
  by_cases h0 : f < 0
  · have : s.used f = false := by simp [Pl.used]; omega
    rw [this]; exact rUsed_neg w bm f h0
  · by_cases h1 : f < s.n
    · obtain ⟨k, rfl⟩ := Int.eq_ofNat_of_zero_le (show 0 ≤ f by omega)
      by_cases hr : s.refs k = 0
      · have : s.used k = false := by simp [Pl.used, hr]
        rw [this]; exact rUsed_free w bm k s h (by omega) hr
      · have : s.used k = true := by simp [Pl.used, hr]; omega
        rw [this]; exact rUsed_yes w bm k s h (by omega) (by have := h.nn k (by omega); omega)
    · have : s.used f = false := by simp [Pl.used]; omega
      rw [this]; exact rUsed_big w bm f s h (by omega)
theorem rUsed_is (w : World) (bm : Nat) (f : Int) (s : Pl) (h : RefAt w bm s) {u : Bool} (hu : s.used f = u) :
    Calls Tryz.prog 66 #[.pointer (some ⟨bm, 0, none⟩), .int .i64 f] w fun e w' => e = .returned (.bool u) ∧ w' = w := by
  subst hu; exact rUsed_any w bm f s h

theorem rGet_any (w : World) (bm : Nat) (f i : Int) (s : Pl) (h : RefAt w bm s) :
    Calls Tryz.prog 100 #[.pointer (some ⟨bm, 0, none⟩), .int .i64 f, .int .i64 i] w fun e w' => e = .returned (.tuple #[.int .u8 (s.get f i).1, .int .i64 (s.get f i).2]) ∧ w' = w := by
  by_cases hi : i < 0 ∨ 15 < i
  · simp only [Pl.get, hi, if_true]
    rcases hi with hi | hi
    · have hd : decide (i < 0) = true := by simp; omega
      go_enter Tryz.func100, Tryz.ntmps100
      go_wp2
      go_ret2
      exact ⟨rfl, rfl⟩
    · have hd : decide (i < 0) = false := by simp; omega
      have hd2 : decide (15 < i) = true := by simp; omega
      go_enter Tryz.func100, Tryz.ntmps100
      go_wp2
      go_ret2
      exact ⟨rfl, rfl⟩
  · have i0 : 0 ≤ i := by omega
    have i1 : i ≤ 15 := by omega
    have hd : decide (i < 0) = false := by simp; omega
    have hd2 : decide (15 < i) = false := by simp; omega
    cases hu : s.used f with
    | false =>
      simp only [Pl.get, hi, hu, if_false, Bool.false_eq_true]
      clear hi
      go_enter Tryz.func100, Tryz.ntmps100
      go_wp2_with (go_at_call 66; refine (rUsed_is _ _ _ _ h hu).mono ?_; rintro e w' ⟨rfl, rfl⟩)
      go_ret2
      exact ⟨rfl, rfl⟩
    | true =>
      simp only [Pl.get, hi, hu, if_false, if_true]
      clear hi
      obtain ⟨h0, h1, h2⟩ := (s.used_iff f).1 hu
      have c1 := h.byt f.toNat i.toNat (by omega) (by omega)
      have hl := h.le
      have i2 : i < 16 := by omega
      have f2 : f < 64 := by omega
      clear h2
      go_enter Tryz.func100, Tryz.ntmps100
      go_wp2_with (go_at_call 66; refine (rUsed_is _ _ _ _ h hu).mono ?_; rintro e w' ⟨rfl, rfl⟩)
      go_ret2
      exact ⟨rfl, rfl⟩

theorem RefAt.setRef {w : World} {bm : Nat} {s : Pl} (h : RefAt w bm s) {f : Nat} (hf : f < s.n) {v : Int} (hv : 0 ≤ v) :
    RefAt (w.setCell ⟨bm, 1025 + f, none⟩ (.int .i64 v)) bm { s with refs := setAt s.refs f v } where
  num := by rw [World.cell?_setCell_other _ _ _ _ (addr_ne (Or.inr (by omega)))]; exact h.num
  refs := fun g hg => by
    by_cases e : g = f
    · subst e; rw [World.cell?_setCell_same _ _ _ (h.refs g hf)]; simp [setAt]
    · rw [World.cell?_setCell_other _ _ _ _ (addr_ne (Or.inr (by omega))), h.refs g hg]; simp [setAt, e]
  byt := fun g i hg hi => by
    have hg' : g < s.n := hg
    have := h.le
    rw [World.cell?_setCell_other _ _ _ _ (addr_ne (Or.inr (by omega)))]; exact h.byt g i hg hi
  fz := fun o => by rw [World.frozen?_setCell]; exact h.fz o
  le := h.le
  nn := fun g hg => by
    by_cases e : g = f
    · subst e; simpa [setAt] using hv
    · simpa [setAt, e] using h.nn g hg
theorem RefAt.setByte {w : World} {bm : Nat} {s : Pl} (h : RefAt w bm s) {f i : Nat} (hf : f < s.n) (hi : i < 16) (v : Int) :
    RefAt (w.setCell ⟨bm, 1 + f * 16 + i, none⟩ (.int .u8 v)) bm { s with byt := setAt s.byt f (setAt (s.byt f) i v) } where
  num := by rw [World.cell?_setCell_other _ _ _ _ (addr_ne (Or.inr (by omega)))]; exact h.num
  refs := fun g hg => by
    have := h.le
    rw [World.cell?_setCell_other _ _ _ _ (addr_ne (Or.inr (by omega)))]; exact h.refs g hg
  byt := fun g j hg hj => by
    by_cases e : g = f
    · subst e
      by_cases e2 : j = i
      · subst e2; rw [World.cell?_setCell_same _ _ _ (h.byt g j hf hi)]; simp [setAt]
      · rw [World.cell?_setCell_other _ _ _ _ (addr_ne (Or.inr (by omega))), h.byt g j hg hj]; simp [setAt, e2]
    · rw [World.cell?_setCell_other _ _ _ _ (addr_ne (Or.inr (by omega))), h.byt g j hg hj]; simp [setAt, e]
  fz := fun o => by rw [World.frozen?_setCell]; exact h.fz o
  le := h.le
  nn := h.nn
theorem RefAt.range {w : World} {bm : Nat} {s : Pl} (h : RefAt w bm s) {f : Nat} (hf : f < s.n) : w.rangeAt bm (1 + f * 16) (rowOf (s.byt f)) := by
  intro j v hv
  have hj : j < 16 := by have := (List.getElem?_eq_some_iff.1 hv).1; rw [rowOf_length] at this; exact this
  rw [rowOf_get _ _ hj] at hv
  rw [h.byt f j hf hj]; exact hv
theorem RefAt.there {w : World} {bm : Nat} {s : Pl} (h : RefAt w bm s) {f : Nat} (hf : f < s.n) : w.there bm (1 + f * 16) 16 := fun j hj =>
  ⟨by rw [h.byt f j hf hj]; rfl, h.fz _⟩
theorem RefAt.setRow {w : World} {bm : Nat} {s : Pl} (h : RefAt w bm s) {f : Nat} (hf : f < s.n) (g : Nat → Int) :
    RefAt (w.setCells bm (1 + f * 16) (rowOf g)) bm { s with byt := setAt s.byt f g } where
  num := by rw [World.cell?_setCells_out _ _ _ _ _ (fun _ _ => by simp only; omega)]; exact h.num
  refs := fun k hk => by
    have := h.le
    rw [World.cell?_setCells_out _ _ _ _ _ (fun _ _ => by simp only [rowOf_length]; omega)]; exact h.refs k hk
  byt := fun k j hk hj => by
    by_cases e : k = f
    · subst e
      have := World.rangeAt_setCells_same w bm (1 + k * 16) (rowOf g) (by rw [rowOf_length]; exact h.there hf) j _ (rowOf_get g j hj)
      rw [this]; simp [setAt]
    · rw [World.cell?_setCells_out _ _ _ _ _ (fun _ _ => by simp only [rowOf_length]; omega), h.byt k j hk hj]; simp [setAt, e]
  fz := fun o => by rw [World.frozen?_setCells]; exact h.fz o
  le := h.le
  nn := h.nn
theorem RefAt.upd {S : Nat → Prop} {w w' : World} {bm : Nat} {s : Pl} (h : RefAt w bm s) (u : Upd S w w') (hm : ¬ S bm) : RefAt w' bm s where
  num := u.cell h.num hm
  refs := fun f hk => u.cell (h.refs f hk) hm
  byt := fun f i hk hi => u.cell (h.byt f i hk hi) hm
  fz := fun o => by rw [World.frozen?_of_block (w := w) (u.block bm (World.block_lt_of_cell? w _ h.num) hm)]; exact h.fz o
  le := h.le
  nn := h.nn
end Go.Proofs.YtadpibcgjgcjhabGreatDoor
