/- The document's answer for chapter 1 (package undercroftref): what its pool is in memory, what its functions answer, and what they turn. -/
import Derived.Test.YtadpibcgjgcjhaaPart01
import Derived.Deep.AppendLies
namespace Go.Proofs.Ytadpibcgjgcjhaa
open Go.ChangeShapes Go.WideShapes Go.ChangeAt Go.RowKit
set_option maxRecDepth 100000

/-- The model's pool in memory: one block. -/
structure RefAt (w : World) (bm : Nat) (s : Pl) : Prop where
  num : w.cell? ⟨bm, 0, none⟩ = some (.int .i64 s.n)
  byt : ∀ f i, f < s.n → i < 16 → w.cell? ⟨bm, 1 + f * 16 + i, none⟩ = some (.int .u8 (s.byt f i))
  refs : ∀ f, f < s.n → w.cell? ⟨bm, 1025 + f, none⟩ = some (.int .i64 (s.refs f))
  fz : ∀ o, w.frozen? ⟨bm, o, none⟩ = false
  le : s.n ≤ 64
  nn : ∀ f, f < s.n → 0 ≤ s.refs f

theorem rUsed_yes (w : World) (bm f : Nat) (s : Pl) (h : RefAt w bm s) (hf : f < s.n) (hr : 0 < s.refs f) :
    Calls Try.prog 62 #[.pointer (some ⟨bm, 0, none⟩), .int .i64 f] w fun e w' => e = .returned (.bool true) ∧ w' = w := by
  have h1 := h.num
  have h2 := h.le
  have h3 := h.refs f hf
  have i1 : (f : Int) < 64 := by omega
  go_enter Try.func62, Try.ntmps62
  go_wp2
  go_ret
  exact ⟨rfl, rfl⟩
theorem rUsed_free (w : World) (bm f : Nat) (s : Pl) (h : RefAt w bm s) (hf : f < s.n) (hr : s.refs f = 0) :
    Calls Try.prog 62 #[.pointer (some ⟨bm, 0, none⟩), .int .i64 f] w fun e w' => e = .returned (.bool false) ∧ w' = w := by
  have h1 := h.num
  have h2 := h.le
  have h3 := h.refs f hf
  rw [hr] at h3
  have i1 : (f : Int) < 64 := by omega
  clear hr
  go_enter Try.func62, Try.ntmps62
  go_wp2
  go_ret
  exact ⟨rfl, rfl⟩
theorem rUsed_neg (w : World) (bm : Nat) (f : Int) (hf : f < 0) :
    Calls Try.prog 62 #[.pointer (some ⟨bm, 0, none⟩), .int .i64 f] w fun e w' => e = .returned (.bool false) ∧ w' = w := by
  have hd : decide (0 ≤ f) = false := by simp; omega
  go_enter Try.func62, Try.ntmps62
  go_wp2
  go_ret
  exact ⟨rfl, rfl⟩
theorem rUsed_big (w : World) (bm : Nat) (f : Int) (s : Pl) (h : RefAt w bm s) (hf : s.n ≤ f) :
    Calls Try.prog 62 #[.pointer (some ⟨bm, 0, none⟩), .int .i64 f] w fun e w' => e = .returned (.bool false) ∧ w' = w := by
  have h1 := h.num
  have hd : decide (f < s.n) = false := by simp; omega
  have h0 : 0 ≤ f := by omega
  go_enter Try.func62, Try.ntmps62
  go_wp2
  go_ret
  exact ⟨rfl, rfl⟩
theorem rUsed_any (w : World) (bm : Nat) (f : Int) (s : Pl) (h : RefAt w bm s) :
    Calls Try.prog 62 #[.pointer (some ⟨bm, 0, none⟩), .int .i64 f] w fun e w' => e = .returned (.bool (s.used f)) ∧ w' = w := by
  by_cases h0 : f < 0
  · have : s.used f = false := by simp [Pl.used]; omega
    rw [this]; exact rUsed_neg w bm f h0
  · by_cases h1 : f < s.n
    · obtain ⟨k, rfl⟩ := Int.eq_ofNat_of_zero_le (show 0 ≤ f by omega)
      by_cases hr : s.refs k = 0
      · have : s.used k = false := by simp [Pl.used, hr]
        rw [this]; exact rUsed_free w bm k s h (by omega) hr
      · have : s.used k = true := by simp [Pl.used, hr]; omega
        rw [this]; exact rUsed_yes w bm k s h (by omega) (by have := h.nn k (by omega); omega)
    · have : s.used f = false := by simp [Pl.used]; omega
      rw [this]; exact rUsed_big w bm f s h (by omega)
theorem rUsed_is (w : World) (bm : Nat) (f : Int) (s : Pl) (h : RefAt w bm s) {u : Bool} (hu : s.used f = u) :
    Calls Try.prog 62 #[.pointer (some ⟨bm, 0, none⟩), .int .i64 f] w fun e w' => e = .returned (.bool u) ∧ w' = w := by
  subst hu; exact rUsed_any w bm f s h

theorem rGet_any (w : World) (bm : Nat) (f i : Int) (s : Pl) (h : RefAt w bm s) :
    Calls Try.prog 20 #[.pointer (some ⟨bm, 0, none⟩), .int .i64 f, .int .i64 i] w fun e w' => e = .returned (.tuple #[.int .u8 (s.get f i).1, .int .i64 (s.get f i).2]) ∧ w' = w := by
  by_cases hi : i < 0 ∨ 15 < i
  · simp only [Pl.get, hi, if_true]
    rcases hi with hi | hi
    · have hd : decide (i < 0) = true := by simp; omega
      go_enter Try.func20, Try.ntmps20
      go_wp2
      go_ret2
      exact ⟨rfl, rfl⟩
    · have hd : decide (i < 0) = false := by simp; omega
      have hd2 : decide (15 < i) = true := by simp; omega
      go_enter Try.func20, Try.ntmps20
      go_wp2
      go_ret2
      exact ⟨rfl, rfl⟩
  · have i0 : 0 ≤ i := by omega
    have i1 : i ≤ 15 := by omega
    have hd : decide (i < 0) = false := by simp; omega
    have hd2 : decide (15 < i) = false := by simp; omega
    cases hu : s.used f with
    | false =>
      simp only [Pl.get, hi, hu, if_false, Bool.false_eq_true]
      clear hi
      go_enter Try.func20, Try.ntmps20
      go_wp2_with (go_at_call 62; refine (rUsed_is _ _ _ _ h hu).mono ?_; rintro e w' ⟨rfl, rfl⟩)
      go_ret2
      exact ⟨rfl, rfl⟩
    | true =>
      simp only [Pl.get, hi, hu, if_false, if_true]
      clear hi
      obtain ⟨h0, h1, h2⟩ := (s.used_iff f).1 hu
      have c1 := h.byt f.toNat i.toNat (by omega) (by omega)
      have hl := h.le
      have i2 : i < 16 := by omega
      have f2 : f < 64 := by omega
      clear h2
      go_enter Try.func20, Try.ntmps20
      go_wp2_with (go_at_call 62; refine (rUsed_is _ _ _ _ h hu).mono ?_; rintro e w' ⟨rfl, rfl⟩)
      go_ret2
      exact ⟨rfl, rfl⟩

theorem RefAt.setRef {w : World} {bm : Nat} {s : Pl} (h : RefAt w bm s) {f : Nat} (hf : f < s.n) {v : Int} (hv : 0 ≤ v) :
    RefAt (w.setCell ⟨bm, 1025 + f, none⟩ (.int .i64 v)) bm { s with refs := setAt s.refs f v } where
  num := by rw [World.cell?_setCell_other _ _ _ _ (addr_ne (Or.inr (by omega)))]; exact h.num
  refs := fun g hg => by
    by_cases e : g = f
    · subst e; rw [World.cell?_setCell_same _ _ _ (h.refs g hf)]; simp [setAt]
    · rw [World.cell?_setCell_other _ _ _ _ (addr_ne (Or.inr (by omega))), h.refs g hg]; simp [setAt, e]
  byt := fun g i hg hi => by
    have hg' : g < s.n := hg
    have := h.le
    rw [World.cell?_setCell_other _ _ _ _ (addr_ne (Or.inr (by omega)))]; exact h.byt g i hg hi
  fz := fun o => by rw [World.frozen?_setCell]; exact h.fz o
  le := h.le
  nn := fun g hg => by
    by_cases e : g = f
    · subst e; simpa [setAt] using hv
    · simpa [setAt, e] using h.nn g hg
theorem RefAt.setByte {w : World} {bm : Nat} {s : Pl} (h : RefAt w bm s) {f i : Nat} (hf : f < s.n) (hi : i < 16) (v : Int) :
    RefAt (w.setCell ⟨bm, 1 + f * 16 + i, none⟩ (.int .u8 v)) bm { s with byt := setAt s.byt f (setAt (s.byt f) i v) } where
  num := by rw [World.cell?_setCell_other _ _ _ _ (addr_ne (Or.inr (by omega)))]; exact h.num
  refs := fun g hg => by
    have := h.le
    rw [World.cell?_setCell_other _ _ _ _ (addr_ne (Or.inr (by omega)))]; exact h.refs g hg
  byt := fun g j hg hj => by
    by_cases e : g = f
    · subst e
      by_cases e2 : j = i
      · subst e2; rw [World.cell?_setCell_same _ _ _ (h.byt g j hf hi)]; simp [setAt]
      · rw [World.cell?_setCell_other _ _ _ _ (addr_ne (Or.inr (by omega))), h.byt g j hg hj]; simp [setAt, e2]
    · rw [World.cell?_setCell_other _ _ _ _ (addr_ne (Or.inr (by omega))), h.byt g j hg hj]; simp [setAt, e]
  fz := fun o => by rw [World.frozen?_setCell]; exact h.fz o
  le := h.le
  nn := h.nn
theorem RefAt.range {w : World} {bm : Nat} {s : Pl} (h : RefAt w bm s) {f : Nat} (hf : f < s.n) : w.rangeAt bm (1 + f * 16) (rowOf (s.byt f)) := by
  intro j v hv
  have hj : j < 16 := by have := (List.getElem?_eq_some_iff.1 hv).1; rw [rowOf_length] at this; exact this
  rw [rowOf_get _ _ hj] at hv
  rw [h.byt f j hf hj]; exact hv
theorem RefAt.there {w : World} {bm : Nat} {s : Pl} (h : RefAt w bm s) {f : Nat} (hf : f < s.n) : w.there bm (1 + f * 16) 16 := fun j hj =>
  ⟨by rw [h.byt f j hf hj]; rfl, h.fz _⟩
theorem RefAt.setRow {w : World} {bm : Nat} {s : Pl} (h : RefAt w bm s) {f : Nat} (hf : f < s.n) (g : Nat → Int) :
    RefAt (w.setCells bm (1 + f * 16) (rowOf g)) bm { s with byt := setAt s.byt f g } where
  num := by rw [World.cell?_setCells_out _ _ _ _ _ (fun _ _ => by simp only; omega)]; exact h.num
  refs := fun k hk => by
    have := h.le
    rw [World.cell?_setCells_out _ _ _ _ _ (fun _ _ => by simp only [rowOf_length]; omega)]; exact h.refs k hk
  byt := fun k j hk hj => by
    by_cases e : k = f
    · subst e
      have := World.rangeAt_setCells_same w bm (1 + k * 16) (rowOf g) (by rw [rowOf_length]; exact h.there hf) j _ (rowOf_get g j hj)
      rw [this]; simp [setAt]
    · rw [World.cell?_setCells_out _ _ _ _ _ (fun _ _ => by simp only [rowOf_length]; omega), h.byt k j hk hj]; simp [setAt, e]
  fz := fun o => by rw [World.frozen?_setCells]; exact h.fz o
  le := h.le
  nn := h.nn
theorem RefAt.upd {S : Nat → Prop} {w w' : World} {bm : Nat} {s : Pl} (h : RefAt w bm s) (u : Upd S w w') (hm : ¬ S bm) : RefAt w' bm s where
  num := u.cell h.num hm
  refs := fun f hk => u.cell (h.refs f hk) hm
  byt := fun f i hk hi => u.cell (h.byt f i hk hi) hm
  fz := fun o => by rw [World.frozen?_of_block (w := w) (u.block bm (World.block_lt_of_cell? w _ h.num) hm)]; exact h.fz o
  le := h.le
  nn := h.nn
end Go.Proofs.Ytadpibcgjgcjhaa
/- The document's answer for chapter 1: Share, Set, Left, Of, Take. -/
namespace Go.Proofs.Ytadpibcgjgcjhaa
open Go.ChangeShapes Go.WideShapes Go.ChangeAt Go.RowKit
set_option maxRecDepth 100000

theorem rShare_no (w : World) (bm : Nat) (f d : Int) (s : Pl) (h : RefAt w bm s) (hu : s.used f = false) :
    Calls Try.prog 17 #[.pointer (some ⟨bm, 0, none⟩), .int .i64 f, .int .i64 d] w fun e w' => e = .returned (.int .i64 2) ∧ w' = w := by
  go_enter Try.func17, Try.ntmps17
  go_wp2_with (go_at_call 62; refine (rUsed_is _ _ _ _ h hu).mono ?_; rintro e w' ⟨rfl, rfl⟩)
  go_ret
  exact ⟨rfl, rfl⟩
theorem rShare_yes (w : World) (bm : Nat) (f d : Int) (s : Pl) (h : RefAt w bm s) (hu : s.used f = true) (hm : s.refs f.toNat ≤ 1000000) (d0 : -1 ≤ d) (d1 : d ≤ 1) :
    Calls Try.prog 17 #[.pointer (some ⟨bm, 0, none⟩), .int .i64 f, .int .i64 d] w fun e w' => e = .returned (.int .i64 0) ∧ RefAt w' bm { s with refs := setAt s.refs f.toNat (s.refs f.toNat + d) } ∧ Upd (fun k => k = bm) w w' := by
  obtain ⟨h0, h1, h2⟩ := (s.used_iff f).1 hu
  have hl := h.le
  have hk : f.toNat < s.n := by omega
  have c1 := h.refs f.toNat hk
  have c2 := h.fz (1025 + f.toNat)
  have c3 := h.nn f.toNat hk
  have f2 : f < 64 := by omega
  have hw := h.setRef hk (v := s.refs f.toNat + d) (by omega)
  clear h2
  go_enter Try.func17, Try.ntmps17
  go_wp2_with (go_at_call 62; refine (rUsed_is _ _ _ _ h hu).mono ?_; rintro e w' ⟨rfl, rfl⟩)
  go_region
  all_goals go_wp2
  all_goals go_ret
  all_goals exact ⟨rfl, hw.upd (S := fun _ => False) (Upd.refl _ _).drew (fun f => f), (Upd.one _ _ _ _).drew⟩
theorem rShare_any (w : World) (bm : Nat) (f d : Int) (s : Pl) (h : RefAt w bm s) (hm : ∀ k, k < s.n → s.refs k ≤ 1000000) (d0 : -1 ≤ d) (d1 : d ≤ 1) :
    Calls Try.prog 17 #[.pointer (some ⟨bm, 0, none⟩), .int .i64 f, .int .i64 d] w fun e w' => e = .returned (.int .i64 (s.share f d).1) ∧ RefAt w' bm (s.share f d).2 ∧ Upd (fun k => k = bm) w w' := by
  cases hu : s.used f with
  | false =>
    refine (rShare_no w bm f d s h hu).mono ?_
    rintro e w' ⟨rfl, rfl⟩
    simp only [Pl.share, hu]
    exact ⟨rfl, h, Upd.refl _ _⟩
  | true =>
    obtain ⟨h0, h1, _⟩ := (s.used_iff f).1 hu
    refine (rShare_yes w bm f d s h hu (hm _ (by omega)) d0 d1).mono ?_
    rintro e w' ⟨rfl, h1, h2⟩
    simp only [Pl.share, hu, if_true]
    exact ⟨trivial, h1, h2⟩

theorem rSet_any (w : World) (bm : Nat) (f i v : Int) (s : Pl) (h : RefAt w bm s) :
    Calls Try.prog 22 #[.pointer (some ⟨bm, 0, none⟩), .int .i64 f, .int .i64 i, .int .u8 v] w fun e w' => e = .returned (.int .i64 (s.set f i v).1) ∧ RefAt w' bm (s.set f i v).2 ∧ Upd (fun k => k = bm) w w' := by
  have hg := rGet_any w bm f i s h
  by_cases hi : i < 0 ∨ 15 < i
  · simp only [Pl.set, hi, if_true]
    have eg : s.get f i = (0, 1) := by simp only [Pl.get, hi, if_true]
    rw [eg] at hg
    simp only at hg
    go_enter Try.func22, Try.ntmps22
    go_wp2_with fail
    refine hg.mono ?_
    rintro e w' ⟨rfl, rfl⟩
    go_wp2_with fail
    go_ret
    exact ⟨rfl, h, Upd.refl _ _⟩
  · have i0 : 0 ≤ i := by omega
    have i1 : i ≤ 15 := by omega
    cases hu : s.used f with
    | false =>
      have eg : s.get f i = (0, 2) := by simp only [Pl.get, hi, hu, if_false, Bool.false_eq_true]
      rw [eg] at hg
      simp only [Pl.set, hi, hu, if_false, Bool.false_eq_true]
      simp only at hg
      clear hi
      go_enter Try.func22, Try.ntmps22
      go_wp2_with fail
      refine hg.mono ?_
      rintro e w' ⟨rfl, rfl⟩
      go_wp2_with fail
      go_ret
      exact ⟨rfl, h, Upd.refl _ _⟩
    | true =>
      have eg : s.get f i = (s.byt f.toNat i.toNat, 0) := by simp only [Pl.get, hi, hu, if_false, if_true]
      rw [eg] at hg
      simp only at hg
      obtain ⟨h0, h1, h2⟩ := (s.used_iff f).1 hu
      have hl := h.le
      have f2 : f < 64 := by omega
      have hk : f.toNat < s.n := by omega
      have c1 := h.refs f.toNat hk
      clear h2
      by_cases hr : 1 < s.refs f.toNat
      · simp only [Pl.set, hi, hu, hr, if_false, if_true]
        clear hi
        go_enter Try.func22, Try.ntmps22
        go_wp2_with fail
        refine hg.mono ?_
        rintro e w' ⟨rfl, rfl⟩
        go_wp2_with fail
        go_ret
        exact ⟨rfl, h, Upd.refl _ _⟩
      · simp only [Pl.set, hi, hu, hr, if_false, if_true]
        have c3 := h.byt f.toNat i.toNat hk (by omega)
        have c4 := h.fz (1 + f.toNat * 16 + i.toNat)
        have i2 : i < 16 := by omega
        clear hi
        go_enter Try.func22, Try.ntmps22
        go_wp2_with fail
        refine hg.mono ?_
        rintro e w' ⟨rfl, rfl⟩
        go_wp2_with fail
        go_ret
        exact ⟨rfl, h.setByte hk (by omega) v, Upd.one _ _ _ _⟩

theorem rLeft_any (w : World) (bm : Nat) (s : Pl) (h : RefAt w bm s) :
    Calls Try.prog 66 #[.pointer (some ⟨bm, 0, none⟩)] w fun e w' => e = .returned (.int .i64 s.left) ∧ w' = w := by
  have h1 := h.num
  have h2 := h.le
  go_enter Try.func66, Try.ntmps66
  go_wp2
  go_loop [3, 4] (fun t i => ∃ k : Nat, k ≤ s.n ∧ i = .int .i64 k ∧ t = .int .i64 (freeTo s.refs k)) (fun _ i => s.n - (intOf i).toNat)
  case atStart => exact ⟨0, Nat.zero_le _, rfl, rfl⟩
  case round =>
    obtain ⟨k, hk, rfl, rfl⟩ := hrel
    have hle := freeTo_le s.refs k
    by_cases hlt : k < s.n
    · have c1 := h.refs k hlt
      have i1 : (k : Int) < 64 := by omega
      have hs : freeTo s.refs (k + 1) = freeTo s.refs k + if s.refs k = 0 then 1 else 0 := rfl
      by_cases hr : s.refs k = 0
      · rw [if_pos hr] at hs
        have HS : Hid _ := hs
        have hr' : (s.refs k == 0) = true := by simp [hr]
        clear hs hr
        go_wp2
        go_round
        case rel => exact ⟨k + 1, by omega, by go_num, by rw [HS.out]; go_num⟩
        case measure => simp [intOf]; omega
      · rw [if_neg hr] at hs
        have HS : Hid _ := hs
        have hr' : (s.refs k == 0) = false := by simp [hr]
        clear hs hr
        go_wp2
        go_round
        case rel => exact ⟨k + 1, by omega, by go_num, by rw [HS.out]; go_num⟩
        case measure => simp [intOf]; omega
    · have : k = s.n := by omega
      subst this
      go_wp2
      go_ret
      exact ⟨rfl, rfl⟩

theorem rOf_any (w : World) (bm : Nat) (f : Int) (s : Pl) (h : RefAt w bm s) :
    Calls Try.prog 67 #[.pointer (some ⟨bm, 0, none⟩), .int .i64 f] w fun e w' => e = .returned (.tuple #[.agg #[.int .i64 (s.of f).1, .int .i64 (s.of f).2.1], .int .i64 (s.of f).2.2]) ∧ Upd (fun _ => False) w w' := by
  have h1 := h.num
  have hl := h.le
  have hb := World.block_lt_of_cell? w _ h.num
  by_cases h0 : f < 0
  · have e : s.of f = (0, 0, 1) := by unfold Pl.of; rw [if_neg (by omega)]
    rw [e]
    have hd : decide (f < 0) = true := by simp; omega
    go_enter Try.func67, Try.ntmps67
    go_wp2
    exact bodyPost_ret (v := .tuple #[.agg #[.int .i64 0, .int .i64 0], .int .i64 1]) (by simp [results, Try.results67, go_sem]) rfl ⟨rfl, (Upd.refl _ _).alloc _⟩
  · have hd : decide (f < 0) = false := by simp; omega
    by_cases h2 : f < s.n
    · obtain ⟨k, rfl⟩ := Int.eq_ofNat_of_zero_le (show 0 ≤ f by omega)
      have e : s.of k = (classOf (s.refs k), s.refs k, 0) := by unfold Pl.of; rw [if_pos (by omega), Int.toNat_natCast]
      rw [e]
      have hk : k < s.n := by omega
      have c1 := h.refs k (by omega)
      have c2 := h.nn k (by omega)
      have i1 : (k : Int) < 64 := by omega
      clear h0 h2
      by_cases r0 : s.refs k = 0
      · have ec : classOf (s.refs k) = 0 := by simp [classOf, r0]
        rw [ec, r0]
        rw [r0] at c1
        clear ec r0 c2
        go_enter Try.func67, Try.ntmps67
        go_wp2
        exact bodyPost_ret (v := .tuple #[.agg #[.int .i64 0, .int .i64 0], .int .i64 0]) (by simp [results, Try.results67, go_sem]) rfl ⟨rfl, (Upd.refl _ _).alloc _⟩
      · by_cases r1 : s.refs k = 1
        · have ec : classOf (s.refs k) = 1 := by simp [classOf, r1]
          rw [ec, r1]
          rw [r1] at c1
          clear ec r0 r1 c2
          go_enter Try.func67, Try.ntmps67
          go_wp2
          exact bodyPost_ret (v := .tuple #[.agg #[.int .i64 1, .int .i64 1], .int .i64 0]) (by simp [results, Try.results67, go_sem]) rfl ⟨rfl, (Upd.refl _ _).alloc _⟩
        · have ec : classOf (s.refs k) = 2 := by simp [classOf, r0, r1]
          rw [ec]
          have b1 : (s.refs k == 1) = false := by simp [r1]
          have b2 : 1 < s.refs k := by omega
          clear ec r0 r1 c2
          go_enter Try.func67, Try.ntmps67
          go_wp2
          exact bodyPost_ret (v := .tuple #[.agg #[.int .i64 2, .int .i64 (s.refs k)], .int .i64 0]) (by simp [results, Try.results67, go_sem]) rfl ⟨rfl, (Upd.refl _ _).alloc _⟩
    · have e : s.of f = (0, 0, 1) := by unfold Pl.of; rw [if_neg (by omega)]
      rw [e]
      have hd2 : decide ((s.n : Int) ≤ f) = true := by simp; omega
      go_enter Try.func67, Try.ntmps67
      go_wp2
      exact bodyPost_ret (v := .tuple #[.agg #[.int .i64 0, .int .i64 0], .int .i64 1]) (by simp [results, Try.results67, go_sem]) rfl ⟨rfl, (Upd.refl _ _).alloc _⟩
end Go.Proofs.Ytadpibcgjgcjhaa
/- Take, Same, Sum and Fill of the document's answer; Same, Sum and Fill of package frames. -/
namespace Go.Proofs.Ytadpibcgjgcjhaa
open Go.ChangeShapes Go.WideShapes Go.ChangeAt Go.RowKit
set_option maxRecDepth 100000

theorem zeroRow_eq : (rowOf fun _ => 0).toArray = #[.int .u8 0, .int .u8 0, .int .u8 0, .int .u8 0, .int .u8 0, .int .u8 0, .int .u8 0, .int .u8 0, .int .u8 0, .int .u8 0, .int .u8 0, .int .u8 0, .int .u8 0, .int .u8 0, .int .u8 0, .int .u8 0] := rfl
theorem info32 : (Try.prog.info? 32).map (·.size) = some 16 := by kernel_rfl
theorem wpList_zeroRow {ops : Array Oper} {rest : List Oper} {op : Oper} {a : Act} {w : World} {Q : Exit → Act → World → Prop} (hgd : op.guard = none) (x y : Operand) (ho : op.op = .store 32 x y)
    (b o : Nat) (hx : a.eval x = .pointer (some ⟨b, o, none⟩)) (hy : a.eval y = .agg #[.int .u8 0, .int .u8 0, .int .u8 0, .int .u8 0, .int .u8 0, .int .u8 0, .int .u8 0, .int .u8 0, .int .u8 0, .int .u8 0, .int .u8 0, .int .u8 0, .int .u8 0, .int .u8 0, .int .u8 0, .int .u8 0])
    (ht : w.there b o 16) (h : wpList Try.prog ops Q rest (a.put op.dst undef) (w.setCells b o (rowOf fun _ => 0))) : wpList Try.prog ops Q (op :: rest) a w :=
  wpList_store_mid hgd 32 x y ho b o (rowOf fun _ => 0).toArray hx (by rw [zeroRow_eq]; exact hy) ht info32 (all_oneCell_toArray (rowOf_one _)) h

theorem rTake_full (w : World) (bm : Nat) (s : Pl) (h : RefAt w bm s) (hr : ∀ i, i < s.n → s.refs i ≠ 0) :
    Calls Try.prog 15 #[.pointer (some ⟨bm, 0, none⟩)] w fun e w' => e = .returned (.tuple #[.int .i64 0, .int .i64 3]) ∧ w' = w := by
  have h1 := h.num
  have h2 := h.le
  have HR : Hid _ := hr
  clear hr
  go_enter Try.func15, Try.ntmps15
  go_wp2
  go_loop [4] (fun i => ∃ k : Nat, k ≤ s.n ∧ i = .int .i64 k) (fun i => s.n - (intOf i).toNat)
  case atStart => exact ⟨0, Nat.zero_le _, rfl⟩
  case round =>
    obtain ⟨k, hk, rfl⟩ := hrel
    by_cases hlt : k < s.n
    · have c1 := h.refs k hlt
      have i1 : (k : Int) < 64 := by omega
      have c2 : (s.refs k == 0) = false := by simp [HR.out k hlt]
      go_wp2
      go_round
      case rel => exact ⟨k + 1, by omega, by go_num⟩
      case measure => simp [intOf]; omega
    · go_wp2
      go_ret2
      exact ⟨rfl, rfl⟩
theorem rTake_at (w : World) (bm j : Nat) (s : Pl) (h : RefAt w bm s) (hj : j < s.n) (h0 : s.refs j = 0) (hr : ∀ i, i < j → s.refs i ≠ 0) :
    Calls Try.prog 15 #[.pointer (some ⟨bm, 0, none⟩)] w fun e w' => e = .returned (.tuple #[.int .i64 j, .int .i64 0]) ∧ w' = (w.setCell ⟨bm, 1025 + j, none⟩ (.int .i64 1)).setCells bm (1 + j * 16) (rowOf fun _ => 0) := by
  have h1 := h.num
  have h2 := h.le
  have HR : Hid _ := hr
  have H0 : Hid _ := h0
  clear hr h0
  go_enter Try.func15, Try.ntmps15
  go_wp2
  go_loop [4] (fun i => ∃ k : Nat, k ≤ j ∧ i = .int .i64 k) (fun i => s.n - (intOf i).toNat)
  case atStart => exact ⟨0, Nat.zero_le _, rfl⟩
  case round =>
    obtain ⟨k, hk, rfl⟩ := hrel
    have hlt : k < s.n := by omega
    have c1 := h.refs k hlt
    have i1 : (k : Int) < 64 := by omega
    by_cases hkj : k < j
    · have c2 : (s.refs k == 0) = false := by simp [HR.out k hkj]
      go_wp2
      go_round
      case rel => exact ⟨k + 1, by omega, by go_num⟩
      case measure => simp [intOf]; omega
    · have e : k = j := by omega
      subst e
      have c2 : (s.refs k == 0) = true := by simp [H0.out]
      have c3 := h.fz (1025 + k)
      have ht := (h.setRef (v := 1) hlt (by omega)).there (f := k) hlt
      go_wp2_with (refine wpList_zeroRow (by rfl) _ _ (by rfl) bm (1 + k * 16) (by rfl) (by rfl) ht ?_)
      go_ret2
      exact ⟨rfl, rfl⟩
theorem rTake_any (w : World) (bm : Nat) (s : Pl) (h : RefAt w bm s) :
    Calls Try.prog 15 #[.pointer (some ⟨bm, 0, none⟩)] w fun e w' => e = .returned (.tuple #[.int .i64 s.take.1, .int .i64 s.take.2.1]) ∧ RefAt w' bm s.take.2.2 ∧ Upd (fun k => k = bm) w w' := by
  have hs := firstFrom_spec s.refs s.n 0
  unfold Pl.take
  revert hs
  cases firstFrom s.refs 0 s.n with
  | none =>
    intro hs
    refine (rTake_full w bm s h (fun i hi => hs i (by omega) (by omega))).mono ?_
    rintro e w' ⟨rfl, rfl⟩
    exact ⟨rfl, h, Upd.refl _ _⟩
  | some j =>
    rintro ⟨_, h2, h3, h4⟩
    refine (rTake_at w bm j s h (by omega) h3 (fun i hi => h4 i (by omega) hi)).mono ?_
    rintro e w' ⟨rfl, rfl⟩
    refine ⟨rfl, ?_, (Upd.one _ _ _ _).trans (Upd.row _ _ _ _) (fun _ _ e => e)⟩
    exact (h.setRef (f := j) (v := 1) (by omega) (by omega)).setRow (f := j) (by show j < s.n; omega) (fun _ => 0)

/-- The first k bytes are alike. -/
def sameTo (g h : Nat → Int) (k : Nat) : Bool := (List.range k).all fun i => g i == h i
theorem sameTo_succ (g h : Nat → Int) (k : Nat) : sameTo g h (k + 1) = (sameTo g h k && (g k == h k)) := by simp [sameTo, List.range_succ, List.all_append]

theorem ret_bool {a b : Bool} (h : a = b) : Ending.returned (.bool a) = .returned (.bool b) := by rw [h]
theorem rSame_no (w : World) (bm : Nat) (f g : Int) (s : Pl) (h : RefAt w bm s) (hu : (s.used f && s.used g) = false) :
    Calls Try.prog 26 #[.pointer (some ⟨bm, 0, none⟩), .int .i64 f, .int .i64 g] w fun e w' => e = .returned (.bool false) ∧ w' = w := by
  cases hf : s.used f with
  | false =>
    go_enter Try.func26, Try.ntmps26
    go_wp2_with fail
    refine (rUsed_is _ _ _ _ h hf).mono ?_
    rintro e w' ⟨rfl, rfl⟩
    go_wp2_with fail
    refine (rUsed_any _ _ _ _ h).mono ?_
    rintro e w' ⟨rfl, rfl⟩
    go_wp2_with fail
    go_ret
    exact ⟨rfl, rfl⟩
  | true =>
    have hg : s.used g = false := by simpa [hf] using hu
    go_enter Try.func26, Try.ntmps26
    go_wp2_with fail
    refine (rUsed_is _ _ _ _ h hf).mono ?_
    rintro e w' ⟨rfl, rfl⟩
    go_wp2_with fail
    refine (rUsed_is _ _ _ _ h hg).mono ?_
    rintro e w' ⟨rfl, rfl⟩
    go_wp2_with fail
    go_ret
    exact ⟨rfl, rfl⟩
theorem rSame_yes (w : World) (bm : Nat) (f g : Int) (s : Pl) (h : RefAt w bm s) (hf : s.used f = true) (hg : s.used g = true) :
    Calls Try.prog 26 #[.pointer (some ⟨bm, 0, none⟩), .int .i64 f, .int .i64 g] w fun e w' => e = .returned (.bool (sameTo (s.byt f.toNat) (s.byt g.toNat) 16)) ∧ ∃ m, w' = w.drewN m := by
  obtain ⟨f0, f1, _⟩ := (s.used_iff f).1 hf
  obtain ⟨g0, g1, _⟩ := (s.used_iff g).1 hg
  have hl := h.le
  have f2 : f < 64 := by omega
  have g2 : g < 64 := by omega
  go_enter Try.func26, Try.ntmps26
  go_wp2_with fail
  refine (rUsed_is _ _ _ _ h hf).mono ?_
  rintro e w' ⟨rfl, rfl⟩
  go_wp2_with fail
  refine (rUsed_is _ _ _ _ h hg).mono ?_
  rintro e w' ⟨rfl, rfl⟩
  go_wp2_with fail
  go_loopw [9] (fun i wr => ∃ k : Nat, k ≤ 16 ∧ i = .int .i64 k ∧ sameTo (s.byt f.toNat) (s.byt g.toNat) k = true ∧ ∃ m, wr = w'.drewN m) (fun i _ => 16 - (intOf i).toNat)
  case atStart => exact ⟨0, Nat.zero_le _, rfl, rfl, 0, rfl⟩
  case round =>
    obtain ⟨k, hk, rfl, hs, m, rfl⟩ := hrel
    have HS : Hid _ := hs
    clear hs
    by_cases hlt : k < 16
    · have c1 := h.byt f.toNat k (by omega) hlt
      have c2 := h.byt g.toNat k (by omega) hlt
      have k1 : (k : Int) < 16 := by omega
      by_cases hb : s.byt f.toNat k = s.byt g.toNat k
      · have hb' : (s.byt f.toNat k != s.byt g.toNat k) = false := by simp [hb]
        have HB : Hid _ := hb
        clear hb
        go_wp2
        go_quiet (fail)
        go_wp2
        go_roundw
        case rel => exact ⟨k + 1, by omega, by go_num, by rw [sameTo_succ, HS.out]; simp [HB.out], m + nq, rfl⟩
        case measure => simp [intOf]; omega
      · have hb' : (s.byt f.toNat k != s.byt g.toNat k) = true := by simp [hb]
        have hno : sameTo (s.byt f.toNat) (s.byt g.toNat) 16 = false := by
          simp only [sameTo, List.all_eq_false]
          exact ⟨k, by simp; omega, by simp [hb]⟩
        have HN : Hid _ := hno
        clear hb hno
        go_wp2
        go_quiet (fail)
        go_wp2
        go_ret
        exact ⟨ret_bool HN.out.symm, m + nq, by simp⟩
    · have e : k = 16 := by omega
      subst e
      go_wp2
      go_ret
      exact ⟨ret_bool HS.out.symm, m, rfl⟩
theorem rSame_any (w : World) (bm : Nat) (f g : Int) (s : Pl) (h : RefAt w bm s) :
    Calls Try.prog 26 #[.pointer (some ⟨bm, 0, none⟩), .int .i64 f, .int .i64 g] w fun e w' => e = .returned (.bool (s.same f g)) ∧ ∃ m, w' = w.drewN m := by
  cases hu : (s.used f && s.used g) with
  | false =>
    have e : s.same f g = false := by simp only [Pl.same, hu, Bool.false_and]
    rw [e]
    refine (rSame_no w bm f g s h hu).mono ?_
    rintro e w' ⟨rfl, rfl⟩
    exact ⟨rfl, 0, rfl⟩
  | true =>
    have e : s.same f g = sameTo (s.byt f.toNat) (s.byt g.toNat) 16 := by simp only [Pl.same, hu, Bool.true_and, sameTo]
    rw [e]
    simp only [Bool.and_eq_true] at hu
    exact rSame_yes w bm f g s h hu.1 hu.2
end Go.Proofs.Ytadpibcgjgcjhaa
/- Sum and Fill of the document's answer and of package frames; Same of package frames. -/
namespace Go.Proofs.Ytadpibcgjgcjhaa
open Go.ChangeShapes Go.WideShapes Go.ChangeAt Go.RowKit
set_option maxRecDepth 100000

/-- The sum of the first k bytes. -/
def sumTo (g : Nat → Int) : Nat → Int
  | 0 => 2166136261
  | k + 1 => bits .xor .u32 (sumTo g k) (g k % 4294967296) * 16777619 % 4294967296
theorem sumTo_succ (g : Nat → Int) (k : Nat) : sumTo g (k + 1) = bits .xor .u32 (sumTo g k) (g k % 4294967296) * 16777619 % 4294967296 := rfl
theorem u32_eq {a b : Int} (h : a = b) : Value.int .u32 a = .int .u32 b := by rw [h]
def Pl.sum (s : Pl) (f : Int) : Int × Int := if s.used f then (sumTo (s.byt f.toNat) 16, 0) else (0, 2)
theorem index_row (g : Nat → Int) (k : Nat) (hk : k < 16) (w : World) : (Instr.index 32 (.agg (rowOf g).toArray) (.int .i64 k)).run Try.prog w = .ok (.int .u8 (g k)) w := by
  rcases k with _ | _ | _ | _ | _ | _ | _ | _ | _ | _ | _ | _ | _ | _ | _ | _ | k
  · kernel_rfl
  · kernel_rfl
  · kernel_rfl
  · kernel_rfl
  · kernel_rfl
  · kernel_rfl
  · kernel_rfl
  · kernel_rfl
  · kernel_rfl
  · kernel_rfl
  · kernel_rfl
  · kernel_rfl
  · kernel_rfl
  · kernel_rfl
  · kernel_rfl
  · kernel_rfl
  · omega
theorem ret_sum {a b : Int} {v : Value} (h : a = b) : Ending.returned (.tuple #[.int .u32 a, v]) = .returned (.tuple #[.int .u32 b, v]) := by rw [h]

theorem fill_from (w : World) (bp bf : Nat) (f g : Int) (s : Pl) (h : PoolAt w bp bf s) (hg : s.used g = false) :
    Calls Try.prog 23 #[.pointer (some ⟨bp, 0, none⟩), .int .i64 f, .int .i64 g] w fun e w' => e = .returned (.iface 110 (.int .i64 2)) ∧ w' = w := by
  go_enter Try.func23, Try.ntmps23
  go_wp2_with (go_at_call 61; refine (used_none _ _ _ _ _ h hg).mono ?_; rintro e w' ⟨rfl, rfl⟩)
  go_ret
  exact ⟨rfl, rfl⟩
theorem fill_none (w : World) (bp bf : Nat) (f g : Int) (s : Pl) (h : PoolAt w bp bf s) (hg : s.used g = true) (hf : s.used f = false) :
    Calls Try.prog 23 #[.pointer (some ⟨bp, 0, none⟩), .int .i64 f, .int .i64 g] w fun e w' => e = .returned (.iface 110 (.int .i64 2)) ∧ w' = w := by
  go_enter Try.func23, Try.ntmps23
  go_wp2_with (first | (go_at_call 61; refine (used_some _ _ _ _ _ h hg).mono ?_; rintro e w' ⟨rfl, rfl⟩) | (go_at_call 64; refine (alone_none _ _ _ _ _ h hf).mono ?_; rintro e w' ⟨rfl, rfl⟩))
  go_ret
  exact ⟨rfl, rfl⟩
theorem fill_held (w : World) (bp bf : Nat) (f g : Int) (s : Pl) (h : PoolAt w bp bf s) (hg : s.used g = true) (hf : s.used f = true) (hr : 1 < s.refs f.toNat) :
    Calls Try.prog 23 #[.pointer (some ⟨bp, 0, none⟩), .int .i64 f, .int .i64 g] w fun e w' => e = .returned (.iface 110 (.int .i64 4)) ∧ w' = w := by
  go_enter Try.func23, Try.ntmps23
  go_wp2_with (first | (go_at_call 61; refine (used_some _ _ _ _ _ h hg).mono ?_; rintro e w' ⟨rfl, rfl⟩) | (go_at_call 64; refine (alone_held _ _ _ _ _ h hf hr).mono ?_; rintro e w' ⟨rfl, rfl⟩))
  go_ret
  exact ⟨rfl, rfl⟩
theorem wpList_storeRow {ops : Array Oper} {rest : List Oper} {op : Oper} {a : Act} {w : World} {Q : Exit → Act → World → Prop} (hgd : op.guard = none) (x y : Operand) (ho : op.op = .store 32 x y)
    (b o : Nat) (g : Nat → Int) (hx : a.eval x = .pointer (some ⟨b, o, none⟩)) (hy : a.eval y = .agg (rowOf g).toArray)
    (ht : w.there b o 16) (h : wpList Try.prog ops Q rest (a.put op.dst undef) (w.setCells b o (rowOf g))) : wpList Try.prog ops Q (op :: rest) a w :=
  wpList_store_mid hgd 32 x y ho b o (rowOf g).toArray hx hy (by simpa [rowOf_length] using ht) (by simpa [rowOf_length] using info32) (all_oneCell_toArray (rowOf_one _)) h
theorem fill_yes (w : World) (bp bf : Nat) (f g : Int) (s : Pl) (h : PoolAt w bp bf s) (hg : s.used g = true) (hf : s.used f = true) (hr : s.refs f.toNat ≤ 1) :
    Calls Try.prog 23 #[.pointer (some ⟨bp, 0, none⟩), .int .i64 f, .int .i64 g] w fun e w' => e = .returned .nilIface ∧ w' = w.setCells bf (f.toNat * 17 + 1) (rowOf (s.byt g.toNat)) := by
  obtain ⟨f0, f1, _⟩ := (s.used_iff f).1 hf
  obtain ⟨g0, g1, _⟩ := (s.used_iff g).1 hg
  have hrg := h.range (f := g.toNat) (by omega)
  have ht := h.there (f := f.toNat) (by omega)
  go_enter Try.func23, Try.ntmps23
  go_wp2_with (first | (go_at_call 61; refine (used_some _ _ _ _ _ h hg).mono ?_; rintro e w' ⟨rfl, rfl⟩) | (go_at_call 64; refine (alone_yes _ _ _ _ _ h hf hr).mono ?_; rintro e w' ⟨rfl, rfl⟩) | (refine wpList_load_mid (by rfl) 32 _ (by rfl) bf (g.toNat * 17 + 1) (by rfl) (rowOf (s.byt g.toNat)) _ hrg Try.underlying32 (by rfl) (by rw [rowOf_length]; exact info32) ?_) | (refine wpList_storeRow (by rfl) _ _ (by rfl) bf (f.toNat * 17 + 1) (s.byt g.toNat) (by rfl) (by rfl) ht ?_))
  go_ret
  exact ⟨rfl, rfl⟩
theorem fill_any (w : World) (bp bf : Nat) (f g : Int) (s : Pl) (h : PoolAt w bp bf s) :
    Calls Try.prog 23 #[.pointer (some ⟨bp, 0, none⟩), .int .i64 f, .int .i64 g] w fun e w' => e = .returned (errV (s.fill f g).1) ∧ PoolAt w' bp bf (s.fill f g).2 ∧ Upd (fun k => k = bf) w w' := by
  cases hg : s.used g with
  | false =>
    refine (fill_from w bp bf f g s h hg).mono ?_
    rintro e w' ⟨rfl, rfl⟩
    simp only [Pl.fill, hg, Bool.and_false, Bool.false_eq_true, if_false]
    exact ⟨by rw [errV2], h, Upd.refl _ _⟩
  | true =>
    cases hf : s.used f with
    | false =>
      refine (fill_none w bp bf f g s h hg hf).mono ?_
      rintro e w' ⟨rfl, rfl⟩
      simp only [Pl.fill, hf, Bool.false_and, Bool.false_eq_true, if_false]
      exact ⟨by rw [errV2], h, Upd.refl _ _⟩
    | true =>
      obtain ⟨f0, f1, _⟩ := (s.used_iff f).1 hf
      by_cases hr : 1 < s.refs f.toNat
      · refine (fill_held w bp bf f g s h hg hf hr).mono ?_
        rintro e w' ⟨rfl, rfl⟩
        simp only [Pl.fill, hf, hg, Bool.and_true, if_true, hr]
        exact ⟨by rw [errV4], h, Upd.refl _ _⟩
      · refine (fill_yes w bp bf f g s h hg hf (by omega)).mono ?_
        rintro e w' ⟨rfl, rfl⟩
        simp only [Pl.fill, hf, hg, Bool.and_true, if_true, hr, if_false]
        exact ⟨by rw [errV_zero], h.setRow (by omega) _, Upd.row _ _ _ _⟩
end Go.Proofs.Ytadpibcgjgcjhaa
/- '==' on two frames' bytes: as the bytes are. -/
namespace Go.Proofs.Ytadpibcgjgcjhaa
open Go.ChangeShapes Go.WideShapes Go.ChangeAt Go.RowKit
set_option maxRecDepth 100000
theorem size5 (w : World) : (sizeOf 5).run Try.prog w = .ok 1 w := by kernel_rfl
theorem isAgg5 (w : World) : (isAgg 5).run Try.prog w = .ok false w := by kernel_rfl
theorem part_row (g : Nat → Int) (i : Nat) (hi : i < 16) (w : World) : (part 5 (rowOf g).toArray (i * 1)).run Try.prog w = .ok (.int .u8 (g i)) w := by
  unfold part
  rw [Sem.run_bind, isAgg5]
  simp [rowOf_get g i hi]
theorem eq_loop (d : Nat) (g h : Nat → Int) (w : World) : ∀ l : List Nat, (∀ i ∈ l, i < 16) →
    (forIn l ((none, ()) : Option Bool × Unit) fun i (_ : Option Bool × Unit) => do
            let a ← part 5 (rowOf g).toArray (i * 1)
            let b ← part 5 (rowOf h).toArray (i * 1)
            let r ← Op.equalIn (d + 1) 5 a b
            if (!r) = true then pure (ForInStep.done (some false, ())) else pure (ForInStep.yield (none, ()))).run Try.prog w =
      .ok (if l.all (fun i => g i == h i) then (none, ()) else (some false, ())) w
  | [], _ => by simp
  | i :: l, hl => by
    have hi := hl i (by simp)
    rw [List.forIn_cons]
    simp only [Sem.run_bind, part_row g i hi, part_row h i hi, Result.andThen_ok, run_equalIn_int w d 5 .u8 .u8 _ _ Try.underlying5]
    cases he : (g i == h i) with
    | false => simp [he]
    | true =>
      have := eq_loop d g h w l (fun j hj => hl j (by simp [hj]))
      simp only [Bool.not_true, Bool.false_eq_true, if_false, Sem.run_pure, Result.andThen_ok]
      rw [this]
      simp [he]
theorem equalIn_rows (d : Nat) (g h : Nat → Int) (w : World) : (Op.equalIn (d + 2) 32 (.agg (rowOf g).toArray) (.agg (rowOf h).toArray)).run Try.prog w = .ok (sameTo g h 16) w := by
  rw [Op.equalIn, Sem.run_bind, run_underlying Try.underlying32 w]
  simp only [Result.andThen_ok, Sem.run_bind, size5, Std.Legacy.Range.forIn_eq_forIn_range']
  rw [eq_loop d g h w _ (by intro i hi; simp [Std.Legacy.Range.size] at hi; omega)]
  have e : (List.range' (0 : Nat) 16).all (fun i => g i == h i) = sameTo g h 16 := by simp [sameTo, List.range_eq_range']
  have e2 : (List.range' 0 ([:16] : Std.Legacy.Range).size 1) = List.range' 0 16 := by simp [Std.Legacy.Range.size]
  simp only [e2, e]
  cases sameTo g h 16 <;> simp
theorem eql_rows (g h : Nat → Int) (w : World) : (binOp .eql 32 (.agg (rowOf g).toArray) (.agg (rowOf h).toArray)).run Try.prog w = .ok (.bool (sameTo g h 16)) w := by
  simp only [binOp]
  simp [Op.equal, Op.maxDepth, equalIn_rows 9998 g h w]
end Go.Proofs.Ytadpibcgjgcjhaa
/- Same of package frames. -/
namespace Go.Proofs.Ytadpibcgjgcjhaa
open Go.ChangeShapes Go.WideShapes Go.ChangeAt Go.RowKit
set_option maxRecDepth 100000
attribute [local go_sem ↓] Go.wp_at_zero Go.wp_at_succ

/-- A whole row is read in a region that draws its order, the quiet walk's step. -/
theorem wpQuiet_loadRow {ops : Array Oper} {C : World → Prop} {Q : Act → Prop} {a : Act} {o : Oper} {rest : List Oper} (hw : Region.wanted o (yielded ops a.tmps) = true) (x : Operand) (ho : o.op = .load 32 x)
    (b off : Nat) (hx : a.eval x = .pointer (some ⟨b, off, none⟩)) (cs : List Value) (hc : ∀ w, C w → w.rangeAt b off cs) (hi : (Try.prog.info? 32).map (·.size) = some cs.length)
    (h : wpQuiet Try.prog ops C Q rest (a.put o.dst (.agg cs.toArray))) : wpQuiet Try.prog ops C Q (o :: rest) a := by
  unfold wpQuiet
  rw [if_pos hw]
  refine ⟨.agg cs.toArray, fun w hC => ?_, h⟩
  unfold Oper.quietAt execOp
  simp only [ho, hx, Instr.loadAt, Instr.sureAddr, Sem.run_bind, Sem.run_pure, Result.andThen_ok, run_loadVar_mid w b off 32 cs _ (hc w hC) Try.underlying32 rfl hi]
  exact ⟨rfl, rfl⟩
theorem same_no (w : World) (bp bf : Nat) (f g : Int) (s : Pl) (h : PoolAt w bp bf s) (hu : (s.used f && s.used g) = false) :
    Calls Try.prog 25 #[.pointer (some ⟨bp, 0, none⟩), .int .i64 f, .int .i64 g] w fun e w' => e = .returned (.bool false) ∧ ∃ m, w' = w.drewN m := by
  cases hf : s.used f with
  | false =>
    go_enter Try.func25, Try.ntmps25
    go_wp2_with fail
    refine (used_none _ _ _ _ _ h hf).mono ?_
    rintro e w' ⟨rfl, rfl⟩
    go_wp2_with fail
    refine (used_any _ _ _ _ _ h).mono ?_
    rintro e w' ⟨rfl, rfl⟩
    generalize (if s.used g then some (⟨bf, g.toNat * 17, none⟩ : Addr) else none) = pg
    go_wp2_with fail
    go_quiet (fail)
    go_wp2_with fail
    go_ret
    exact ⟨rfl, _, rfl⟩
  | true =>
    have hg : s.used g = false := by simpa [hf] using hu
    go_enter Try.func25, Try.ntmps25
    go_wp2_with fail
    refine (used_some _ _ _ _ _ h hf).mono ?_
    rintro e w' ⟨rfl, rfl⟩
    go_wp2_with fail
    refine (used_none _ _ _ _ _ h hg).mono ?_
    rintro e w' ⟨rfl, rfl⟩
    go_wp2_with fail
    go_quiet (fail)
    go_wp2_with fail
    go_ret
    exact ⟨rfl, _, rfl⟩
theorem same_yes (w : World) (bp bf : Nat) (f g : Int) (s : Pl) (h : PoolAt w bp bf s) (hf : s.used f = true) (hg : s.used g = true) :
    Calls Try.prog 25 #[.pointer (some ⟨bp, 0, none⟩), .int .i64 f, .int .i64 g] w fun e w' => e = .returned (.bool (sameTo (s.byt f.toNat) (s.byt g.toNat) 16)) ∧ ∃ m, w' = w.drewN m := by
  obtain ⟨f0, f1, _⟩ := (s.used_iff f).1 hf
  obtain ⟨g0, g1, _⟩ := (s.used_iff g).1 hg
  have hrf := h.range (f := f.toNat) (by omega)
  have hrg := h.range (f := g.toNat) (by omega)
  have e1 := rowOf_length (s.byt f.toNat)
  have e2 := rowOf_length (s.byt g.toNat)
  have he := eql_rows (s.byt f.toNat) (s.byt g.toNat)
  revert hrf hrg e1 e2 he
  generalize rowOf (s.byt f.toNat) = c1
  generalize rowOf (s.byt g.toNat) = c2
  generalize sameTo (s.byt f.toNat) (s.byt g.toNat) 16 = r
  intro hrf hrg e1 e2 he
  have i1 : (Try.prog.info? 32).map (·.size) = some c1.length := by rw [e1]; exact info32
  have i2 : (Try.prog.info? 32).map (·.size) = some c2.length := by rw [e2]; exact info32
  go_enter Try.func25, Try.ntmps25
  go_wp2_with fail
  refine (used_some _ _ _ _ _ h hf).mono ?_
  rintro e w' ⟨rfl, rfl⟩
  go_wp2_with fail
  refine (used_some _ _ _ _ _ h hg).mono ?_
  rintro e w' ⟨rfl, rfl⟩
  go_wp2_with fail
  refine wp_region_quiet_lit (by kernel_rfl) (by kernel_rfl) ?_
  repeat (first
    | (refine wpQuiet_loadRow (by rfl) _ (by rfl) bf (f.toNat * 17 + 1) (by rfl) c1 (by rintro _ ⟨n, rfl⟩; exact hrf) i1 ?_; simp only [Act.put, List.setIfInBounds_toArray, List.set_cons_zero, List.set_cons_succ])
    | (refine wpQuiet_loadRow (by rfl) _ (by rfl) bf (g.toNat * 17 + 1) (by rfl) c2 (by rintro _ ⟨n, rfl⟩; exact hrg) i2 ?_; simp only [Act.put, List.setIfInBounds_toArray, List.set_cons_zero, List.set_cons_succ])
    | go_big_quiet_step (fail))
  refine wpQuiet_nil ?_
  intro _ hw'
  obtain ⟨nq, hw''⟩ := hw'
  subst hw''
  go_wp2_with fail
  go_ret
  exact ⟨rfl, _, rfl⟩
theorem same_any (w : World) (bp bf : Nat) (f g : Int) (s : Pl) (h : PoolAt w bp bf s) :
    Calls Try.prog 25 #[.pointer (some ⟨bp, 0, none⟩), .int .i64 f, .int .i64 g] w fun e w' => e = .returned (.bool (s.same f g)) ∧ ∃ m, w' = w.drewN m := by
  cases hu : (s.used f && s.used g) with
  | false =>
    have e : s.same f g = false := by simp only [Pl.same, hu, Bool.false_and]
    rw [e]
    exact same_no w bp bf f g s h hu
  | true =>
    have e : s.same f g = sameTo (s.byt f.toNat) (s.byt g.toNat) 16 := by simp only [Pl.same, hu, Bool.true_and, sameTo]
    rw [e]
    simp only [Bool.and_eq_true] at hu
    exact same_yes w bp bf f g s h hu.1 hu.2
end Go.Proofs.Ytadpibcgjgcjhaa
/- Copy of package frames, with slices.Clone beneath it. -/
namespace Go.Proofs.Ytadpibcgjgcjhaa
open Go.ChangeShapes Go.WideShapes Go.ChangeAt Go.RowKit
set_option maxRecDepth 100000

/-- Cell number i of the frames' block. -/
def poolCell (s : Pl) (i : Nat) : Value := if i % 17 = 0 then .int .i64 (s.refs (i / 17)) else .int .u8 (s.byt (i / 17) (i % 17 - 1))
theorem PoolAt.cellAt {w : World} {bp bf : Nat} {s : Pl} (h : PoolAt w bp bf s) {i : Nat} (hi : i < s.n * 17) : w.cell? ⟨bf, i, none⟩ = some (poolCell s i) := by
  unfold poolCell
  split
  · have := h.refs (i / 17) (by omega)
    rw [show i / 17 * 17 = i by omega] at this
    exact this
  · have := h.byt (i / 17) (i % 17 - 1) (by omega) (by omega)
    rw [show i / 17 * 17 + 1 + (i % 17 - 1) = i by omega] at this
    exact this
def poolCells (s : Pl) : List Value := (List.range (s.n * 17)).map (poolCell s)
theorem poolCells_length (s : Pl) : (poolCells s).length = s.n * 17 := by simp [poolCells]
theorem poolCells_get (s : Pl) (i : Nat) (hi : i < s.n * 17) : (poolCells s)[i]? = some (poolCell s i) := by simp [poolCells, hi]
theorem poolCells_one (s : Pl) : ∀ v ∈ poolCells s, v.oneCell' = true := by
  intro v hv
  simp only [poolCells, List.mem_map] at hv
  obtain ⟨i, _, rfl⟩ := hv
  unfold poolCell
  split <;> rfl

set_option maxHeartbeats 400000 in
theorem clone_walk (w : World) (bp bf cap : Nat) (s : Pl) (h : PoolAt w bp bf s) (hn : 0 < s.n) :
    Calls Try.prog 65 #[.slice (some ⟨bf, 0, none⟩) s.n cap] w fun e w' => ∃ g cap', e = .returned (.slice (some ⟨g, 0, none⟩) s.n cap') ∧ w'.ownsRow w.heap.size 117 17 (.slice (some ⟨g, 0, none⟩) s.n cap') s.n (poolCells s) ∧ Upd (fun _ => False) w w' := by
  have hl := h.le
  have hq : (binOp .eql 111 (.slice (some ⟨bf, 0, none⟩) s.n cap) (.slice none 0 0)).run Try.prog w = .ok (.bool false) w := Lib.run_eql_slice_nil w 111 117 _ _ _ _ _ Try.underlying111
  obtain ⟨i, hi, he⟩ := Option.map_eq_some_iff.1 info68
  simp only [Prod.mk.injEq] at he
  obtain ⟨he1, he2, he3⟩ := he
  have hb : bf < w.heap.size := World.block_lt_of_cell? w _ (h.refs 0 hn)
  have hown : (w.alloc (.cells #[] 117)).ownsRow w.heap.size 117 17 (.slice (some ⟨w.heap.size, 0, none⟩) 0 0) 0 [] :=
    ⟨rfl, Or.inr ⟨w.heap.size, 0, #[], rfl, Nat.le_refl _, by show (w.heap.push _)[w.heap.size]? = _; simp, Nat.le_refl _, by unfold maxLen; omega, rfl, rfl⟩⟩
  have hnews : ∀ j u, (poolCells s)[j]? = some u → (w.alloc (.cells #[] 117)).cell? ((⟨bf, 0, none⟩ : Addr).add j) = some u := by
    intro j u hu
    have hj : j < s.n * 17 := by have := (List.getElem?_eq_some_iff.1 hu).1; rw [poolCells_length] at this; exact this
    rw [poolCells_get s j hj] at hu
    rw [Addr.add_mid, Nat.zero_add, World.cell?_alloc_lt _ _ _ hb, h.cellAt hj]
    exact hu
  have HE1 : Hid _ := he1
  have HE2 : Hid _ := he2
  have HE3 : Hid _ := he3
  have HI : Hid _ := hi
  have HN : Hid _ := hnews
  have HO : Hid _ := hown
  clear he1 he2 he3 hi hnews hown
  go_enter Try.func65, Try.ntmps65
  go_wp2_with (at_builtin; refine wpList_append_lies _ (by rfl) _ _ 111 (by rfl) w.heap.size 117 i (.agg zeroFrame) 17 24 Try.underlying111 HI.out HE3.out HE1.out HE2.out (by rfl) (by omega) (.slice (some ⟨w.heap.size, 0, none⟩) 0 0) 0 [] (by rfl) HO.out ⟨bf, 0, none⟩ s.n cap (poolCells s) (by rfl) (poolCells_length s) HN.out (poolCells_one s) hn (by unfold maxLen; omega) (by omega) (by simp) (w.heap.size + 1) (by simp) ?_; intro g cap' w1 hown1 hgrow hat hlt)
  rw [Nat.zero_add] at *
  go_ret
  refine ⟨g, cap', rfl, hown1, hgrow.os, hgrow.tape, hgrow.output, ?_, ?_⟩
  · have := hgrow.size
    simp only [World.size_alloc] at this
    omega
  · intro k hk _
    rw [hgrow.block k (by simp only [World.size_alloc]; omega) (by simp [Value.ownBlock]; omega)]
    exact Below.heap_alloc _ _ _ hk

theorem owned_pool {w : World} {base g cap bp : Nat} {s : Pl} (hg : w.ownsRow base 117 17 (.slice (some ⟨g, 0, none⟩) s.n cap) s.n (poolCells s))
    (hd : ∃ cap : Nat, w.cell? ⟨bp, 0, none⟩ = some (.slice (some ⟨g, 0, none⟩) s.n cap)) (ne : bp ≠ g) (le : s.n ≤ 64) (nn : ∀ f, f < s.n → 0 ≤ s.refs f) : PoolAt w bp g s := by
  rcases hg.2 with ⟨h0, _⟩ | ⟨g', cap', cur, hv, _, hb, _, _, _, ht⟩
  · cases h0
  · simp only [Value.slice.injEq, Option.some.injEq, Addr.mk.injEq, and_true, true_and] at hv
    obtain ⟨rfl, rfl⟩ := hv
    have hc : ∀ i, i < s.n * 17 → w.cell? ⟨g, i, none⟩ = some (poolCell s i) := by
      intro i hi
      rw [cell_of_row w g i cur 117 (0, 0) hb]
      have := poolCells_get s i hi
      rw [← ht, List.getElem?_take_of_lt hi] at this
      simpa using this
    refine ⟨hd, ?_, ?_, ?_, ne, le, nn⟩
    · intro f hf
      rw [hc _ (by omega)]
      unfold poolCell
      rw [if_pos (by omega), show f * 17 / 17 = f by omega]
    · intro f i hf hi
      rw [hc _ (by omega)]
      unfold poolCell
      rw [if_neg (by omega), show (f * 17 + 1 + i) / 17 = f by omega, show (f * 17 + 1 + i) % 17 - 1 = i by omega]
    · intro o
      simp [World.frozen?, hb]

theorem ownsRow_more {w : World} {base e size n : Nat} {v : Value} {xs : List Value} (h : w.ownsRow base e size v n xs) (o : Obj) : (w.alloc o).ownsRow base e size v n xs := by
  refine ⟨h.1, ?_⟩
  rcases h.2 with h0 | ⟨g, cap, cur, hv, hg, hb, r⟩
  · exact Or.inl h0
  · have hlt : g < w.heap.size := by
      rcases Nat.lt_or_ge g w.heap.size with hlt | hge
      · exact hlt
      · rw [Array.getElem?_eq_none hge] at hb; cases hb
    exact Or.inr ⟨g, cap, cur, hv, hg, by rw [Below.heap_alloc _ _ _ hlt]; exact hb, r⟩

theorem copy_any (w : World) (bp bf : Nat) (s : Pl) (h : PoolAt w bp bf s) (hn : 0 < s.n) :
    Calls Try.prog 27 #[.pointer (some ⟨bp, 0, none⟩)] w fun e w' => ∃ cp cf, e = .returned (.pointer (some ⟨cp, 0, none⟩)) ∧ PoolAt w' cp cf s ∧ w.heap.size ≤ cp ∧ w.heap.size ≤ cf ∧ cp < w'.heap.size ∧ cf < w'.heap.size ∧ Upd (fun _ => False) w w' := by
  obtain ⟨cap, h1⟩ := h.hd
  go_enter Try.func27, Try.ntmps27
  go_wp2_with fail
  refine (clone_walk _ bp bf cap s h hn).mono ?_
  rintro e w1 ⟨g, cap', rfl, hown, hu⟩
  go_wp2_with fail
  go_ret
  obtain ⟨g', cap2, hv, hge, hlt⟩ := hown.form hn
  simp only [Value.slice.injEq, Option.some.injEq, Addr.mk.injEq, and_true, true_and] at hv
  obtain ⟨rfl, rfl⟩ := hv
  refine ⟨w1.heap.size, g, rfl, owned_pool (ownsRow_more hown _) ⟨cap', ?_⟩ (by omega) h.le h.nn, hu.size, hge, by simp, by simp only [World.size_alloc]; omega, hu.alloc _⟩
  rw [World.cell?_alloc_new]
  rfl
end Go.Proofs.Ytadpibcgjgcjhaa
