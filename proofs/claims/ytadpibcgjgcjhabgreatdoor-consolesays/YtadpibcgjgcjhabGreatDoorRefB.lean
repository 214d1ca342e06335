/- The document's answer for chapter 1: Share, Set, Left, Of, Take. -/
import Derived.Test.YtadpibcgjgcjhabGreatDoorRef
namespace Go.Proofs.YtadpibcgjgcjhabGreatDoor
open Go.ChangeShapes Go.WideShapes Go.ChangeAt Go.RowKit
set_option maxRecDepth 100000

theorem rShare_no (w : World) (bm : Nat) (f d : Int) (s : Pl) (h : RefAt w bm s) (hu : s.used f = false) :
    Calls Tryz.prog 67 #[.pointer (some ⟨bm, 0, none⟩), .int .i64 f, .int .i64 d] w fun e w' => e = .returned (.int .i64 2) ∧ w' = w := by
  go_enter Tryz.func67, Tryz.ntmps67
  go_wp2_with (go_at_call 66; refine (rUsed_is _ _ _ _ h hu).mono ?_; rintro e w' ⟨rfl, rfl⟩)
  go_ret
  exact ⟨rfl, rfl⟩
theorem rShare_yes (w : World) (bm : Nat) (f d : Int) (s : Pl) (h : RefAt w bm s) (hu : s.used f = true) (hm : s.refs f.toNat ≤ 1000000) (d0 : -1 ≤ d) (d1 : d ≤ 1) :
    Calls Tryz.prog 67 #[.pointer (some ⟨bm, 0, none⟩), .int .i64 f, .int .i64 d] w fun e w' => e = .returned (.int .i64 0) ∧ RefAt w' bm { s with refs := setAt s.refs f.toNat (s.refs f.toNat + d) } ∧ Upd (fun k => k = bm) w w' := by
  obtain ⟨h0, h1, h2⟩ := (s.used_iff f).1 hu
  have hl := h.le
  have hk : f.toNat < s.n := by omega
  have c1 := h.refs f.toNat hk
  have c2 := h.fz (1025 + f.toNat)
  have c3 := h.nn f.toNat hk
  have f2 : f < 64 := by omega
  have hw := h.setRef hk (v := s.refs f.toNat + d) (by omega)
  clear h2
  go_enter Tryz.func67, Tryz.ntmps67
  go_wp2_with (go_at_call 66; refine (rUsed_is _ _ _ _ h hu).mono ?_; rintro e w' ⟨rfl, rfl⟩)
  go_region
  all_goals go_wp2
  all_goals go_ret
  all_goals exact ⟨rfl, hw.upd (S := fun _ => False) (Upd.refl _ _).drew (fun f => f), (Upd.one _ _ _ _).drew⟩
theorem rShare_any (w : World) (bm : Nat) (f d : Int) (s : Pl) (h : RefAt w bm s) (hm : ∀ k, k < s.n → s.refs k ≤ 1000000) (d0 : -1 ≤ d) (d1 : d ≤ 1) :
    Calls Tryz.prog 67 #[.pointer (some ⟨bm, 0, none⟩), .int .i64 f, .int .i64 d] w fun e w' => e = .returned (.int .i64 (s.share f d).1) ∧ RefAt w' bm (s.share f d).2 ∧ Upd (fun k => k = bm) w w' := by
  cases hu : s.used f with
  | false =>
    refine (rShare_no w bm f d s h hu).mono ?_
    rintro e w' ⟨rfl, rfl⟩
    simp only [Pl.share, hu]
    exact ⟨rfl, h, Upd.refl _ _⟩
  | true =>
    obtain ⟨h0, h1, _⟩ := (s.used_iff f).1 hu
    refine (rShare_yes w bm f d s h hu (hm _ (by omega)) d0 d1).mono ?_
    rintro e w' ⟨rfl, h1, h2⟩
    simp only [Pl.share, hu, if_true]
    exact ⟨trivial, h1, h2⟩

theorem rSet_any (w : World) (bm : Nat) (f i v : Int) (s : Pl) (h : RefAt w bm s) :
    Calls Tryz.prog 69 #[.pointer (some ⟨bm, 0, none⟩), .int .i64 f, .int .i64 i, .int .u8 v] w fun e w' => e = .returned (.int .i64 (s.set f i v).1) ∧ RefAt w' bm (s.set f i v).2 ∧ Upd (fun k => k = bm) w w' := by
  have hg := rGet_any w bm f i s h
  by_cases hi : i < 0 ∨ 15 < i
  · simp only [Pl.set, hi, if_true]
    have eg : s.get f i = (0, 1) := by simp only [Pl.get, hi, if_true]
    rw [eg] at hg
    simp only at hg
    go_enter Tryz.func69, Tryz.ntmps69
    go_wp2_with fail
    refine hg.mono ?_
    rintro e w' ⟨rfl, rfl⟩
    go_wp2_with fail
    go_ret
    exact ⟨rfl, h, Upd.refl _ _⟩
  · have i0 : 0 ≤ i := by omega
    have i1 : i ≤ 15 := by omega
    cases hu : s.used f with
    | false =>
      have eg : s.get f i = (0, 2) := by simp only [Pl.get, hi, hu, if_false, Bool.false_eq_true]
      rw [eg] at hg
      simp only [Pl.set, hi, hu, if_false, Bool.false_eq_true]
      simp only at hg
      clear hi
      go_enter Tryz.func69, Tryz.ntmps69
      go_wp2_with fail
      refine hg.mono ?_
      rintro e w' ⟨rfl, rfl⟩
      go_wp2_with fail
      go_ret
      exact ⟨rfl, h, Upd.refl _ _⟩
    | true =>
      have eg : s.get f i = (s.byt f.toNat i.toNat, 0) := by simp only [Pl.get, hi, hu, if_false, if_true]
      rw [eg] at hg
      simp only at hg
      obtain ⟨h0, h1, h2⟩ := (s.used_iff f).1 hu
      have hl := h.le
      have f2 : f < 64 := by omega
      have hk : f.toNat < s.n := by omega
      have c1 := h.refs f.toNat hk
      clear h2
      by_cases hr : 1 < s.refs f.toNat
      · simp only [Pl.set, hi, hu, hr, if_false, if_true]
        clear hi
        go_enter Tryz.func69, Tryz.ntmps69
        go_wp2_with fail
        refine hg.mono ?_
        rintro e w' ⟨rfl, rfl⟩
        go_wp2_with fail
        go_ret
        exact ⟨rfl, h, Upd.refl _ _⟩
      · simp only [Pl.set, hi, hu, hr, if_false, if_true]
        have c3 := h.byt f.toNat i.toNat hk (by omega)
        have c4 := h.fz (1 + f.toNat * 16 + i.toNat)
        have i2 : i < 16 := by omega
        clear hi
        go_enter Tryz.func69, Tryz.ntmps69
        go_wp2_with fail
        refine hg.mono ?_
        rintro e w' ⟨rfl, rfl⟩
        go_wp2_with fail
        go_ret
        exact ⟨rfl, h.setByte hk (by omega) v, Upd.one _ _ _ _⟩

theorem rLeft_any (w : World) (bm : Nat) (s : Pl) (h : RefAt w bm s) :
    Calls Tryz.prog 22 #[.pointer (some ⟨bm, 0, none⟩)] w fun e w' => e = .returned (.int .i64 s.left) ∧ w' = w := by
  have h1 := h.num
  have h2 := h.le
  go_enter Tryz.func22, Tryz.ntmps22
  go_wp2
  go_loop [3, 4] (fun t i => ∃ k : Nat, k ≤ s.n ∧ i = .int .i64 k ∧ t = .int .i64 (freeTo s.refs k)) (fun _ i => s.n - (intOf i).toNat)
  case atStart => exact ⟨0, Nat.zero_le _, rfl, rfl⟩
  case round =>
    obtain ⟨k, hk, rfl, rfl⟩ := hrel
    have hle := freeTo_le s.refs k
    by_cases hlt : k < s.n
    · have c1 := h.refs k hlt
      have i1 : (k : Int) < 64 := by omega
      have hs : freeTo s.refs (k + 1) = freeTo s.refs k + if s.refs k = 0 then 1 else 0 := rfl
      by_cases hr : s.refs k = 0
      · rw [if_pos hr] at hs
        have HS : Hid _ := hs
        have hr' : (s.refs k == 0) = true := by simp [hr]
        clear hs hr
        go_wp2
        go_round
        case rel => exact ⟨k + 1, by omega, by go_num, by rw [HS.out]; go_num⟩
        case measure => simp [intOf]; omega
      · rw [if_neg hr] at hs
        have HS : Hid _ := hs
        have hr' : (s.refs k == 0) = false := by simp [hr]
        clear hs hr
        go_wp2
        go_round
        case rel => exact ⟨k + 1, by omega, by go_num, by rw [HS.out]; go_num⟩
        case measure => simp [intOf]; omega
    · have : k = s.n := by omega
      subst this
      go_wp2
      go_ret
      exact ⟨rfl, rfl⟩

theorem rOf_any (w : World) (bm : Nat) (f : Int) (s : Pl) (h : RefAt w bm s) :
    Calls Tryz.prog 26 #[.pointer (some ⟨bm, 0, none⟩), .int .i64 f] w fun e w' => e = .returned (.tuple #[.agg #[.int .i64 (s.of f).1, .int .i64 (s.of f).2.1], .int .i64 (s.of f).2.2]) ∧ Upd (fun _ => False) w w' := by
  have h1 := h.num
  have hl := h.le
  have hb := World.block_lt_of_cell? w _ h.num
  by_cases h0 : f < 0
  · have e : s.of f = (0, 0, 1) := by unfold Pl.of; rw [if_neg (by omega)]
    rw [e]
    have hd : decide (f < 0) = true := by simp; omega
    go_enter Tryz.func26, Tryz.ntmps26
    go_wp2
    exact bodyPost_ret (v := .tuple #[.agg #[.int .i64 0, .int .i64 0], .int .i64 1]) (by simp [results, Tryz.results26, go_sem]) rfl ⟨rfl, (Upd.refl _ _).alloc _⟩
  · have hd : decide (f < 0) = false := by simp; omega
    by_cases h2 : f < s.n
    · obtain ⟨k, rfl⟩ := Int.eq_ofNat_of_zero_le (show 0 ≤ f by omega)
      have e : s.of k = (classOf (s.refs k), s.refs k, 0) := by unfold Pl.of; rw [if_pos (by omega), Int.toNat_natCast]
      rw [e]
      have hk : k < s.n := by omega
      have c1 := h.refs k (by omega)
      have c2 := h.nn k (by omega)
      have i1 : (k : Int) < 64 := by omega
      clear h0 h2
      by_cases r0 : s.refs k = 0
      · have ec : classOf (s.refs k) = 0 := by simp [classOf, r0]
        rw [ec, r0]
        rw [r0] at c1
        clear ec r0 c2
        go_enter Tryz.func26, Tryz.ntmps26
        go_wp2
        exact bodyPost_ret (v := .tuple #[.agg #[.int .i64 0, .int .i64 0], .int .i64 0]) (by simp [results, Tryz.results26, go_sem]) rfl ⟨rfl, (Upd.refl _ _).alloc _⟩
      · by_cases r1 : s.refs k = 1
        · have ec : classOf (s.refs k) = 1 := by simp [classOf, r1]
          rw [ec, r1]
          rw [r1] at c1
          clear ec r0 r1 c2
          go_enter Tryz.func26, Tryz.ntmps26
          go_wp2
          exact bodyPost_ret (v := .tuple #[.agg #[.int .i64 1, .int .i64 1], .int .i64 0]) (by simp [results, Tryz.results26, go_sem]) rfl ⟨rfl, (Upd.refl _ _).alloc _⟩
        · have ec : classOf (s.refs k) = 2 := by simp [classOf, r0, r1]
          rw [ec]
          have b1 : (s.refs k == 1) = false := by simp [r1]
          have b2 : 1 < s.refs k := by omega
          clear ec r0 r1 c2
          go_enter Tryz.func26, Tryz.ntmps26
          go_wp2
          exact bodyPost_ret (v := .tuple #[.agg #[.int .i64 2, .int .i64 (s.refs k)], .int .i64 0]) (by simp [results, Tryz.results26, go_sem]) rfl ⟨rfl, (Upd.refl _ _).alloc _⟩
    · have e : s.of f = (0, 0, 1) := by unfold Pl.of; rw [if_neg (by omega)]
      rw [e]
      have hd2 : decide ((s.n : Int) ≤ f) = true := by simp; omega
      go_enter Tryz.func26, Tryz.ntmps26
      go_wp2
      exact bodyPost_ret (v := .tuple #[.agg #[.int .i64 0, .int .i64 0], .int .i64 1]) (by simp [results, Tryz.results26, go_sem]) rfl ⟨rfl, (Upd.refl _ _).alloc _⟩
end Go.Proofs.YtadpibcgjgcjhabGreatDoor
