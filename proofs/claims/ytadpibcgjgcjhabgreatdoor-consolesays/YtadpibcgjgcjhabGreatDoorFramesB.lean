/- What the functions of package frames answer, and what they turn in memory: more. -/
import Derived.Test.YtadpibcgjgcjhabGreatDoorFrames
namespace Go.Proofs.YtadpibcgjgcjhabGreatDoor
open Go.ChangeShapes Go.WideShapes Go.ChangeAt Go.RowKit
set_option maxRecDepth 100000

/-- Share, whatever the number. -/
theorem share_any (w : World) (bp bf : Nat) (f : Int) (s : Pl) (h : PoolAt w bp bf s) (hm : ∀ k, k < s.n → s.refs k ≤ 1000000) :
    Calls Tryz.prog 148 #[.pointer (some ⟨bp, 0, none⟩), .int .i64 f] w fun e w' => e = .returned (errV (s.share f 1).1) ∧ PoolAt w' bp bf (s.share f 1).2 ∧ Upd (fun k => k = bf) w w' := by
  cases hu : s.used f with
  | false =>
    refine (share_no w bp bf f s h hu).mono ?_
    rintro e w' ⟨rfl, rfl⟩
    simp only [Pl.share, hu]
    exact ⟨by simp [errV], h, Upd.refl _ _⟩
  | true =>
    obtain ⟨h0, h1, _⟩ := (s.used_iff f).1 hu
    have hk : f.toNat < s.n := by omega
    refine (share_yes w bp bf f s h hu (hm _ hk)).mono ?_
    rintro e w' ⟨rfl, rfl⟩
    simp only [Pl.share, hu, if_true]
    exact ⟨by simp [errV], h.setRef hk (by have := h.nn _ hk; omega), Upd.one _ _ _ _⟩

theorem drop_no (w : World) (bp bf : Nat) (f : Int) (s : Pl) (h : PoolAt w bp bf s) (hu : s.used f = false) :
    Calls Tryz.prog 178 #[.pointer (some ⟨bp, 0, none⟩), .int .i64 f] w fun e w' => e = .returned (.iface 37 (.int .i64 2)) ∧ w' = w := by
  go_enter Tryz.func178, Tryz.ntmps178
  go_wp2_with (go_at_call 142; refine (used_none _ _ _ _ _ h hu).mono ?_; rintro e w' ⟨rfl, rfl⟩)
  go_ret
  exact ⟨rfl, rfl⟩
theorem drop_yes (w : World) (bp bf : Nat) (f : Int) (s : Pl) (h : PoolAt w bp bf s) (hu : s.used f = true) (hm : s.refs f.toNat ≤ 1000000) :
    Calls Tryz.prog 178 #[.pointer (some ⟨bp, 0, none⟩), .int .i64 f] w fun e w' => e = .returned .nilIface ∧ w' = w.setCell ⟨bf, f.toNat * 17, none⟩ (.int .i64 (s.refs f.toNat - 1)) := by
  obtain ⟨h0, h1, h2⟩ := (s.used_iff f).1 hu
  have c1 := h.refs f.toNat (by omega)
  have c2 := h.fz (f.toNat * 17)
  have c3 := h.nn f.toNat (by omega)
  clear h2
  go_enter Tryz.func178, Tryz.ntmps178
  go_wp2_with (go_at_call 142; refine (used_some _ _ _ _ _ h hu).mono ?_; rintro e w' ⟨rfl, rfl⟩)
  go_ret
  exact ⟨rfl, rfl⟩
theorem drop_any (w : World) (bp bf : Nat) (f : Int) (s : Pl) (h : PoolAt w bp bf s) (hm : ∀ k, k < s.n → s.refs k ≤ 1000000) :
    Calls Tryz.prog 178 #[.pointer (some ⟨bp, 0, none⟩), .int .i64 f] w fun e w' => e = .returned (errV (s.share f (-1)).1) ∧ PoolAt w' bp bf (s.share f (-1)).2 ∧ Upd (fun k => k = bf) w w' := by
  cases hu : s.used f with
  | false =>
    refine (drop_no w bp bf f s h hu).mono ?_
    rintro e w' ⟨rfl, rfl⟩
    simp only [Pl.share, hu]
    exact ⟨by simp [errV], h, Upd.refl _ _⟩
  | true =>
    obtain ⟨h0, h1, h2⟩ := (s.used_iff f).1 hu
    have hk : f.toNat < s.n := by omega
    refine (drop_yes w bp bf f s h hu (hm _ hk)).mono ?_
    rintro e w' ⟨rfl, rfl⟩
    simp only [Pl.share, hu, if_true]
    exact ⟨by simp [errV], h.setRef hk (by have := h.nn _ hk; omega), Upd.one _ _ _ _⟩

theorem alone_none (w : World) (bp bf : Nat) (f : Int) (s : Pl) (h : PoolAt w bp bf s) (hu : s.used f = false) :
    Calls Tryz.prog 195 #[.pointer (some ⟨bp, 0, none⟩), .int .i64 f] w fun e w' => e = .returned (.tuple #[.pointer none, .iface 37 (.int .i64 2)]) ∧ w' = w := by
  go_enter Tryz.func195, Tryz.ntmps195
  go_wp2_with (go_at_call 142; refine (used_none _ _ _ _ _ h hu).mono ?_; rintro e w' ⟨rfl, rfl⟩)
  go_ret2
  exact ⟨rfl, rfl⟩
theorem alone_held (w : World) (bp bf : Nat) (f : Int) (s : Pl) (h : PoolAt w bp bf s) (hu : s.used f = true) (hr : 1 < s.refs f.toNat) :
    Calls Tryz.prog 195 #[.pointer (some ⟨bp, 0, none⟩), .int .i64 f] w fun e w' => e = .returned (.tuple #[.pointer none, .iface 37 (.int .i64 4)]) ∧ w' = w := by
  obtain ⟨h0, h1, h2⟩ := (s.used_iff f).1 hu
  have c1 := h.refs f.toNat (by omega)
  clear h2
  go_enter Tryz.func195, Tryz.ntmps195
  go_wp2_with (go_at_call 142; refine (used_some _ _ _ _ _ h hu).mono ?_; rintro e w' ⟨rfl, rfl⟩)
  go_ret2
  exact ⟨rfl, rfl⟩
theorem alone_yes (w : World) (bp bf : Nat) (f : Int) (s : Pl) (h : PoolAt w bp bf s) (hu : s.used f = true) (hr : s.refs f.toNat ≤ 1) :
    Calls Tryz.prog 195 #[.pointer (some ⟨bp, 0, none⟩), .int .i64 f] w fun e w' => e = .returned (.tuple #[.pointer (some ⟨bf, f.toNat * 17, none⟩), .nilIface]) ∧ w' = w := by
  obtain ⟨h0, h1, h2⟩ := (s.used_iff f).1 hu
  have c1 := h.refs f.toNat (by omega)
  clear h2
  go_enter Tryz.func195, Tryz.ntmps195
  go_wp2_with (go_at_call 142; refine (used_some _ _ _ _ _ h hu).mono ?_; rintro e w' ⟨rfl, rfl⟩)
  go_ret2
  exact ⟨rfl, rfl⟩

theorem get_any (w : World) (bp bf : Nat) (f i : Int) (s : Pl) (h : PoolAt w bp bf s) :
    Calls Tryz.prog 110 #[.pointer (some ⟨bp, 0, none⟩), .int .i64 f, .int .i64 i] w fun e w' => e = .returned (.tuple #[.int .u8 (s.get f i).1, errV (s.get f i).2]) ∧ w' = w := by
  by_cases hi : i < 0 ∨ 15 < i
  · simp only [Pl.get, hi, if_true]
    have e1 : errV 1 = .iface 37 (.int .i64 1) := by simp [errV]
    rw [e1]; clear e1
    go_enter Tryz.func110, Tryz.ntmps110
    go_wp2_with (go_at_call 141; refine (inPage_no _ _ hi).mono ?_; rintro e w' ⟨rfl, rfl⟩)
    go_ret2
    exact ⟨rfl, rfl⟩
  · have i0 : 0 ≤ i := by omega
    have i1 : i ≤ 15 := by omega
    cases hu : s.used f with
    | false =>
      simp only [Pl.get, hi, hu, if_false]
      have e1 : errV 2 = .iface 37 (.int .i64 2) := by simp [errV]
      simp only [Bool.false_eq_true, if_false, e1]
      clear e1 hi
      go_enter Tryz.func110, Tryz.ntmps110
      go_wp2_with (first | (go_at_call 141; refine (inPage_yes _ _ i0 i1).mono ?_; rintro e w' ⟨rfl, rfl⟩) | (go_at_call 142; refine (used_none _ _ _ _ _ h hu).mono ?_; rintro e w' ⟨rfl, rfl⟩))
      go_ret2
      exact ⟨rfl, rfl⟩
    | true =>
      simp only [Pl.get, hi, hu, if_false, if_true, errV_zero]
      clear hi
      obtain ⟨h0, h1, h2⟩ := (s.used_iff f).1 hu
      have c1 := h.byt f.toNat i.toNat (by omega) (by omega)
      have i2 : i < 16 := by omega
      clear h2
      go_enter Tryz.func110, Tryz.ntmps110
      go_wp2_with (first | (go_at_call 141; refine (inPage_yes _ _ i0 i1).mono ?_; rintro e w' ⟨rfl, rfl⟩) | (go_at_call 142; refine (used_some _ _ _ _ _ h hu).mono ?_; rintro e w' ⟨rfl, rfl⟩))
      go_ret2
      exact ⟨rfl, rfl⟩

theorem size_any (w : World) (bp bf : Nat) (s : Pl) (h : PoolAt w bp bf s) :
    Calls Tryz.prog 153 #[.pointer (some ⟨bp, 0, none⟩)] w fun e w' => e = .returned (.int .i64 s.n) ∧ w' = w := by
  obtain ⟨cap, h1⟩ := h.hd
  go_enter Tryz.func153, Tryz.ntmps153
  go_wp2
  go_ret
  exact ⟨rfl, rfl⟩

theorem left_any (w : World) (bp bf : Nat) (s : Pl) (h : PoolAt w bp bf s) :
    Calls Tryz.prog 80 #[.pointer (some ⟨bp, 0, none⟩)] w fun e w' => e = .returned (.int .i64 s.left) ∧ w' = w := by
  obtain ⟨cap, h1⟩ := h.hd
  have h2 := h.le
  go_enter Tryz.func80, Tryz.ntmps80
  go_wp2
  go_loop [3, 10] (fun t i => ∃ k : Nat, k ≤ s.n ∧ i = .int .i64 k ∧ t = .int .i64 (freeTo s.refs k)) (fun _ i => s.n - (intOf i).toNat)
  case atStart => exact ⟨0, Nat.zero_le _, rfl, rfl⟩
  case round =>
    obtain ⟨k, hk, rfl, rfl⟩ := hrel
    have hle := freeTo_le s.refs k
    by_cases hlt : k < s.n
    · have c1 := h.refs k hlt
      have hs : freeTo s.refs (k + 1) = freeTo s.refs k + if s.refs k = 0 then 1 else 0 := rfl
      by_cases hr : s.refs k = 0
      · rw [if_pos hr] at hs
        have HS : Hid _ := hs
        have hr' : (s.refs k == 0) = true := by simp [hr]
        clear hs hr
        go_wp2
        go_round
        case rel => exact ⟨k + 1, by omega, by go_num, by rw [HS.out]; go_num⟩
        case measure => simp [intOf]; omega
      · rw [if_neg hr] at hs
        have HS : Hid _ := hs
        have hr' : (s.refs k == 0) = false := by simp [hr]
        clear hs hr
        go_wp2
        go_round
        case rel => exact ⟨k + 1, by omega, by go_num, by rw [HS.out]; go_num⟩
        case measure => simp [intOf]; omega
    · have : k = s.n := by omega
      subst this
      go_wp2
      go_ret
      exact ⟨rfl, rfl⟩
end Go.Proofs.YtadpibcgjgcjhabGreatDoor
