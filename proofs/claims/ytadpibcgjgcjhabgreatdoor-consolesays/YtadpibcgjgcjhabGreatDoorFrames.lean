/- What the functions of package frames answer, and what they turn in memory. -/
import Derived.Test.YtadpibcgjgcjhabGreatDoorModel
namespace Go.Proofs.YtadpibcgjgcjhabGreatDoor
open Go.ChangeShapes Go.WideShapes Go.ChangeAt Go.RowKit
set_option maxRecDepth 100000

theorem has_yes (w : World) (bp bf f : Nat) (s : Pl) (h : PoolAt w bp bf s) (hf : f < s.n) :
    Calls Tryz.prog 150 #[.pointer (some ⟨bp, 0, none⟩), .int .i64 f] w fun e w' => e = .returned (.bool true) ∧ w' = w := by
  obtain ⟨cap, h1⟩ := h.hd
  have h2 := h.le
  go_enter Tryz.func150, Tryz.ntmps150
  go_wp2
  go_ret
  exact ⟨rfl, rfl⟩
theorem has_neg (w : World) (bp : Nat) (f : Int) (hf : f < 0) :
    Calls Tryz.prog 150 #[.pointer (some ⟨bp, 0, none⟩), .int .i64 f] w fun e w' => e = .returned (.bool false) ∧ w' = w := by
  have hd : decide (0 ≤ f) = false := by simp; omega
  go_enter Tryz.func150, Tryz.ntmps150
  go_wp2
  go_ret
  exact ⟨rfl, rfl⟩
theorem has_big (w : World) (bp bf : Nat) (f : Int) (s : Pl) (h : PoolAt w bp bf s) (hf : s.n ≤ f) :
    Calls Tryz.prog 150 #[.pointer (some ⟨bp, 0, none⟩), .int .i64 f] w fun e w' => e = .returned (.bool false) ∧ w' = w := by
  obtain ⟨cap, h1⟩ := h.hd
  have h2 := h.le
  have hd : decide (f < s.n) = false := by simp; omega
  have h0 : 0 ≤ f := by omega
  go_enter Tryz.func150, Tryz.ntmps150
  go_wp2
  go_ret
  exact ⟨rfl, rfl⟩
theorem used_yes (w : World) (bp bf f : Nat) (s : Pl) (h : PoolAt w bp bf s) (hf : f < s.n) (hr : s.refs f ≠ 0) :
    Calls Tryz.prog 142 #[.pointer (some ⟨bp, 0, none⟩), .int .i64 f] w fun e w' => e = .returned (.pointer (some ⟨bf, f * 17, none⟩)) ∧ w' = w := by
  obtain ⟨cap, h1⟩ := h.hd
  have h2 := h.le
  have h3 := h.refs f hf
  have h4 : (s.refs f == 0) = false := by simp [hr]
  have H := h
  clear hr
  go_enter Tryz.func142, Tryz.ntmps142
  go_wp2_with (go_at_call 150; refine (has_yes _ _ _ _ _ h hf).mono ?_; rintro e w' ⟨rfl, rfl⟩)
  go_ret
  exact ⟨rfl, rfl⟩
theorem used_free (w : World) (bp bf f : Nat) (s : Pl) (h : PoolAt w bp bf s) (hf : f < s.n) (hr : s.refs f = 0) :
    Calls Tryz.prog 142 #[.pointer (some ⟨bp, 0, none⟩), .int .i64 f] w fun e w' => e = .returned (.pointer none) ∧ w' = w := by
  obtain ⟨cap, h1⟩ := h.hd
  have h2 := h.le
  have h3 := h.refs f hf
  have h4 : (s.refs f == 0) = true := by simp [hr]
  clear hr
  go_enter Tryz.func142, Tryz.ntmps142
  go_wp2_with (go_at_call 150; refine (has_yes _ _ _ _ _ h hf).mono ?_; rintro e w' ⟨rfl, rfl⟩)
  go_ret
  exact ⟨rfl, rfl⟩
theorem used_neg (w : World) (bp : Nat) (f : Int) (hf : f < 0) :
    Calls Tryz.prog 142 #[.pointer (some ⟨bp, 0, none⟩), .int .i64 f] w fun e w' => e = .returned (.pointer none) ∧ w' = w := by
  go_enter Tryz.func142, Tryz.ntmps142
  go_wp2_with (go_at_call 150; refine (has_neg _ _ _ hf).mono ?_; rintro e w' ⟨rfl, rfl⟩)
  go_ret
  exact ⟨rfl, rfl⟩
theorem used_big (w : World) (bp bf : Nat) (f : Int) (s : Pl) (h : PoolAt w bp bf s) (hf : s.n ≤ f) :
    Calls Tryz.prog 142 #[.pointer (some ⟨bp, 0, none⟩), .int .i64 f] w fun e w' => e = .returned (.pointer none) ∧ w' = w := by
  go_enter Tryz.func142, Tryz.ntmps142
  go_wp2_with (go_at_call 150; refine (has_big _ _ _ _ _ h hf).mono ?_; rintro e w' ⟨rfl, rfl⟩)
  go_ret
  exact ⟨rfl, rfl⟩
theorem used_any (w : World) (bp bf : Nat) (f : Int) (s : Pl) (h : PoolAt w bp bf s) :
    Calls Tryz.prog 142 #[.pointer (some ⟨bp, 0, none⟩), .int .i64 f] w fun e w' => e = .returned (.pointer (if s.used f then some ⟨bf, f.toNat * 17, none⟩ else none)) ∧ w' = w := by
  by_cases h0 : f < 0
  · have : s.used f = false := by simp [Pl.used]; omega
    rw [this]; exact used_neg w bp f h0
  · by_cases h1 : f < s.n
    · obtain ⟨k, rfl⟩ := Int.eq_ofNat_of_zero_le (show 0 ≤ f by omega)
      by_cases hr : s.refs k = 0
      · have : s.used k = false := by simp [Pl.used, hr]
        rw [this]; exact used_free w bp bf k s h (by omega) hr
      · have : s.used k = true := by simp [Pl.used, hr]; omega
        rw [this, Int.toNat_natCast]; exact used_yes w bp bf k s h (by omega) hr
    · have : s.used f = false := by simp [Pl.used]; omega
      rw [this]; exact used_big w bp bf f s h (by omega)
theorem used_none (w : World) (bp bf : Nat) (f : Int) (s : Pl) (h : PoolAt w bp bf s) (hu : s.used f = false) :
    Calls Tryz.prog 142 #[.pointer (some ⟨bp, 0, none⟩), .int .i64 f] w fun e w' => e = .returned (.pointer none) ∧ w' = w := by
  have := used_any w bp bf f s h
  rw [hu] at this; exact this
theorem used_some (w : World) (bp bf : Nat) (f : Int) (s : Pl) (h : PoolAt w bp bf s) (hu : s.used f = true) :
    Calls Tryz.prog 142 #[.pointer (some ⟨bp, 0, none⟩), .int .i64 f] w fun e w' => e = .returned (.pointer (some ⟨bf, f.toNat * 17, none⟩)) ∧ w' = w := by
  have := used_any w bp bf f s h
  rw [hu] at this; exact this
theorem inPage_yes (w : World) (i : Int) (h0 : 0 ≤ i) (h1 : i ≤ 15) : Calls Tryz.prog 141 #[.int .i64 i] w fun e w' => e = .returned (.bool true) ∧ w' = w := by
  have hd : decide (i < 16) = true := by simp; omega
  go_enter Tryz.func141, Tryz.ntmps141
  go_wp2
  go_ret
  exact ⟨rfl, rfl⟩
theorem inPage_no (w : World) (i : Int) (h : i < 0 ∨ 15 < i) : Calls Tryz.prog 141 #[.int .i64 i] w fun e w' => e = .returned (.bool false) ∧ w' = w := by
  rcases h with h | h
  · have hd : decide (0 ≤ i) = false := by simp; omega
    go_enter Tryz.func141, Tryz.ntmps141
    go_wp2
    go_ret
    exact ⟨rfl, rfl⟩
  · have hd : decide (0 ≤ i) = true := by simp; omega
    have hd2 : decide (i < 16) = false := by simp; omega
    go_enter Tryz.func141, Tryz.ntmps141
    go_wp2
    go_ret
    exact ⟨rfl, rfl⟩

theorem share_no (w : World) (bp bf : Nat) (f : Int) (s : Pl) (h : PoolAt w bp bf s) (hu : s.used f = false) :
    Calls Tryz.prog 148 #[.pointer (some ⟨bp, 0, none⟩), .int .i64 f] w fun e w' => e = .returned (.iface 37 (.int .i64 2)) ∧ w' = w := by
  go_enter Tryz.func148, Tryz.ntmps148
  go_wp2_with (go_at_call 142; refine (used_none _ _ _ _ _ h hu).mono ?_; rintro e w' ⟨rfl, rfl⟩)
  go_ret
  exact ⟨rfl, rfl⟩
theorem share_yes (w : World) (bp bf : Nat) (f : Int) (s : Pl) (h : PoolAt w bp bf s) (hu : s.used f = true) (hm : s.refs f.toNat ≤ 1000000) :
    Calls Tryz.prog 148 #[.pointer (some ⟨bp, 0, none⟩), .int .i64 f] w fun e w' => e = .returned .nilIface ∧ w' = w.setCell ⟨bf, f.toNat * 17, none⟩ (.int .i64 (s.refs f.toNat + 1)) := by
  obtain ⟨h0, h1, h2⟩ := (s.used_iff f).1 hu
  have c1 := h.refs f.toNat (by omega)
  have c2 := h.fz (f.toNat * 17)
  have c3 := h.nn f.toNat (by omega)
  clear h2
  go_enter Tryz.func148, Tryz.ntmps148
  go_wp2_with (go_at_call 142; refine (used_some _ _ _ _ _ h hu).mono ?_; rintro e w' ⟨rfl, rfl⟩)
  go_ret
  exact ⟨rfl, rfl⟩
end Go.Proofs.YtadpibcgjgcjhabGreatDoor
