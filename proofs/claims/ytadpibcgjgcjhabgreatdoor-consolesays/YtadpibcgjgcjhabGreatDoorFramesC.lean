/- What the functions of package frames answer, and what they turn in memory: Set, Of, Take, New. -/
import Derived.Test.YtadpibcgjgcjhabGreatDoorFramesB
namespace Go.Proofs.YtadpibcgjgcjhabGreatDoor
open Go.ChangeShapes Go.WideShapes Go.ChangeAt Go.RowKit
set_option maxRecDepth 100000

theorem errV1 : errV 1 = .iface 37 (.int .i64 1) := by simp [errV]
theorem errV2 : errV 2 = .iface 37 (.int .i64 2) := by simp [errV]
theorem errV3 : errV 3 = .iface 37 (.int .i64 3) := by simp [errV]
theorem errV4 : errV 4 = .iface 37 (.int .i64 4) := by simp [errV]

theorem set_bound (w : World) (bp : Nat) (f i v : Int) (hi : i < 0 ∨ 15 < i) :
    Calls Tryz.prog 180 #[.pointer (some ⟨bp, 0, none⟩), .int .i64 f, .int .i64 i, .int .u8 v] w fun e w' => e = .returned (.iface 37 (.int .i64 1)) ∧ w' = w := by
  go_enter Tryz.func180, Tryz.ntmps180
  go_wp2_with (go_at_call 141; refine (inPage_no _ _ hi).mono ?_; rintro e w' ⟨rfl, rfl⟩)
  go_ret
  exact ⟨rfl, rfl⟩
theorem set_none (w : World) (bp bf : Nat) (f i v : Int) (s : Pl) (h : PoolAt w bp bf s) (i0 : 0 ≤ i) (i1 : i ≤ 15) (hu : s.used f = false) :
    Calls Tryz.prog 180 #[.pointer (some ⟨bp, 0, none⟩), .int .i64 f, .int .i64 i, .int .u8 v] w fun e w' => e = .returned (.iface 37 (.int .i64 2)) ∧ w' = w := by
  go_enter Tryz.func180, Tryz.ntmps180
  go_wp2_with (first | (go_at_call 141; refine (inPage_yes _ _ i0 i1).mono ?_; rintro e w' ⟨rfl, rfl⟩) | (go_at_call 195; refine (alone_none _ _ _ _ _ h hu).mono ?_; rintro e w' ⟨rfl, rfl⟩))
  go_ret
  exact ⟨rfl, rfl⟩
theorem set_held (w : World) (bp bf : Nat) (f i v : Int) (s : Pl) (h : PoolAt w bp bf s) (i0 : 0 ≤ i) (i1 : i ≤ 15) (hu : s.used f = true) (hr : 1 < s.refs f.toNat) :
    Calls Tryz.prog 180 #[.pointer (some ⟨bp, 0, none⟩), .int .i64 f, .int .i64 i, .int .u8 v] w fun e w' => e = .returned (.iface 37 (.int .i64 4)) ∧ w' = w := by
  go_enter Tryz.func180, Tryz.ntmps180
  go_wp2_with (first | (go_at_call 141; refine (inPage_yes _ _ i0 i1).mono ?_; rintro e w' ⟨rfl, rfl⟩) | (go_at_call 195; refine (alone_held _ _ _ _ _ h hu hr).mono ?_; rintro e w' ⟨rfl, rfl⟩))
  go_ret
  exact ⟨rfl, rfl⟩
theorem set_yes (w : World) (bp bf : Nat) (f i v : Int) (s : Pl) (h : PoolAt w bp bf s) (i0 : 0 ≤ i) (i1 : i ≤ 15) (hu : s.used f = true) (hr : s.refs f.toNat ≤ 1) :
    Calls Tryz.prog 180 #[.pointer (some ⟨bp, 0, none⟩), .int .i64 f, .int .i64 i, .int .u8 v] w fun e w' => e = .returned .nilIface ∧ w' = w.setCell ⟨bf, f.toNat * 17 + 1 + i.toNat, none⟩ (.int .u8 v) := by
  obtain ⟨h0, h1, _⟩ := (s.used_iff f).1 hu
  have c1 := h.byt f.toNat i.toNat (by omega) (by omega)
  have c2 := h.fz (f.toNat * 17 + 1 + i.toNat)
  have i2 : i < 16 := by omega
  go_enter Tryz.func180, Tryz.ntmps180
  go_wp2_with (first | (go_at_call 141; refine (inPage_yes _ _ i0 i1).mono ?_; rintro e w' ⟨rfl, rfl⟩) | (go_at_call 195; refine (alone_yes _ _ _ _ _ h hu hr).mono ?_; rintro e w' ⟨rfl, rfl⟩))
  go_ret
  exact ⟨rfl, rfl⟩
theorem set_any (w : World) (bp bf : Nat) (f i v : Int) (s : Pl) (h : PoolAt w bp bf s) :
    Calls Tryz.prog 180 #[.pointer (some ⟨bp, 0, none⟩), .int .i64 f, .int .i64 i, .int .u8 v] w fun e w' => e = .returned (errV (s.set f i v).1) ∧ PoolAt w' bp bf (s.set f i v).2 ∧ Upd (fun k => k = bf) w w' := by
  by_cases hi : i < 0 ∨ 15 < i
  · refine (set_bound w bp f i v hi).mono ?_
    rintro e w' ⟨rfl, rfl⟩
    simp only [Pl.set, hi, if_true]
    exact ⟨by rw [errV1], h, Upd.refl _ _⟩
  · have i0 : 0 ≤ i := by omega
    have i1 : i ≤ 15 := by omega
    cases hu : s.used f with
    | false =>
      refine (set_none w bp bf f i v s h i0 i1 hu).mono ?_
      rintro e w' ⟨rfl, rfl⟩
      simp only [Pl.set, hi, hu, if_false, Bool.false_eq_true]
      exact ⟨by rw [errV2], h, Upd.refl _ _⟩
    | true =>
      obtain ⟨h0, h1, _⟩ := (s.used_iff f).1 hu
      by_cases hr : 1 < s.refs f.toNat
      · refine (set_held w bp bf f i v s h i0 i1 hu hr).mono ?_
        rintro e w' ⟨rfl, rfl⟩
        simp only [Pl.set, hi, hu, hr, if_false, if_true]
        exact ⟨by rw [errV4], h, Upd.refl _ _⟩
      · refine (set_yes w bp bf f i v s h i0 i1 hu (by omega)).mono ?_
        rintro e w' ⟨rfl, rfl⟩
        simp only [Pl.set, hi, hu, hr, if_false, if_true]
        exact ⟨by rw [errV_zero], h.setByte (by omega) (by omega) v, Upd.one _ _ _ _⟩

/-- The class of a frame with r pages. -/
def classOf (r : Int) : Int := if r = 0 then 0 else if r = 1 then 1 else 2
theorem class_any (w : World) (r : Int) : Calls Tryz.prog 151 #[.int .i64 r] w fun e w' => e = .returned (.int .i64 (classOf r)) ∧ w' = w := by
  by_cases h0 : r = 0
  · subst h0
    go_enter Tryz.func151, Tryz.ntmps151
    go_wp2
    go_ret
    exact ⟨rfl, rfl⟩
  · by_cases h1 : r = 1
    · subst h1
      go_enter Tryz.func151, Tryz.ntmps151
      go_wp2
      go_ret
      exact ⟨rfl, rfl⟩
    · have e0 : (r == 0) = false := by simp [h0]
      have e1 : (r == 1) = false := by simp [h1]
      have e2 : classOf r = 2 := by simp [classOf, h0, h1]
      rw [e2]
      clear h0 h1 e2
      go_enter Tryz.func151, Tryz.ntmps151
      go_wp2
      go_ret
      exact ⟨rfl, rfl⟩

/-- What Of tells: the class, the pages, the error. -/
def Pl.of (s : Pl) (f : Int) : Int × Int × Int := if 0 ≤ f ∧ f < s.n then (classOf (s.refs f.toNat), s.refs f.toNat, 0) else (0, 0, 1)
theorem of_yes (w : World) (bp bf f : Nat) (s : Pl) (h : PoolAt w bp bf s) (hf : f < s.n) :
    Calls Tryz.prog 118 #[.pointer (some ⟨bp, 0, none⟩), .int .i64 f] w fun e w' => e = .returned (.tuple #[.agg #[.int .i64 (classOf (s.refs f)), .int .i64 (s.refs f)], .nilIface]) ∧ Upd (fun _ => False) w w' := by
  obtain ⟨cap, h1⟩ := h.hd
  have h2 := h.le
  have h3 := h.refs f hf
  have hb := World.block_lt_of_cell? w _ h1
  have hb2 := World.block_lt_of_cell? w _ h3
  have H : PoolAt (w.alloc (.cells #[.int .i64 0, .int .i64 0] 67)) bp bf s := h.upd (S := fun _ => False) ((Upd.refl _ _).alloc _) (fun f => f) (fun f => f) hb2
  go_enter Tryz.func118, Tryz.ntmps118
  go_wp2_with (first | (go_at_call 150; refine (has_yes _ _ _ _ _ H hf).mono ?_; rintro e w' ⟨rfl, rfl⟩) | (go_at_call 151; refine (class_any _ _).mono ?_; rintro e w' ⟨rfl, rfl⟩))
  exact bodyPost_ret (v := .tuple #[.agg #[.int .i64 (classOf (s.refs f)), .int .i64 (s.refs f)], .nilIface]) (by simp [results, Tryz.results118, go_sem]) rfl ⟨rfl, (Upd.refl _ _).alloc _⟩
theorem of_no (w : World) (bp bf : Nat) (f : Int) (s : Pl) (h : PoolAt w bp bf s) (hn : 0 < s.n) (hf : f < 0 ∨ s.n ≤ f) :
    Calls Tryz.prog 118 #[.pointer (some ⟨bp, 0, none⟩), .int .i64 f] w fun e w' => e = .returned (.tuple #[.agg #[.int .i64 0, .int .i64 0], .iface 37 (.int .i64 1)]) ∧ Upd (fun _ => False) w w' := by
  have hb2 := World.block_lt_of_cell? w _ (h.refs 0 hn)
  have H : PoolAt (w.alloc (.cells #[.int .i64 0, .int .i64 0] 67)) bp bf s := h.upd (S := fun _ => False) ((Upd.refl _ _).alloc _) (fun f => f) (fun f => f) hb2
  rcases hf with hf | hf
  · go_enter Tryz.func118, Tryz.ntmps118
    go_wp2_with (go_at_call 150; refine (has_neg _ _ _ hf).mono ?_; rintro e w' ⟨rfl, rfl⟩)
    exact bodyPost_ret (v := .tuple #[.agg #[.int .i64 0, .int .i64 0], .iface 37 (.int .i64 1)]) (by simp [results, Tryz.results118, go_sem]) rfl ⟨rfl, (Upd.refl _ _).alloc _⟩
  · go_enter Tryz.func118, Tryz.ntmps118
    go_wp2_with (go_at_call 150; refine (has_big _ _ _ _ _ H hf).mono ?_; rintro e w' ⟨rfl, rfl⟩)
    exact bodyPost_ret (v := .tuple #[.agg #[.int .i64 0, .int .i64 0], .iface 37 (.int .i64 1)]) (by simp [results, Tryz.results118, go_sem]) rfl ⟨rfl, (Upd.refl _ _).alloc _⟩
theorem of_any (w : World) (bp bf : Nat) (f : Int) (s : Pl) (h : PoolAt w bp bf s) (hn : 0 < s.n) :
    Calls Tryz.prog 118 #[.pointer (some ⟨bp, 0, none⟩), .int .i64 f] w fun e w' => e = .returned (.tuple #[.agg #[.int .i64 (s.of f).1, .int .i64 (s.of f).2.1], errV (s.of f).2.2]) ∧ Upd (fun _ => False) w w' := by
  by_cases hf : 0 ≤ f ∧ f < s.n
  · simp only [Pl.of, hf, and_self, if_true, errV_zero]
    obtain ⟨k, rfl⟩ := Int.eq_ofNat_of_zero_le hf.1
    rw [Int.toNat_natCast]
    exact of_yes w bp bf k s h (by omega)
  · simp only [Pl.of, hf, if_false, errV1]
    exact of_no w bp bf f s h hn (by omega)

theorem rowOf_zero : List.replicate 16 (Value.int .u8 0) = rowOf fun _ => 0 := by rfl
theorem zero_u8 (w : World) : (zeroValue 5).run Tryz.prog w = .ok (.int .u8 0) w := by kernel_rfl
/-- 'clear(fr.bytes[:])': the frame has noughts. -/
theorem clear_row (w : World) (bp bf k : Nat) (s : Pl) (h : PoolAt w bp bf s) (hk : k < s.n) (ty : TypeId) :
    (Builtin.clear_ #[100] ty #[.slice (some ⟨bf, k * 17 + 1, none⟩) 16 16]).run Tryz.prog w = .ok (.tuple #[]) (w.setCells bf (k * 17 + 1) (rowOf fun _ => 0)) := by
  rw [← rowOf_zero]
  exact Lib.run_clear_slice w 100 5 ty (.int .u8 0) Tryz.underlying100 zero_u8 rfl rfl bf (k * 17 + 1) 16 16 (by omega) (fun j hj => (h.there hk j hj).1) (fun j hj => (h.there hk j hj).2)

theorem firstFrom_spec (refs : Nat → Int) : ∀ (m k : Nat), match firstFrom refs k m with
    | some j => k ≤ j ∧ j < k + m ∧ refs j = 0 ∧ ∀ i, k ≤ i → i < j → refs i ≠ 0
    | none => ∀ i, k ≤ i → i < k + m → refs i ≠ 0
  | 0, k => by simp only [firstFrom]; intro i h1 h2; omega
  | m + 1, k => by
    simp only [firstFrom]
    by_cases h : refs k = 0
    · rw [if_pos h]; exact ⟨Nat.le_refl _, by omega, h, fun i h1 h2 => by omega⟩
    · rw [if_neg h]
      have := firstFrom_spec refs m (k + 1)
      revert this
      cases firstFrom refs (k + 1) m with
      | none =>
        intro this i h1 h2
        by_cases e : i = k
        · subst e; exact h
        · exact this i (by omega) (by omega)
      | some j =>
        rintro ⟨h1, h2, h3, h4⟩
        refine ⟨by omega, by omega, h3, fun i g1 g2 => ?_⟩
        by_cases e : i = k
        · subst e; exact h
        · exact h4 i (by omega) g2

theorem take_full (w : World) (bp bf : Nat) (s : Pl) (h : PoolAt w bp bf s) (hr : ∀ i, i < s.n → s.refs i ≠ 0) :
    Calls Tryz.prog 200 #[.pointer (some ⟨bp, 0, none⟩)] w fun e w' => e = .returned (.tuple #[.int .i64 0, .iface 37 (.int .i64 3)]) ∧ w' = w := by
  obtain ⟨cap, h1⟩ := h.hd
  have h2 := h.le
  have HR : Hid _ := hr
  clear hr
  go_enter Tryz.func200, Tryz.ntmps200
  go_wp2
  go_loop [11] (fun i => ∃ k : Nat, k ≤ s.n ∧ i = .int .i64 k) (fun i => s.n - (intOf i).toNat)
  case atStart => exact ⟨0, Nat.zero_le _, rfl⟩
  case round =>
    obtain ⟨k, hk, rfl⟩ := hrel
    by_cases hlt : k < s.n
    · have c1 := h.refs k hlt
      have c2 : (s.refs k == 0) = false := by simp [HR.out k hlt]
      go_wp2
      go_round
      case rel => exact ⟨k + 1, by omega, by go_num⟩
      case measure => simp [intOf]; omega
    · go_wp2
      go_ret2
      exact ⟨rfl, rfl⟩
theorem take_at (w : World) (bp bf j : Nat) (s : Pl) (h : PoolAt w bp bf s) (hj : j < s.n) (h0 : s.refs j = 0) (hr : ∀ i, i < j → s.refs i ≠ 0) :
    Calls Tryz.prog 200 #[.pointer (some ⟨bp, 0, none⟩)] w fun e w' => e = .returned (.tuple #[.int .i64 j, .nilIface]) ∧ w' = (w.setCells bf (j * 17 + 1) (rowOf fun _ => 0)).setCell ⟨bf, j * 17, none⟩ (.int .i64 1) := by
  obtain ⟨cap, h1⟩ := h.hd
  have h2 := h.le
  have HR : Hid _ := hr
  have H0 : Hid _ := h0
  clear hr h0
  go_enter Tryz.func200, Tryz.ntmps200
  go_wp2
  go_loop [11] (fun i => ∃ k : Nat, k ≤ j ∧ i = .int .i64 k) (fun i => s.n - (intOf i).toNat)
  case atStart => exact ⟨0, Nat.zero_le _, rfl⟩
  case round =>
    obtain ⟨k, hk, rfl⟩ := hrel
    have hlt : k < s.n := by omega
    have c1 := h.refs k hlt
    by_cases hkj : k < j
    · have c2 : (s.refs k == 0) = false := by simp [HR.out k hkj]
      go_wp2
      go_round
      case rel => exact ⟨k + 1, by omega, by go_num⟩
      case measure => simp [intOf]; omega
    · have e : k = j := by omega
      subst e
      have c2 : (s.refs k == 0) = true := by simp [H0.out]
      have c3 := clear_row w bp bf k s h hlt
      have c4 : (w.setCells bf (k * 17 + 1) (rowOf fun _ => 0)).cell? ⟨bf, k * 17, none⟩ = some (.int .i64 (s.refs k)) := (h.setRow hlt _).refs k hlt
      have c5 : (w.setCells bf (k * 17 + 1) (rowOf fun _ => 0)).frozen? ⟨bf, k * 17, none⟩ = false := (h.setRow hlt _).fz _
      go_wp2
      go_ret2
      exact ⟨rfl, rfl⟩
end Go.Proofs.YtadpibcgjgcjhabGreatDoor
