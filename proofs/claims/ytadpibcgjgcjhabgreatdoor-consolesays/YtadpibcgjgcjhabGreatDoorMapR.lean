/- The document's answer for chapter 2: what its functions answer, and what they turn: On, turn, Plug, Unplug, Give, Seal. -/
import Derived.Test.YtadpibcgjgcjhabGreatDoorMapM
namespace Go.Proofs.YtadpibcgjgcjhabGreatDoor
open Go.ChangeShapes Go.WideShapes Go.ChangeAt Go.RowKit
set_option maxRecDepth 100000
attribute [local go_sem ↓] Go.wp_at_zero Go.wp_at_succ

theorem on_any (w : World) (n : Int) : Calls Tryz.prog 39 #[.int .i64 n] w fun e w' => e = .returned (.bool (onB n)) ∧ w' = w := by
  by_cases h : onB n = true
  · obtain ⟨h0, h1⟩ := (onB_iff n).1 h
    rw [h]
    clear h
    go_enter Tryz.func39, Tryz.ntmps39
    go_wp2
    go_ret
    exact ⟨rfl, rfl⟩
  · have h' : onB n = false := by simpa using h
    rw [h']
    rcases (onB_no n).1 h' with h0 | h0
    · have hd : decide (0 ≤ n) = false := by simp; omega
      clear h h'
      go_enter Tryz.func39, Tryz.ntmps39
      go_wp2
      go_ret
      exact ⟨rfl, rfl⟩
    · have hd : decide (n < 16) = false := by simp; omega
      have h1 : 0 ≤ n := by omega
      clear h h'
      go_enter Tryz.func39, Tryz.ntmps39
      go_wp2
      go_ret
      exact ⟨rfl, rfl⟩
theorem on_is (w : World) (n : Int) {u : Bool} (h : onB n = u) : Calls Tryz.prog 39 #[.int .i64 n] w fun e w' => e = .returned (.bool u) ∧ w' = w := by
  subst h; exact on_any w n

/-- No leaf to give up: the state alone turns. -/
theorem turn_plain (w : World) (bx bm n : Nat) (z : Int) (m : Mp) (h : RMap w bx bm m) (hn : n < 16) (ht : ((m.lf n).there && !(z == 1)) = false) :
    Calls Tryz.prog 65 #[.pointer (some ⟨bx, 0, none⟩), .int .i64 n, .int .i64 z] w fun e w' => e = .returned (.tuple #[]) ∧ w' = w.setCell ⟨bx, 1 + n, none⟩ (.int .i64 z) := by
  have c1 := h.th n hn
  have c2 := h.st n hn
  have c3 := h.fz (1 + n)
  have n1 : (n : Int) < 16 := by omega
  cases hth : (m.lf n).there with
  | false =>
    rw [hth] at c1
    clear hth ht
    go_enter Tryz.func65, Tryz.ntmps65
    go_wp2
    go_end0
    exact ⟨rfl, rfl⟩
  | true =>
    rw [hth] at c1 ht
    have hz : z = 1 := by simpa using ht
    subst hz
    clear hth ht
    go_enter Tryz.func65, Tryz.ntmps65
    go_wp2
    go_end0
    exact ⟨rfl, rfl⟩
theorem turn_drop (w : World) (bx bm n : Nat) (z : Int) (m : Mp) (s : Pl) (h : RMap w bx bm m) (hr : RefAt w bm s) (hne : bx ≠ bm) (hn : n < 16) (hm : ∀ k, k < s.n → s.refs k ≤ 1000000) (ht : (m.lf n).there = true) (hz : (z != 1) = true) :
    Calls Tryz.prog 65 #[.pointer (some ⟨bx, 0, none⟩), .int .i64 n, .int .i64 z] w fun e w' => e = .returned (.tuple #[]) ∧ RefAt w' bm (s.share (m.lf n).fr (-1)).2 ∧ RMap w' bx bm { m with st := setAt m.st n z, lf := setAt m.lf n lf0 } ∧ Upd (fun k => k = bm ∨ k = bx) w w' := by
  have c0 := h.pool
  have c1 := h.th n hn
  rw [ht] at c1
  have c2 := h.fr n hn
  have n0 : (0 : Int) ≤ (n : Int) := by omega
  have n1 : (n : Int) < 16 := by omega
  have HNE : Hid _ := hne
  clear ht hne
  go_enter Tryz.func65, Tryz.ntmps65
  go_wp2_with fail
  go_region_held3 (fun w' => w'.cell? ⟨bx, 0, none⟩ = some (.pointer (some ⟨bm, 0, none⟩)) ∧ w'.cell? ⟨bx, 17 + n * 3 + 2, none⟩ = some (.int .i64 (m.lf n).fr)) (first | exact ⟨c0, c2⟩ | exact h1c)
    ((go_at_call 67; refine (rShare_any _ _ _ _ s (by first | exact hr | exact hr.drew) hm (by omega) (by omega)).mono ?_; rintro e w1 ⟨rfl, hr1, hu1⟩; have h1c : w1.cell? ⟨bx, 0, none⟩ = some (.pointer (some ⟨bm, 0, none⟩)) ∧ w1.cell? ⟨bx, 17 + n * 3 + 2, none⟩ = some (.int .i64 (m.lf n).fr) := ⟨hu1.cell (by exact c0) HNE.out, hu1.cell (by exact c2) HNE.out⟩))
  have hu1' : Upd (fun k => k = bm) w w1 := (Upd.refl (fun k => k = bm) w).drew.trans hu1 (fun _ _ e => e)
  have h1 := h.upd hu1' HNE.out
  have d1 := h1.th n hn
  have d2 := h1.wr n hn
  have d3 := h1.fr n hn
  have d4 := h1.fz
  have h2 := h1.setLf hn lf0
  have d5 := h2.st n hn
  have d6 := h2.fz (1 + n)
  have h3 := h2.setSt hn z
  have hr2 := (hr1.upd (Upd.three w1 bx (17 + n * 3) (17 + n * 3 + 1) (17 + n * 3 + 2) (.bool lf0.there) (.bool lf0.wr) (.int .i64 lf0.fr)) (Ne.symm HNE.out)).upd (Upd.one _ bx (1 + n) (.int .i64 z)) (Ne.symm HNE.out)
  have H3 : Hid _ := h3
  have HR2 : Hid _ := hr2
  have hu3 := (hu1'.wide (T := fun k => k = bm ∨ k = bx) (fun _ e => Or.inl e)).trans ((Upd.three w1 bx (17 + n * 3) (17 + n * 3 + 1) (17 + n * 3 + 2) (.bool lf0.there) (.bool lf0.wr) (.int .i64 lf0.fr)).trans (Upd.one _ bx (1 + n) (.int .i64 z)) (fun _ _ e => e)) (fun _ _ e => Or.inr e)
  have HU3 : Hid _ := hu3
  have d7 := d4 (17 + n * 3)
  have d8 := d4 (17 + n * 3 + 1)
  have d9 := d4 (17 + n * 3 + 2)
  have H1 : Hid _ := h1
  clear h3 hr2 hu3 d4 h2 h1 hu1 hu1' hr1 h1c c0 c1 c2
  simp only [lf0] at d5 d6
  go_wp2_with fail
  go_end0
  exact ⟨rfl, HR2.out, H3.out, HU3.out⟩

theorem turn_any (w : World) (bx bm n : Nat) (z : Int) (m : Mp) (s : Pl) (h : RMap w bx bm m) (hr : RefAt w bm s) (hne : bx ≠ bm) (hn : n < 16) (hm : ∀ k, k < s.n → s.refs k ≤ 1000000) :
    Calls Tryz.prog 65 #[.pointer (some ⟨bx, 0, none⟩), .int .i64 n, .int .i64 z] w fun e w' => e = .returned (.tuple #[]) ∧ RefAt w' bm (turnP s m n z) ∧ RMap w' bx bm (turnM m n z) ∧ Upd (fun k => k = bm ∨ k = bx) w w' := by
  cases ht : ((m.lf n).there && !(z == 1)) with
  | false =>
    refine (turn_plain w bx bm n z m h hn ht).mono ?_
    rintro e w' ⟨rfl, rfl⟩
    simp only [turnP, turnM, ht, Bool.false_eq_true, if_false]
    exact ⟨trivial, hr.upd (Upd.one _ _ _ _) (Ne.symm hne), h.setSt hn z, (Upd.one _ _ _ _).wide (fun _ e => Or.inr e)⟩
  | true =>
    have ht' := ht
    simp only [Bool.and_eq_true, Bool.not_eq_true', beq_eq_false_iff_ne, ne_eq] at ht'
    refine (turn_drop w bx bm n z m s h hr hne hn hm ht'.1 (by simp [ht'.2])).mono ?_
    rintro e w' ⟨rfl, h1, h2, h3⟩
    simp only [turnP, turnM, ht, if_true]
    exact ⟨trivial, h1, h2, h3⟩

theorem rPlug_any (w : World) (bx bm : Nat) (n : Int) (m : Mp) (s : Pl) (h : RMap w bx bm m) (hr : RefAt w bm s) (hne : bx ≠ bm) (hm : ∀ k, k < s.n → s.refs k ≤ 1000000) :
    Calls Tryz.prog 38 #[.pointer (some ⟨bx, 0, none⟩), .int .i64 n] w fun e w' => e = .returned (.int .i64 (plugR s m n).1) ∧ RefAt w' bm (plugR s m n).2.1 ∧ RMap w' bx bm (plugR s m n).2.2 ∧ Upd (fun k => k = bm ∨ k = bx) w w' := by
  cases ho : onB n with
  | false =>
    simp only [plugR, ho, Bool.false_eq_true, if_false]
    go_enter Tryz.func38, Tryz.ntmps38
    go_wp2_with (go_at_call 39; refine (on_is _ _ ho).mono ?_; rintro e w' ⟨rfl, rfl⟩)
    go_ret
    exact ⟨rfl, hr, h, Upd.refl _ _⟩
  | true =>
    obtain ⟨h0, h1⟩ := (onB_iff n).1 ho
    obtain ⟨k, rfl⟩ := Int.eq_ofNat_of_zero_le h0
    have hk : k < 16 := by omega
    have c1 := h.st k hk
    by_cases hs : m.st k = 0
    · simp only [plugR, ho, if_true, Int.toNat_natCast, hs]
      have b1 : (m.st k != 0) = false := by simp [hs]
      clear hs
      go_enter Tryz.func38, Tryz.ntmps38
      go_wp2_with (go_at_call 39; refine (on_is _ _ ho).mono ?_; rintro e w' ⟨rfl, rfl⟩)
      refine (turn_any _ _ _ k _ _ s h hr hne hk hm).mono ?_
      rintro e w1 ⟨rfl, a1, a2, a3⟩
      go_wp2_with fail
      go_ret
      exact ⟨rfl, a1, a2, a3⟩
    · simp only [plugR, ho, if_true, Int.toNat_natCast, hs, if_false]
      have b1 : (m.st k != 0) = true := by simp [hs]
      clear hs
      go_enter Tryz.func38, Tryz.ntmps38
      go_wp2_with (go_at_call 39; refine (on_is _ _ ho).mono ?_; rintro e w' ⟨rfl, rfl⟩)
      go_ret
      exact ⟨rfl, hr, h, Upd.refl _ _⟩
end Go.Proofs.YtadpibcgjgcjhabGreatDoor
