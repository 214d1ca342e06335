/- The document's answer for chapter 2: Touch. -/
import Derived.Test.YtadpibcgjgcjhabGreatDoorMapT
namespace Go.Proofs.YtadpibcgjgcjhabGreatDoor
open Go.ChangeShapes Go.WideShapes Go.ChangeAt Go.RowKit
set_option maxRecDepth 100000
attribute [local go_sem ↓] Go.wp_at_zero Go.wp_at_succ

theorem rJoin_any (w : World) (bx bm : Nat) (n f : Int) (m : Mp) (s : Pl) (h : RMap w bx bm m) (hr : RefAt w bm s) (hne : bx ≠ bm) (hm : ∀ k, k < s.n → s.refs k ≤ 999999) :
    Calls Tryz.prog 43 #[.pointer (some ⟨bx, 0, none⟩), .int .i64 n, .int .i64 f] w fun e w' => e = .returned (.int .i64 (joinR s m n f).1) ∧ RefAt w' bm (joinR s m n f).2.1 ∧ RMap w' bx bm (joinR s m n f).2.2 ∧ Upd (fun k => k = bm ∨ k = bx) w w' := by
  cases ho : onB n with
  | false =>
    simp only [joinR, ho, Bool.false_eq_true, if_false]
    go_enter Tryz.func43, Tryz.ntmps43
    go_wp2_with (go_at_call 39; refine (on_is _ _ ho).mono ?_; rintro e w' ⟨rfl, rfl⟩)
    go_ret
    exact ⟨rfl, hr, h, Upd.refl _ _⟩
  | true =>
    cases ht : ((m.lf n.toNat).there && !((m.lf n.toNat).fr == f)) with
    | false =>
      refine (rJoin_no w bx bm n f m h ho ht).mono ?_
      rintro e w' ⟨rfl, hu⟩
      simp only [joinR, ho, ht, if_true, Bool.false_and, Bool.false_eq_true, if_false]
      exact ⟨trivial, hr.upd hu (fun f => f), h.upd hu (fun f => f), hu.wide (fun _ f => f.elim)⟩
    | true =>
      have ht' := ht
      simp only [Bool.and_eq_true, Bool.not_eq_true', beq_eq_false_iff_ne, ne_eq] at ht'
      cases hs : s.same (m.lf n.toNat).fr f with
      | false =>
        refine (rJoin_diff w bx bm n f m s h hr ho ht'.1 (by simp [ht'.2]) hs).mono ?_
        rintro e w' ⟨rfl, hu⟩
        simp only [joinR, ho, ht, hs, if_true, Bool.and_false, Bool.false_eq_true, if_false]
        exact ⟨trivial, hr.upd hu (fun f => f), h.upd hu (fun f => f), hu.wide (fun _ f => f.elim)⟩
      | true =>
        refine (rJoin_yes w bx bm n f m s h hr hne hm ho ht'.1 (by simp [ht'.2]) hs).mono ?_
        rintro e w' ⟨rfl, a1, a2, a3⟩
        simp only [joinR, ho, ht, hs, if_true, Bool.and_true]
        exact ⟨trivial, a1, a2, a3⟩

theorem touch_out (w : World) (bx : Nat) (n : Int) (wt : Bool) (ho : onB n = false) :
    Calls Tryz.prog 98 #[.pointer (some ⟨bx, 0, none⟩), .int .i64 n, .bool wt] w fun e w' => e = .returned (.tuple #[.int .i64 0, .bool false, .int .i64 1]) ∧ w' = w := by
  go_enter Tryz.func98, Tryz.ntmps98
  go_wp2_with (go_at_call 39; refine (on_is _ _ ho).mono ?_; rintro e w' ⟨rfl, rfl⟩)
  go_ret3
  exact ⟨rfl, rfl⟩
theorem touch_absent (w : World) (bx bm k : Nat) (wt : Bool) (m : Mp) (h : RMap w bx bm m) (hk : k < 16) (hs : m.st k = 0) :
    Calls Tryz.prog 98 #[.pointer (some ⟨bx, 0, none⟩), .int .i64 k, .bool wt] w fun e w' => e = .returned (.tuple #[.int .i64 0, .bool false, .int .i64 2]) ∧ w' = w := by
  have ho : onB (k : Int) = true := by simp [onB]; omega
  have c1 := h.st k hk
  have k1 : (k : Int) < 16 := by omega
  have b1 : (m.st k == 0) = true := by simp [hs]
  clear hs
  go_enter Tryz.func98, Tryz.ntmps98
  go_wp2_with (go_at_call 39; refine (on_is _ _ ho).mono ?_; rintro e w' ⟨rfl, rfl⟩)
  go_ret3
  exact ⟨rfl, rfl⟩
theorem touch_gone (w : World) (bx bm k : Nat) (wt : Bool) (m : Mp) (h : RMap w bx bm m) (hk : k < 16) (hs : m.st k = 2) :
    Calls Tryz.prog 98 #[.pointer (some ⟨bx, 0, none⟩), .int .i64 k, .bool wt] w fun e w' => e = .returned (.tuple #[.int .i64 0, .bool false, .int .i64 6]) ∧ w' = w := by
  have ho : onB (k : Int) = true := by simp [onB]; omega
  have c1 := h.st k hk
  have k1 : (k : Int) < 16 := by omega
  have b1 : (m.st k == 0) = false := by simp [hs]
  have b2 : (m.st k == 2) = true := by simp [hs]
  clear hs
  go_enter Tryz.func98, Tryz.ntmps98
  go_wp2_with (go_at_call 39; refine (on_is _ _ ho).mono ?_; rintro e w' ⟨rfl, rfl⟩)
  go_ret3
  exact ⟨rfl, rfl⟩
theorem touch_keep (w : World) (bx bm k : Nat) (wt : Bool) (m : Mp) (h : RMap w bx bm m) (hk : k < 16) (h0 : m.st k ≠ 0) (h2 : m.st k ≠ 2) (ht : (m.lf k).there = true) (hw : (!wt || (m.lf k).wr) = true) :
    Calls Tryz.prog 98 #[.pointer (some ⟨bx, 0, none⟩), .int .i64 k, .bool wt] w fun e w' => e = .returned (.tuple #[.int .i64 (m.lf k).fr, .bool false, .int .i64 0]) ∧ Upd (fun _ => False) w w' := by
  have ho : onB (k : Int) = true := by simp [onB]; omega
  have c1 := h.st k hk
  have k1 : (k : Int) < 16 := by omega
  have b1 : (m.st k == 0) = false := by simp [h0]
  have b2 : (m.st k == 2) = false := by simp [h2]
  have c2 := h.th k hk
  have c3 := h.wr k hk
  have c4 := h.fr k hk
  rw [ht] at c2
  clear h0 h2 ht
  cases wt with
  | false =>
    clear hw
    go_enter Tryz.func98, Tryz.ntmps98
    go_wp2_with (go_at_call 39; refine (on_is _ _ ho).mono ?_; rintro e w' ⟨rfl, rfl⟩)
    go_ret3
    exact ⟨rfl, (Upd.refl _ _).alloc _⟩
  | true =>
    have hw' : (m.lf k).wr = true := by simpa using hw
    rw [hw'] at c3
    clear hw hw'
    go_enter Tryz.func98, Tryz.ntmps98
    go_wp2_with (go_at_call 39; refine (on_is _ _ ho).mono ?_; rintro e w' ⟨rfl, rfl⟩)
    go_ret3
    exact ⟨rfl, (Upd.refl _ _).alloc _⟩
end Go.Proofs.YtadpibcgjgcjhabGreatDoor
