/- The document's answer for chapter 2: Unplug, Give, Seal, Join. -/
import Derived.Test.YtadpibcgjgcjhabGreatDoorMapR
namespace Go.Proofs.YtadpibcgjgcjhabGreatDoor
open Go.ChangeShapes Go.WideShapes Go.ChangeAt Go.RowKit
set_option maxRecDepth 100000
attribute [local go_sem ↓] Go.wp_at_zero Go.wp_at_succ

theorem rUnplug_any (w : World) (bx bm : Nat) (n : Int) (m : Mp) (s : Pl) (h : RMap w bx bm m) (hr : RefAt w bm s) (hne : bx ≠ bm) (hm : ∀ k, k < s.n → s.refs k ≤ 1000000) :
    Calls Tryz.prog 37 #[.pointer (some ⟨bx, 0, none⟩), .int .i64 n] w fun e w' => e = .returned (.int .i64 (unplugR s m n).1) ∧ RefAt w' bm (unplugR s m n).2.1 ∧ RMap w' bx bm (unplugR s m n).2.2 ∧ Upd (fun k => k = bm ∨ k = bx) w w' := by
  cases ho : onB n with
  | false =>
    simp only [unplugR, ho, Bool.false_eq_true, if_false]
    go_enter Tryz.func37, Tryz.ntmps37
    go_wp2_with (go_at_call 39; refine (on_is _ _ ho).mono ?_; rintro e w' ⟨rfl, rfl⟩)
    go_ret
    exact ⟨rfl, hr, h, Upd.refl _ _⟩
  | true =>
    obtain ⟨h0, h1⟩ := (onB_iff n).1 ho
    obtain ⟨k, rfl⟩ := Int.eq_ofNat_of_zero_le h0
    have hk : k < 16 := by omega
    have c1 := h.st k hk
    by_cases hs : m.st k = 0
    · simp only [unplugR, ho, if_true, Int.toNat_natCast, hs]
      have b1 : (m.st k == 0) = true := by simp [hs]
      clear hs
      go_enter Tryz.func37, Tryz.ntmps37
      go_wp2_with (go_at_call 39; refine (on_is _ _ ho).mono ?_; rintro e w' ⟨rfl, rfl⟩)
      go_ret
      exact ⟨rfl, hr, h, Upd.refl _ _⟩
    · simp only [unplugR, ho, if_true, Int.toNat_natCast, hs, if_false]
      have b1 : (m.st k == 0) = false := by simp [hs]
      clear hs
      go_enter Tryz.func37, Tryz.ntmps37
      go_wp2_with (go_at_call 39; refine (on_is _ _ ho).mono ?_; rintro e w' ⟨rfl, rfl⟩)
      refine (turn_any _ _ _ k _ _ s h hr hne hk hm).mono ?_
      rintro e w1 ⟨rfl, a1, a2, a3⟩
      go_wp2_with fail
      go_ret
      exact ⟨rfl, a1, a2, a3⟩
theorem rGive_any (w : World) (bx bm : Nat) (n : Int) (back : Bool) (m : Mp) (s : Pl) (h : RMap w bx bm m) (hr : RefAt w bm s) (hne : bx ≠ bm) (hm : ∀ k, k < s.n → s.refs k ≤ 1000000) :
    Calls Tryz.prog 40 #[.pointer (some ⟨bx, 0, none⟩), .int .i64 n, .bool back] w fun e w' => e = .returned (.int .i64 (giveR s m n back).1) ∧ RefAt w' bm (giveR s m n back).2.1 ∧ RMap w' bx bm (giveR s m n back).2.2 ∧ Upd (fun k => k = bm ∨ k = bx) w w' := by
  cases ho : onB n with
  | false =>
    simp only [giveR, ho, Bool.false_eq_true, if_false]
    go_enter Tryz.func40, Tryz.ntmps40
    go_wp2_with (go_at_call 39; refine (on_is _ _ ho).mono ?_; rintro e w' ⟨rfl, rfl⟩)
    go_ret
    exact ⟨rfl, hr, h, Upd.refl _ _⟩
  | true =>
    obtain ⟨h0, h1⟩ := (onB_iff n).1 ho
    obtain ⟨k, rfl⟩ := Int.eq_ofNat_of_zero_le h0
    have hk : k < 16 := by omega
    have c1 := h.st k hk
    cases back with
    | true =>
      by_cases hs : m.st k = 2
      · simp only [giveR, ho, if_true, Int.toNat_natCast, hs]
        have b1 : (m.st k == 2) = true := by simp [hs]
        clear hs
        go_enter Tryz.func40, Tryz.ntmps40
        go_wp2_with (go_at_call 39; refine (on_is _ _ ho).mono ?_; rintro e w' ⟨rfl, rfl⟩)
        refine (turn_any _ _ _ k _ _ s h hr hne hk hm).mono ?_
        rintro e w1 ⟨rfl, a1, a2, a3⟩
        go_wp2_with fail
        go_ret
        exact ⟨rfl, a1, a2, a3⟩
      · simp only [giveR, ho, if_true, Int.toNat_natCast, hs, if_false]
        have b1 : (m.st k == 2) = false := by simp [hs]
        clear hs
        go_enter Tryz.func40, Tryz.ntmps40
        go_wp2_with (go_at_call 39; refine (on_is _ _ ho).mono ?_; rintro e w' ⟨rfl, rfl⟩)
        go_ret
        exact ⟨rfl, hr, h, Upd.refl _ _⟩
    | false =>
      by_cases hs : m.st k = 1
      · simp only [giveR, ho, if_true, Int.toNat_natCast, hs, Bool.false_eq_true, if_false]
        have b1 : (m.st k == 1) = true := by simp [hs]
        clear hs
        go_enter Tryz.func40, Tryz.ntmps40
        go_wp2_with (go_at_call 39; refine (on_is _ _ ho).mono ?_; rintro e w' ⟨rfl, rfl⟩)
        refine (turn_any _ _ _ k _ _ s h hr hne hk hm).mono ?_
        rintro e w1 ⟨rfl, a1, a2, a3⟩
        go_wp2_with fail
        go_ret
        exact ⟨rfl, a1, a2, a3⟩
      · simp only [giveR, ho, if_true, Int.toNat_natCast, hs, if_false, Bool.false_eq_true]
        have b1 : (m.st k == 1) = false := by simp [hs]
        clear hs
        go_enter Tryz.func40, Tryz.ntmps40
        go_wp2_with (go_at_call 39; refine (on_is _ _ ho).mono ?_; rintro e w' ⟨rfl, rfl⟩)
        go_ret
        exact ⟨rfl, hr, h, Upd.refl _ _⟩
theorem rSeal_any (w : World) (bx bm : Nat) (n : Int) (m : Mp) (h : RMap w bx bm m) :
    Calls Tryz.prog 42 #[.pointer (some ⟨bx, 0, none⟩), .int .i64 n] w fun e w' => e = .returned (.int .i64 (sealR m n).1) ∧ RMap w' bx bm (sealR m n).2 ∧ Upd (fun k => k = bx) w w' := by
  cases ho : onB n with
  | false =>
    simp only [sealR, ho, Bool.false_eq_true, if_false]
    go_enter Tryz.func42, Tryz.ntmps42
    go_wp2_with (go_at_call 39; refine (on_is _ _ ho).mono ?_; rintro e w' ⟨rfl, rfl⟩)
    go_ret
    exact ⟨rfl, h, Upd.refl _ _⟩
  | true =>
    obtain ⟨h0, h1⟩ := (onB_iff n).1 ho
    obtain ⟨k, rfl⟩ := Int.eq_ofNat_of_zero_le h0
    have hk : k < 16 := by omega
    have c1 := h.th k hk
    have c2 := h.wr k hk
    have c3 := h.fz (17 + k * 3 + 1)
    cases ht : (m.lf k).there with
    | false =>
      simp only [sealR, ho, if_true, Int.toNat_natCast, ht, Bool.false_eq_true, if_false]
      rw [ht] at c1
      clear ht
      go_enter Tryz.func42, Tryz.ntmps42
      go_wp2_with (go_at_call 39; refine (on_is _ _ ho).mono ?_; rintro e w' ⟨rfl, rfl⟩)
      go_ret
      exact ⟨rfl, h, Upd.refl _ _⟩
    | true =>
      simp only [sealR, ho, if_true, Int.toNat_natCast, ht]
      rw [ht] at c1
      have h2 := h.setWr hk false
      simp only [ht] at h2
      have H2 : Hid _ := h2
      clear ht h2
      go_enter Tryz.func42, Tryz.ntmps42
      go_wp2_with (go_at_call 39; refine (on_is _ _ ho).mono ?_; rintro e w' ⟨rfl, rfl⟩)
      go_ret
      exact ⟨rfl, H2.out, Upd.one _ _ _ _⟩
end Go.Proofs.YtadpibcgjgcjhabGreatDoor
