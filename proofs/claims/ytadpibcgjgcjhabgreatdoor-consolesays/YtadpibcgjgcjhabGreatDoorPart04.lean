/- The document's answer for chapter 2: Unplug, Give, Seal, Join. -/
import Derived.Test.YtadpibcgjgcjhabGreatDoorPart03
namespace Go.Proofs.YtadpibcgjgcjhabGreatDoor
open Go.ChangeShapes Go.WideShapes Go.ChangeAt Go.RowKit
set_option maxRecDepth 100000
attribute [local go_sem ↓] Go.wp_at_zero Go.wp_at_succ

theorem rUnplug_any (w : World) (bx bm : Nat) (n : Int) (m : Mp) (s : Pl) (h : RMap w bx bm m) (hr : RefAt w bm s) (hne : bx ≠ bm) (hm : ∀ k, k < s.n → s.refs k ≤ 1000000) :
    Calls Tryz.prog 37 #[.pointer (some ⟨bx, 0, none⟩), .int .i64 n] w fun e w' => e = .returned (.int .i64 (unplugR s m n).1) ∧ RefAt w' bm (unplugR s m n).2.1 ∧ RMap w' bx bm (unplugR s m n).2.2 ∧ Upd (fun k => k = bm ∨ k = bx) w w' := by
  cases ho : onB n with
  | false =>
    simp only [unplugR, ho, Bool.false_eq_true, if_false]
    go_enter Tryz.func37, Tryz.ntmps37
    go_wp2_with (go_at_call 39; refine (on_is _ _ ho).mono ?_; rintro e w' ⟨rfl, rfl⟩)
    go_ret
    exact ⟨rfl, hr, h, Upd.refl _ _⟩
  | true =>
    obtain ⟨h0, h1⟩ := (onB_iff n).1 ho
    obtain ⟨k, rfl⟩ := Int.eq_ofNat_of_zero_le h0
    have hk : k < 16 := by omega
    have c1 := h.st k hk
    by_cases hs : m.st k = 0
    · simp only [unplugR, ho, if_true, Int.toNat_natCast, hs]
      have b1 : (m.st k == 0) = true := by simp [hs]
      clear hs
      go_enter Tryz.func37, Tryz.ntmps37
      go_wp2_with (go_at_call 39; refine (on_is _ _ ho).mono ?_; rintro e w' ⟨rfl, rfl⟩)
      go_ret
      exact ⟨rfl, hr, h, Upd.refl _ _⟩
    · simp only [unplugR, ho, if_true, Int.toNat_natCast, hs, if_false]
      have b1 : (m.st k == 0) = false := by simp [hs]
      clear hs
      go_enter Tryz.func37, Tryz.ntmps37
      go_wp2_with (go_at_call 39; refine (on_is _ _ ho).mono ?_; rintro e w' ⟨rfl, rfl⟩)
      refine (turn_any _ _ _ k _ _ s h hr hne hk hm).mono ?_
      rintro e w1 ⟨rfl, a1, a2, a3⟩
      go_wp2_with fail
      go_ret
      exact ⟨rfl, a1, a2, a3⟩
theorem rGive_any (w : World) (bx bm : Nat) (n : Int) (back : Bool) (m : Mp) (s : Pl) (h : RMap w bx bm m) (hr : RefAt w bm s) (hne : bx ≠ bm) (hm : ∀ k, k < s.n → s.refs k ≤ 1000000) :
    Calls Tryz.prog 40 #[.pointer (some ⟨bx, 0, none⟩), .int .i64 n, .bool back] w fun e w' => e = .returned (.int .i64 (giveR s m n back).1) ∧ RefAt w' bm (giveR s m n back).2.1 ∧ RMap w' bx bm (giveR s m n back).2.2 ∧ Upd (fun k => k = bm ∨ k = bx) w w' := by
  cases ho : onB n with
  | false =>
    simp only [giveR, ho, Bool.false_eq_true, if_false]
    go_enter Tryz.func40, Tryz.ntmps40
    go_wp2_with (go_at_call 39; refine (on_is _ _ ho).mono ?_; rintro e w' ⟨rfl, rfl⟩)
    go_ret
    exact ⟨rfl, hr, h, Upd.refl _ _⟩
  | true =>
    obtain ⟨h0, h1⟩ := (onB_iff n).1 ho
    obtain ⟨k, rfl⟩ := Int.eq_ofNat_of_zero_le h0
    have hk : k < 16 := by omega
    have c1 := h.st k hk
    cases back with
    | true =>
      by_cases hs : m.st k = 2
      · simp only [giveR, ho, if_true, Int.toNat_natCast, hs]
        have b1 : (m.st k == 2) = true := by simp [hs]
        clear hs
        go_enter Tryz.func40, Tryz.ntmps40
        go_wp2_with (go_at_call 39; refine (on_is _ _ ho).mono ?_; rintro e w' ⟨rfl, rfl⟩)
        refine (turn_any _ _ _ k _ _ s h hr hne hk hm).mono ?_
        rintro e w1 ⟨rfl, a1, a2, a3⟩
        go_wp2_with fail
        go_ret
        exact ⟨rfl, a1, a2, a3⟩
      · simp only [giveR, ho, if_true, Int.toNat_natCast, hs, if_false]
        have b1 : (m.st k == 2) = false := by simp [hs]
        clear hs
        go_enter Tryz.func40, Tryz.ntmps40
        go_wp2_with (go_at_call 39; refine (on_is _ _ ho).mono ?_; rintro e w' ⟨rfl, rfl⟩)
        go_ret
        exact ⟨rfl, hr, h, Upd.refl _ _⟩
    | false =>
      by_cases hs : m.st k = 1
      · simp only [giveR, ho, if_true, Int.toNat_natCast, hs, Bool.false_eq_true, if_false]
        have b1 : (m.st k == 1) = true := by simp [hs]
        clear hs
        go_enter Tryz.func40, Tryz.ntmps40
        go_wp2_with (go_at_call 39; refine (on_is _ _ ho).mono ?_; rintro e w' ⟨rfl, rfl⟩)
        refine (turn_any _ _ _ k _ _ s h hr hne hk hm).mono ?_
        rintro e w1 ⟨rfl, a1, a2, a3⟩
        go_wp2_with fail
        go_ret
        exact ⟨rfl, a1, a2, a3⟩
      · simp only [giveR, ho, if_true, Int.toNat_natCast, hs, if_false, Bool.false_eq_true]
        have b1 : (m.st k == 1) = false := by simp [hs]
        clear hs
        go_enter Tryz.func40, Tryz.ntmps40
        go_wp2_with (go_at_call 39; refine (on_is _ _ ho).mono ?_; rintro e w' ⟨rfl, rfl⟩)
        go_ret
        exact ⟨rfl, hr, h, Upd.refl _ _⟩
theorem rSeal_any (w : World) (bx bm : Nat) (n : Int) (m : Mp) (h : RMap w bx bm m) :
    Calls Tryz.prog 42 #[.pointer (some ⟨bx, 0, none⟩), .int .i64 n] w fun e w' => e = .returned (.int .i64 (sealR m n).1) ∧ RMap w' bx bm (sealR m n).2 ∧ Upd (fun k => k = bx) w w' := by
  cases ho : onB n with
  | false =>
    simp only [sealR, ho, Bool.false_eq_true, if_false]
    go_enter Tryz.func42, Tryz.ntmps42
    go_wp2_with (go_at_call 39; refine (on_is _ _ ho).mono ?_; rintro e w' ⟨rfl, rfl⟩)
    go_ret
    exact ⟨rfl, h, Upd.refl _ _⟩
  | true =>
    obtain ⟨h0, h1⟩ := (onB_iff n).1 ho
    obtain ⟨k, rfl⟩ := Int.eq_ofNat_of_zero_le h0
    have hk : k < 16 := by omega
    have c1 := h.th k hk
    have c2 := h.wr k hk
    have c3 := h.fz (17 + k * 3 + 1)
    cases ht : (m.lf k).there with
    | false =>
      simp only [sealR, ho, if_true, Int.toNat_natCast, ht, Bool.false_eq_true, if_false]
      rw [ht] at c1
      clear ht
      go_enter Tryz.func42, Tryz.ntmps42
      go_wp2_with (go_at_call 39; refine (on_is _ _ ho).mono ?_; rintro e w' ⟨rfl, rfl⟩)
      go_ret
      exact ⟨rfl, h, Upd.refl _ _⟩
    | true =>
      simp only [sealR, ho, if_true, Int.toNat_natCast, ht]
      rw [ht] at c1
      have h2 := h.setWr hk false
      simp only [ht] at h2
      have H2 : Hid _ := h2
      clear ht h2
      go_enter Tryz.func42, Tryz.ntmps42
      go_wp2_with (go_at_call 39; refine (on_is _ _ ho).mono ?_; rintro e w' ⟨rfl, rfl⟩)
      go_ret
      exact ⟨rfl, H2.out, Upd.one _ _ _ _⟩
end Go.Proofs.YtadpibcgjgcjhabGreatDoor
/- The document's answer for chapter 2: Join, Touch. -/
namespace Go.Proofs.YtadpibcgjgcjhabGreatDoor
open Go.ChangeShapes Go.WideShapes Go.ChangeAt Go.RowKit
set_option maxRecDepth 100000
attribute [local go_sem ↓] Go.wp_at_zero Go.wp_at_succ

/-- The box of a leaf. -/
structure LfAt (w : World) (q : Nat) (l : Lf) : Prop where
  c0 : w.cell? ⟨q, 0, none⟩ = some (.bool l.there)
  c1 : w.cell? ⟨q, 1, none⟩ = some (.bool l.wr)
  c2 : w.cell? ⟨q, 2, none⟩ = some (.int .i64 l.fr)
theorem LfAt.upd {S : Nat → Prop} {w w' : World} {q : Nat} {l : Lf} (h : LfAt w q l) (u : Upd S w w') (hq : ¬ S q) : LfAt w' q l := ⟨u.cell h.c0 hq, u.cell h.c1 hq, u.cell h.c2 hq⟩
theorem LfAt.new (w : World) (t : TypeId) (l : Lf) : LfAt (w.alloc (.cells #[.bool l.there, .bool l.wr, .int .i64 l.fr] t)) w.heap.size l :=
  ⟨by rw [World.cell?_alloc_new]; rfl, by rw [World.cell?_alloc_new]; rfl, by rw [World.cell?_alloc_new]; rfl⟩

theorem rJoin_no (w : World) (bx bm : Nat) (n f : Int) (m : Mp) (h : RMap w bx bm m) (ho : onB n = true) (ht : ((m.lf n.toNat).there && !((m.lf n.toNat).fr == f)) = false) :
    Calls Tryz.prog 43 #[.pointer (some ⟨bx, 0, none⟩), .int .i64 n, .int .i64 f] w fun e w' => e = .returned (.int .i64 8) ∧ Upd (fun _ => False) w w' := by
  obtain ⟨h0, h1⟩ := (onB_iff n).1 ho
  obtain ⟨k, rfl⟩ := Int.eq_ofNat_of_zero_le h0
  rw [Int.toNat_natCast] at ht
  have hk : k < 16 := by omega
  have c0 := h.th k hk
  have c1 := h.wr k hk
  have c2 := h.fr k hk
  cases htt : (m.lf k).there with
  | false =>
    rw [htt] at c0
    clear ht htt
    go_enter Tryz.func43, Tryz.ntmps43
    go_wp2_with (go_at_call 39; refine (on_is _ _ ho).mono ?_; rintro e w' ⟨rfl, rfl⟩)
    go_ret
    exact ⟨rfl, (Upd.refl _ _).alloc _⟩
  | true =>
    rw [htt] at c0 ht
    have hb : ((m.lf k).fr != f) = false := by
      simp only [Bool.true_and, Bool.not_eq_false', beq_iff_eq] at ht
      simp [ht]
    clear ht htt
    go_enter Tryz.func43, Tryz.ntmps43
    go_wp2_with (go_at_call 39; refine (on_is _ _ ho).mono ?_; rintro e w' ⟨rfl, rfl⟩)
    go_ret
    exact ⟨rfl, (Upd.refl _ _).alloc _⟩

theorem rSame_is (w : World) (bm : Nat) (f g : Int) (s : Pl) (h : RefAt w bm s) {u : Bool} (hu : s.same f g = u) :
    Calls Tryz.prog 41 #[.pointer (some ⟨bm, 0, none⟩), .int .i64 f, .int .i64 g] w fun e w' => e = .returned (.bool u) ∧ ∃ m, w' = w.drewN m := by
  subst hu; exact rSame_any w bm f g s h
theorem rJoin_diff (w : World) (bx bm : Nat) (n f : Int) (m : Mp) (s : Pl) (h : RMap w bx bm m) (hr : RefAt w bm s) (ho : onB n = true) (ht : (m.lf n.toNat).there = true) (hf : ((m.lf n.toNat).fr != f) = true) (hs : s.same (m.lf n.toNat).fr f = false) :
    Calls Tryz.prog 43 #[.pointer (some ⟨bx, 0, none⟩), .int .i64 n, .int .i64 f] w fun e w' => e = .returned (.int .i64 8) ∧ Upd (fun _ => False) w w' := by
  obtain ⟨h0, h1⟩ := (onB_iff n).1 ho
  obtain ⟨k, rfl⟩ := Int.eq_ofNat_of_zero_le h0
  rw [Int.toNat_natCast] at ht hf hs
  have hk : k < 16 := by omega
  have c0 := h.th k hk
  have c1 := h.wr k hk
  have c2 := h.fr k hk
  rw [ht] at c0
  have HS : Hid _ := hs
  clear ht hs
  go_enter Tryz.func43, Tryz.ntmps43
  go_wp2_with (go_at_call 39; refine (on_is _ _ ho).mono ?_; rintro e w' ⟨rfl, rfl⟩)
  have u1 := (Upd.refl (fun _ => False) w').alloc (.cells #[.bool true, .bool (m.lf k).wr, .int .i64 (m.lf k).fr] 92)
  have b1 := LfAt.new w' 92 ⟨true, (m.lf k).wr, (m.lf k).fr⟩
  revert u1 b1
  generalize w'.alloc (.cells #[.bool true, .bool (m.lf k).wr, .int .i64 (m.lf k).fr] 92) = w1
  generalize w'.heap.size = q
  intro u1 b1
  have hr1 := hr.upd u1 (fun f => f)
  have d0 := u1.cell h.pool (fun f => f)
  have d2 := b1.c2
  clear c0 c1 c2
  go_quiet ((go_at_call 41; exact Calls.quiet_of (rSame_is _ _ _ _ s (hr1.drewN _) HS.out)))
  go_wp2_with fail
  go_ret
  exact ⟨rfl, u1.drewN nq⟩
theorem rJoin_yes (w : World) (bx bm : Nat) (n f : Int) (m : Mp) (s : Pl) (h : RMap w bx bm m) (hr : RefAt w bm s) (hne : bx ≠ bm) (hm : ∀ k, k < s.n → s.refs k ≤ 999999) (ho : onB n = true) (ht : (m.lf n.toNat).there = true) (hf : ((m.lf n.toNat).fr != f) = true) (hs : s.same (m.lf n.toNat).fr f = true) :
    Calls Tryz.prog 43 #[.pointer (some ⟨bx, 0, none⟩), .int .i64 n, .int .i64 f] w fun e w' => e = .returned (.int .i64 0) ∧ RefAt w' bm ((s.share f 1).2.share (m.lf n.toNat).fr (-1)).2 ∧ RMap w' bx bm { m with lf := setAt m.lf n.toNat ⟨true, false, f⟩ } ∧ Upd (fun k => k = bm ∨ k = bx) w w' := by
  obtain ⟨h0, h1⟩ := (onB_iff n).1 ho
  obtain ⟨k, rfl⟩ := Int.eq_ofNat_of_zero_le h0
  rw [Int.toNat_natCast] at *
  have hk : k < 16 := by omega
  have k0 : (0 : Int) ≤ (k : Int) := by omega
  have k1 : (k : Int) < 16 := by omega
  have c0 := h.th k hk
  have c1 := h.wr k hk
  have c2 := h.fr k hk
  rw [ht] at c0
  have HS : Hid _ := hs
  have HNE : Hid _ := hne
  have hbm : bm < w.heap.size := World.block_lt_of_cell? _ _ hr.num
  have hbx := h.lt
  clear ht hs hne
  go_enter Tryz.func43, Tryz.ntmps43
  go_wp2_with (go_at_call 39; refine (on_is _ _ ho).mono ?_; rintro e w' ⟨rfl, rfl⟩)
  have u1 := (Upd.refl (fun _ => False) w').alloc (.cells #[.bool true, .bool (m.lf k).wr, .int .i64 (m.lf k).fr] 92)
  have b1 := LfAt.new w' 92 ⟨true, (m.lf k).wr, (m.lf k).fr⟩
  revert u1 b1 hbm hbx
  generalize w'.alloc (.cells #[.bool true, .bool (m.lf k).wr, .int .i64 (m.lf k).fr] 92) = w1
  generalize w'.heap.size = q
  intro hbm hbx u1 b1
  have hr1 := hr.upd u1 (fun f => f)
  have hx1 := h.upd u1 (fun f => f)
  have d0 := hx1.pool
  have d2 := b1.c2
  clear c0 c1 c2
  go_quiet ((go_at_call 41; exact Calls.quiet_of (rSame_is _ _ _ _ s (hr1.drewN _) HS.out)))
  have u2 := u1.drewN nq
  have hr2 := hr1.drewN nq
  have hx2 := hx1.drewN nq
  have b2 := b1.upd ((Upd.refl (fun _ => False) w1).drewN nq) (fun f => f)
  clear u1 hr1 hx1 b1 d0 d2
  revert u2 hr2 hx2 b2
  generalize w1.drewN nq = w2
  intro u2 hr2 hx2 b2
  have d0 := hx2.pool
  go_wp2_with fail
  refine (rShare_any _ _ _ _ s hr2 (fun k hk => by have := hm k hk; omega) (by omega) (by omega)).mono ?_
  rintro e w3 ⟨rfl, hr3, hu3⟩
  have hx3 := hx2.upd hu3 HNE.out
  have b3 := b2.upd hu3 (by omega)
  have e0 := hx3.pool
  have e2 := b3.c2
  have hm3 : ∀ k, k < (s.share f 1).2.n → (s.share f 1).2.refs k ≤ 1000000 := by
    have := share_bd (s := s) (f := f) (d := 1) (n := s.n) (B := 999998) rfl (fun f hf => by have := hm f hf; omega) (by omega)
    intro k hk
    have := this k (by rw [share_n] at hk; exact hk)
    omega
  clear d0 b2 hx2 hr2
  go_wp2_with fail
  go_region_held3 (fun w' => w'.cell? ⟨bx, 0, none⟩ = some (.pointer (some ⟨bm, 0, none⟩)) ∧ w'.cell? ⟨q, 2, none⟩ = some (.int .i64 (m.lf k).fr)) (first | exact ⟨e0, e2⟩ | exact h4c)
    ((go_at_call 67; refine (rShare_any _ _ _ _ (s.share f 1).2 (by first | exact hr3 | exact hr3.drew) hm3 (by omega) (by omega)).mono ?_; rintro e w4 ⟨rfl, hr4, hu4⟩; have h4c : w4.cell? ⟨bx, 0, none⟩ = some (.pointer (some ⟨bm, 0, none⟩)) ∧ w4.cell? ⟨q, 2, none⟩ = some (.int .i64 (m.lf k).fr) := ⟨hu4.cell (by exact e0) HNE.out, hu4.cell (by exact e2) (by show ¬ q = bm; omega)⟩))
  have hx4 := hx3.drew.upd hu4 HNE.out
  have g1 := hx4.th k hk
  have g2 := hx4.wr k hk
  have g3 := hx4.fr k hk
  have g4 := hx4.fz (17 + k * 3)
  have g5 := hx4.fz (17 + k * 3 + 1)
  have g6 := hx4.fz (17 + k * 3 + 2)
  have hx5 := hx4.setLf hk ⟨true, false, f⟩
  have hr5 := hr4.upd (Upd.three w4 bx (17 + k * 3) (17 + k * 3 + 1) (17 + k * 3 + 2) (.bool true) (.bool false) (.int .i64 f)) (Ne.symm HNE.out)
  have hu5 : Upd (fun k => k = bm ∨ k = bx) w' _ := (((u2.wide (T := fun k => k = bm ∨ k = bx) (fun _ f => f.elim)).trans hu3 (fun _ _ e => Or.inl e)).drew.trans hu4 (fun _ _ e => Or.inl e)).trans (Upd.three w4 bx (17 + k * 3) (17 + k * 3 + 1) (17 + k * 3 + 2) (.bool true) (.bool false) (.int .i64 f)) (fun _ _ e => Or.inr e)
  have HX5 : Hid _ := hx5
  have HR5 : Hid _ := hr5
  have HU5 : Hid _ := hu5
  clear hx5 hr5 hu5 hx4 hr4 hu4 h4c e0 e2 hx3 b3 hr3 hu3 u2
  go_wp2_with fail
  go_ret
  exact ⟨rfl, HR5.out, HX5.out, HU5.out⟩
end Go.Proofs.YtadpibcgjgcjhabGreatDoor
/- The document's answer for chapter 2: Touch. -/
namespace Go.Proofs.YtadpibcgjgcjhabGreatDoor
open Go.ChangeShapes Go.WideShapes Go.ChangeAt Go.RowKit
set_option maxRecDepth 100000
attribute [local go_sem ↓] Go.wp_at_zero Go.wp_at_succ

theorem rJoin_any (w : World) (bx bm : Nat) (n f : Int) (m : Mp) (s : Pl) (h : RMap w bx bm m) (hr : RefAt w bm s) (hne : bx ≠ bm) (hm : ∀ k, k < s.n → s.refs k ≤ 999999) :
    Calls Tryz.prog 43 #[.pointer (some ⟨bx, 0, none⟩), .int .i64 n, .int .i64 f] w fun e w' => e = .returned (.int .i64 (joinR s m n f).1) ∧ RefAt w' bm (joinR s m n f).2.1 ∧ RMap w' bx bm (joinR s m n f).2.2 ∧ Upd (fun k => k = bm ∨ k = bx) w w' := by
  cases ho : onB n with
  | false =>
    simp only [joinR, ho, Bool.false_eq_true, if_false]
    go_enter Tryz.func43, Tryz.ntmps43
    go_wp2_with (go_at_call 39; refine (on_is _ _ ho).mono ?_; rintro e w' ⟨rfl, rfl⟩)
    go_ret
    exact ⟨rfl, hr, h, Upd.refl _ _⟩
  | true =>
    cases ht : ((m.lf n.toNat).there && !((m.lf n.toNat).fr == f)) with
    | false =>
      refine (rJoin_no w bx bm n f m h ho ht).mono ?_
      rintro e w' ⟨rfl, hu⟩
      simp only [joinR, ho, ht, if_true, Bool.false_and, Bool.false_eq_true, if_false]
      exact ⟨trivial, hr.upd hu (fun f => f), h.upd hu (fun f => f), hu.wide (fun _ f => f.elim)⟩
    | true =>
      have ht' := ht
      simp only [Bool.and_eq_true, Bool.not_eq_true', beq_eq_false_iff_ne, ne_eq] at ht'
      cases hs : s.same (m.lf n.toNat).fr f with
      | false =>
        refine (rJoin_diff w bx bm n f m s h hr ho ht'.1 (by simp [ht'.2]) hs).mono ?_
        rintro e w' ⟨rfl, hu⟩
        simp only [joinR, ho, ht, hs, if_true, Bool.and_false, Bool.false_eq_true, if_false]
        exact ⟨trivial, hr.upd hu (fun f => f), h.upd hu (fun f => f), hu.wide (fun _ f => f.elim)⟩
      | true =>
        refine (rJoin_yes w bx bm n f m s h hr hne hm ho ht'.1 (by simp [ht'.2]) hs).mono ?_
        rintro e w' ⟨rfl, a1, a2, a3⟩
        simp only [joinR, ho, ht, hs, if_true, Bool.and_true]
        exact ⟨trivial, a1, a2, a3⟩

theorem touch_out (w : World) (bx : Nat) (n : Int) (wt : Bool) (ho : onB n = false) :
    Calls Tryz.prog 98 #[.pointer (some ⟨bx, 0, none⟩), .int .i64 n, .bool wt] w fun e w' => e = .returned (.tuple #[.int .i64 0, .bool false, .int .i64 1]) ∧ w' = w := by
  go_enter Tryz.func98, Tryz.ntmps98
  go_wp2_with (go_at_call 39; refine (on_is _ _ ho).mono ?_; rintro e w' ⟨rfl, rfl⟩)
  go_ret3
  exact ⟨rfl, rfl⟩
theorem touch_absent (w : World) (bx bm k : Nat) (wt : Bool) (m : Mp) (h : RMap w bx bm m) (hk : k < 16) (hs : m.st k = 0) :
    Calls Tryz.prog 98 #[.pointer (some ⟨bx, 0, none⟩), .int .i64 k, .bool wt] w fun e w' => e = .returned (.tuple #[.int .i64 0, .bool false, .int .i64 2]) ∧ w' = w := by
  have ho : onB (k : Int) = true := by simp [onB]; omega
  have c1 := h.st k hk
  have k1 : (k : Int) < 16 := by omega
  have b1 : (m.st k == 0) = true := by simp [hs]
  clear hs
  go_enter Tryz.func98, Tryz.ntmps98
  go_wp2_with (go_at_call 39; refine (on_is _ _ ho).mono ?_; rintro e w' ⟨rfl, rfl⟩)
  go_ret3
  exact ⟨rfl, rfl⟩
theorem touch_gone (w : World) (bx bm k : Nat) (wt : Bool) (m : Mp) (h : RMap w bx bm m) (hk : k < 16) (hs : m.st k = 2) :
    Calls Tryz.prog 98 #[.pointer (some ⟨bx, 0, none⟩), .int .i64 k, .bool wt] w fun e w' => e = .returned (.tuple #[.int .i64 0, .bool false, .int .i64 6]) ∧ w' = w := by
  have ho : onB (k : Int) = true := by simp [onB]; omega
  have c1 := h.st k hk
  have k1 : (k : Int) < 16 := by omega
  have b1 : (m.st k == 0) = false := by simp [hs]
  have b2 : (m.st k == 2) = true := by simp [hs]
  clear hs
  go_enter Tryz.func98, Tryz.ntmps98
  go_wp2_with (go_at_call 39; refine (on_is _ _ ho).mono ?_; rintro e w' ⟨rfl, rfl⟩)
  go_ret3
  exact ⟨rfl, rfl⟩
theorem touch_keep (w : World) (bx bm k : Nat) (wt : Bool) (m : Mp) (h : RMap w bx bm m) (hk : k < 16) (h0 : m.st k ≠ 0) (h2 : m.st k ≠ 2) (ht : (m.lf k).there = true) (hw : (!wt || (m.lf k).wr) = true) :
    Calls Tryz.prog 98 #[.pointer (some ⟨bx, 0, none⟩), .int .i64 k, .bool wt] w fun e w' => e = .returned (.tuple #[.int .i64 (m.lf k).fr, .bool false, .int .i64 0]) ∧ Upd (fun _ => False) w w' := by
  have ho : onB (k : Int) = true := by simp [onB]; omega
  have c1 := h.st k hk
  have k1 : (k : Int) < 16 := by omega
  have b1 : (m.st k == 0) = false := by simp [h0]
  have b2 : (m.st k == 2) = false := by simp [h2]
  have c2 := h.th k hk
  have c3 := h.wr k hk
  have c4 := h.fr k hk
  rw [ht] at c2
  clear h0 h2 ht
  cases wt with
  | false =>
    clear hw
    go_enter Tryz.func98, Tryz.ntmps98
    go_wp2_with (go_at_call 39; refine (on_is _ _ ho).mono ?_; rintro e w' ⟨rfl, rfl⟩)
    go_ret3
    exact ⟨rfl, (Upd.refl _ _).alloc _⟩
  | true =>
    have hw' : (m.lf k).wr = true := by simpa using hw
    rw [hw'] at c3
    clear hw hw'
    go_enter Tryz.func98, Tryz.ntmps98
    go_wp2_with (go_at_call 39; refine (on_is _ _ ho).mono ?_; rintro e w' ⟨rfl, rfl⟩)
    go_ret3
    exact ⟨rfl, (Upd.refl _ _).alloc _⟩
end Go.Proofs.YtadpibcgjgcjhabGreatDoor
/- The document's answer for chapter 2: Touch, where a frame is wanted. -/
namespace Go.Proofs.YtadpibcgjgcjhabGreatDoor
open Go.ChangeShapes Go.WideShapes Go.ChangeAt Go.RowKit
set_option maxRecDepth 100000
attribute [local go_sem ↓] Go.wp_at_zero Go.wp_at_succ

theorem touch_own (w : World) (bx bm k : Nat) (m : Mp) (s : Pl) (h : RMap w bx bm m) (hr : RefAt w bm s) (hne : bx ≠ bm) (hk : k < 16) (h0 : m.st k ≠ 0) (h2 : m.st k ≠ 2) (ht : (m.lf k).there = true) (hw : (m.lf k).wr = false)
    (f0 : 0 ≤ (m.lf k).fr) (f1 : (m.lf k).fr < s.n) (hone : s.refs (m.lf k).fr.toNat = 1) :
    Calls Tryz.prog 98 #[.pointer (some ⟨bx, 0, none⟩), .int .i64 k, .bool true] w fun e w' => e = .returned (.tuple #[.int .i64 (m.lf k).fr, .bool false, .int .i64 0]) ∧ RMap w' bx bm { m with lf := setAt m.lf k { m.lf k with wr := true } } ∧ Upd (fun k => k = bx) w w' := by
  have ho : onB (k : Int) = true := by simp [onB]; omega
  have c1 := h.st k hk
  have k1 : (k : Int) < 16 := by omega
  have b1 : (m.st k == 0) = false := by simp [h0]
  have b2 : (m.st k == 2) = false := by simp [h2]
  have c2 := h.th k hk
  have c3 := h.wr k hk
  have c4 := h.fr k hk
  rw [ht] at c2
  rw [hw] at c3
  have HNE : Hid _ := hne
  have HT : Hid _ := ht
  have hl := hr.le
  have f2 : (m.lf k).fr < 64 := by omega
  clear h0 h2 ht hw hne
  go_enter Tryz.func98, Tryz.ntmps98
  go_wp2_with (go_at_call 39; refine (on_is _ _ ho).mono ?_; rintro e w' ⟨rfl, rfl⟩)
  have u1 := (Upd.refl (fun _ => False) w').alloc (.cells #[.bool true, .bool false, .int .i64 (m.lf k).fr] 92)
  have q1 := LfAt.new w' 92 ⟨true, false, (m.lf k).fr⟩
  have hbx := h.lt
  revert u1 q1 hbx
  generalize w'.alloc (.cells #[.bool true, .bool false, .int .i64 (m.lf k).fr] 92) = w1
  generalize w'.heap.size = q
  intro u1 q1 hbx
  have hr1 := hr.upd u1 (fun f => f)
  have hx1 := h.upd u1 (fun f => f)
  have d0 := hx1.pool
  have d2 := q1.c2
  have d3 := hr1.refs (m.lf k).fr.toNat (by omega)
  rw [hone] at d3
  clear c1 c2 c3 c4 hone
  go_quiet (fail)
  have u2 := u1.drewN nq
  have hx2 := hx1.drewN nq
  have q2 := q1.upd ((Upd.refl (fun _ => False) w1).drewN nq) (fun f => f)
  clear u1 hx1 q1 d0 d2 d3 hr1
  revert u2 hx2 q2
  generalize w1.drewN nq = w2
  intro u2 hx2 q2
  have e1 := hx2.wr k hk
  have e2 := hx2.fz (17 + k * 3 + 1)
  have e3 : (w2.setCell ⟨bx, 17 + k * 3 + 1, none⟩ (.bool true)).cell? ⟨q, 2, none⟩ = some (.int .i64 (m.lf k).fr) := by
    rw [World.cell?_setCell_other _ _ _ _ (addr_ne (Or.inl (by omega)))]; exact q2.c2
  have hx3 := hx2.setWr hk true
  simp only [HT.out] at hx3
  have HX3 : Hid _ := hx3
  have hu3 := (u2.wide (T := fun k => k = bx) (fun _ f => f.elim)).trans (Upd.one w2 bx (17 + k * 3 + 1) (.bool true)) (fun _ _ e => e)
  have HU3 : Hid _ := hu3
  clear hx3 hu3 hx2 q2 u2
  go_wp2_with fail
  go_ret3
  refine ⟨rfl, ?_, HU3.out⟩
  have := HX3.out
  simp only [HT.out]
  exact this

theorem rTake_ok (w : World) (bm j : Nat) (s : Pl) (h : RefAt w bm s) (hj : j < s.n) (h0 : s.refs j = 0) (hr : ∀ i, i < j → s.refs i ≠ 0) :
    Calls Tryz.prog 130 #[.pointer (some ⟨bm, 0, none⟩)] w fun e w' => e = .returned (.tuple #[.int .i64 j, .int .i64 0]) ∧ RefAt w' bm { s with refs := setAt s.refs j 1, byt := setAt s.byt j fun _ => 0 } ∧ Upd (fun k => k = bm) w w' := by
  refine (rTake_at w bm j s h hj h0 hr).mono ?_
  rintro e w' ⟨rfl, rfl⟩
  refine ⟨rfl, ?_, (Upd.one _ _ _ _).trans (Upd.row _ _ _ _) (fun _ _ e => e)⟩
  exact (h.setRef (f := j) (v := 1) hj (by omega)).setRow (f := j) hj (fun _ => 0)

/-- Touch goes on to take a frame: the ways there. -/
theorem touch_full (w : World) (bx bm k : Nat) (wt : Bool) (m : Mp) (s : Pl) (h : RMap w bx bm m) (hr : RefAt w bm s) (hk : k < 16) (h0 : m.st k ≠ 0) (h2 : m.st k ≠ 2)
    (hway : (m.lf k).there = false ∨ ((m.lf k).there = true ∧ wt = true ∧ (m.lf k).wr = false ∧ 0 ≤ (m.lf k).fr ∧ (m.lf k).fr < s.n ∧ s.refs (m.lf k).fr.toNat ≠ 1)) (hfull : ∀ i, i < s.n → s.refs i ≠ 0) :
    Calls Tryz.prog 98 #[.pointer (some ⟨bx, 0, none⟩), .int .i64 k, .bool wt] w fun e w' => e = .returned (.tuple #[.int .i64 0, .bool false, .int .i64 3]) ∧ Upd (fun _ => False) w w' := by
  have ho : onB (k : Int) = true := by simp [onB]; omega
  have c1 := h.st k hk
  have k1 : (k : Int) < 16 := by omega
  have b1 : (m.st k == 0) = false := by simp [h0]
  have b2 : (m.st k == 2) = false := by simp [h2]
  have c2 := h.th k hk
  have c3 := h.wr k hk
  have c4 := h.fr k hk
  have HF : Hid _ := hfull
  have hl := hr.le
  clear h0 h2 hfull
  rcases hway with ht | ⟨ht, rfl, hw, f0, f1, hone⟩
  · rw [ht] at c2
    have c0 := h.pool
    have hbx := h.lt
    clear ht
    go_enter Tryz.func98, Tryz.ntmps98
    go_wp2_with (go_at_call 39; refine (on_is _ _ ho).mono ?_; rintro e w' ⟨rfl, rfl⟩)
    have u1 := (Upd.refl (fun _ => False) w').alloc (.cells #[.bool false, .bool (m.lf k).wr, .int .i64 (m.lf k).fr] 92)
    revert u1
    generalize w'.alloc (.cells #[.bool false, .bool (m.lf k).wr, .int .i64 (m.lf k).fr] 92) = w1
    intro u1
    refine (rTake_full _ _ s (hr.upd u1 (fun f => f)) HF.out).mono ?_
    rintro e w2 ⟨rfl, rfl⟩
    go_wp2_with fail
    go_ret3
    exact ⟨rfl, u1⟩
  · rw [ht] at c2
    rw [hw] at c3
    have f2 : (m.lf k).fr < 64 := by omega
    have b3 : (s.refs (m.lf k).fr.toNat == 1) = false := by simp [hone]
    clear ht hw hone
    go_enter Tryz.func98, Tryz.ntmps98
    go_wp2_with (go_at_call 39; refine (on_is _ _ ho).mono ?_; rintro e w' ⟨rfl, rfl⟩)
    have u1 := (Upd.refl (fun _ => False) w').alloc (.cells #[.bool true, .bool false, .int .i64 (m.lf k).fr] 92)
    have q1 := LfAt.new w' 92 ⟨true, false, (m.lf k).fr⟩
    revert u1 q1
    generalize w'.alloc (.cells #[.bool true, .bool false, .int .i64 (m.lf k).fr] 92) = w1
    generalize w'.heap.size = q
    intro u1 q1
    have hr1 := hr.upd u1 (fun f => f)
    have d0 := u1.cell h.pool (fun f => f)
    have d2 := q1.c2
    have d3 := hr1.refs (m.lf k).fr.toNat (by omega)
    clear c1 c2 c3 c4
    go_quiet (fail)
    have u2 := u1.drewN nq
    have hr2 := hr1.drewN nq
    have e0 : (w1.drewN nq).cell? ⟨bx, 0, none⟩ = some (.pointer (some ⟨bm, 0, none⟩)) := d0
    clear u1 d0 d2 d3 hr1 q1
    revert u2 hr2 e0
    generalize w1.drewN nq = w2
    intro u2 hr2 e0
    go_wp2_with fail
    refine (rTake_full _ _ s hr2 HF.out).mono ?_
    rintro e w3 ⟨rfl, rfl⟩
    go_wp2_with fail
    go_ret3
    exact ⟨rfl, u2⟩

theorem touch_new (w : World) (bx bm k j : Nat) (wt : Bool) (m : Mp) (s : Pl) (h : RMap w bx bm m) (hr : RefAt w bm s) (hne : bx ≠ bm) (hk : k < 16) (h0 : m.st k ≠ 0) (h2 : m.st k ≠ 2)
    (ht : (m.lf k).there = false) (hj : j < s.n) (hj0 : s.refs j = 0) (hjr : ∀ i, i < j → s.refs i ≠ 0) :
    Calls Tryz.prog 98 #[.pointer (some ⟨bx, 0, none⟩), .int .i64 k, .bool wt] w fun e w' => e = .returned (.tuple #[.int .i64 j, .bool false, .int .i64 0]) ∧
      RefAt w' bm { s with refs := setAt s.refs j 1, byt := setAt s.byt j fun _ => 0 } ∧ RMap w' bx bm { m with lf := setAt m.lf k ⟨true, true, j⟩ } ∧ Upd (fun k => k = bm ∨ k = bx) w w' := by
  have ho : onB (k : Int) = true := by simp [onB]; omega
  have c1 := h.st k hk
  have k1 : (k : Int) < 16 := by omega
  have b1 : (m.st k == 0) = false := by simp [h0]
  have b2 : (m.st k == 2) = false := by simp [h2]
  have c2 := h.th k hk
  have c3 := h.wr k hk
  have c4 := h.fr k hk
  rw [ht] at c2
  have c0 := h.pool
  have hbx := h.lt
  have hbm : bm < w.heap.size := World.block_lt_of_cell? _ _ hr.num
  have HNE : Hid _ := hne
  have HJ0 : Hid _ := hj0
  have HJR : Hid _ := hjr
  clear h0 h2 ht hne hj0 hjr
  go_enter Tryz.func98, Tryz.ntmps98
  go_wp2_with (go_at_call 39; refine (on_is _ _ ho).mono ?_; rintro e w' ⟨rfl, rfl⟩)
  have u1 := (Upd.refl (fun _ => False) w').alloc (.cells #[.bool false, .bool (m.lf k).wr, .int .i64 (m.lf k).fr] 92)
  have q1 := LfAt.new w' 92 ⟨false, (m.lf k).wr, (m.lf k).fr⟩
  revert u1 q1 hbx hbm
  generalize w'.alloc (.cells #[.bool false, .bool (m.lf k).wr, .int .i64 (m.lf k).fr] 92) = w1
  generalize w'.heap.size = q
  intro hbx hbm u1 q1
  refine (rTake_ok _ _ j s (hr.upd u1 (fun f => f)) hj HJ0.out HJR.out).mono ?_
  rintro e w2 ⟨rfl, hr2, hu2⟩
  have hx2 := (h.upd u1 (fun f => f)).upd hu2 HNE.out
  have q2 := q1.upd hu2 (by omega)
  have d0 := q2.c0
  have g1 := hx2.th k hk
  have g2 := hx2.wr k hk
  have g3 := hx2.fr k hk
  have g4 := hx2.fz (17 + k * 3)
  have g5 := hx2.fz (17 + k * 3 + 1)
  have g6 := hx2.fz (17 + k * 3 + 2)
  have hx3 := hx2.setLf hk ⟨true, true, j⟩
  have hr3 := hr2.upd (Upd.three w2 bx (17 + k * 3) (17 + k * 3 + 1) (17 + k * 3 + 2) (.bool true) (.bool true) (.int .i64 j)) (Ne.symm HNE.out)
  have hu3 : Upd (fun k => k = bm ∨ k = bx) w' _ := ((u1.wide (T := fun k => k = bm ∨ k = bx) (fun _ f => f.elim)).trans hu2 (fun _ _ e => Or.inl e)).trans (Upd.three w2 bx (17 + k * 3) (17 + k * 3 + 1) (17 + k * 3 + 2) (.bool true) (.bool true) (.int .i64 j)) (fun _ _ e => Or.inr e)
  have q3 := q2.upd (Upd.three w2 bx (17 + k * 3) (17 + k * 3 + 1) (17 + k * 3 + 2) (.bool true) (.bool true) (.int .i64 j)) (by omega)
  have d1 := q3.c0
  have HX3 : Hid _ := hx3
  have HR3 : Hid _ := hr3
  have HU3 : Hid _ := hu3
  clear hx3 hr3 hu3 hx2 hr2 hu2 u1 q1 q2 q3 c0 c1 c2 c3 c4
  go_wp2_with fail
  go_quiet (fail)
  go_wp2_with fail
  go_ret3
  exact ⟨rfl, HR3.out.drewN _, HX3.out.drewN _, HU3.out.drewN _⟩

theorem touch_move (w : World) (bx bm k j : Nat) (m : Mp) (s : Pl) (h : RMap w bx bm m) (hr : RefAt w bm s) (hne : bx ≠ bm) (hm : ∀ k, k < s.n → s.refs k ≤ 999999) (hk : k < 16) (h0 : m.st k ≠ 0) (h2 : m.st k ≠ 2)
    (ht : (m.lf k).there = true) (hw : (m.lf k).wr = false) (f0 : 0 ≤ (m.lf k).fr) (f1 : (m.lf k).fr < s.n) (hone : s.refs (m.lf k).fr.toNat ≠ 1) (hused : s.refs (m.lf k).fr.toNat ≠ 0)
    (hj : j < s.n) (hj0 : s.refs j = 0) (hjr : ∀ i, i < j → s.refs i ≠ 0) :
    Calls Tryz.prog 98 #[.pointer (some ⟨bx, 0, none⟩), .int .i64 k, .bool true] w fun e w' => e = .returned (.tuple #[.int .i64 j, .bool true, .int .i64 0]) ∧
      RefAt w' bm (({ s with refs := setAt s.refs j 1, byt := setAt (setAt s.byt j fun _ => 0) j (setAt s.byt j (fun _ => 0) (m.lf k).fr.toNat) } : Pl).share (m.lf k).fr (-1)).2 ∧ RMap w' bx bm { m with lf := setAt m.lf k ⟨true, true, j⟩ } ∧ Upd (fun k => k = bm ∨ k = bx) w w' := by
  have ho : onB (k : Int) = true := by simp [onB]; omega
  have c1 := h.st k hk
  have k1 : (k : Int) < 16 := by omega
  have b1 : (m.st k == 0) = false := by simp [h0]
  have b2 : (m.st k == 2) = false := by simp [h2]
  have c2 := h.th k hk
  have c3 := h.wr k hk
  have c4 := h.fr k hk
  rw [ht] at c2
  rw [hw] at c3
  have hl := hr.le
  have f2 : (m.lf k).fr < 64 := by omega
  have b3 : (s.refs (m.lf k).fr.toNat == 1) = false := by simp [hone]
  have hbx := h.lt
  have hbm : bm < w.heap.size := World.block_lt_of_cell? _ _ hr.num
  have hfj : (m.lf k).fr.toNat ≠ j := fun e => hused (by rw [e]; exact hj0)
  have HNE : Hid _ := hne
  have HJ0 : Hid _ := hj0
  have HJR : Hid _ := hjr
  have HFJ : Hid _ := hfj
  clear h0 h2 ht hw hone hused hne hj0 hjr hfj
  go_enter Tryz.func98, Tryz.ntmps98
  go_wp2_with (go_at_call 39; refine (on_is _ _ ho).mono ?_; rintro e w' ⟨rfl, rfl⟩)
  have u1 := (Upd.refl (fun _ => False) w').alloc (.cells #[.bool true, .bool false, .int .i64 (m.lf k).fr] 92)
  have q1 := LfAt.new w' 92 ⟨true, false, (m.lf k).fr⟩
  revert u1 q1 hbx hbm
  generalize w'.alloc (.cells #[.bool true, .bool false, .int .i64 (m.lf k).fr] 92) = w1
  generalize w'.heap.size = q
  intro hbx hbm u1 q1
  have hr1 := hr.upd u1 (fun f => f)
  have d0 := u1.cell h.pool (fun f => f)
  have d2 := q1.c2
  have d3 := hr1.refs (m.lf k).fr.toNat (by omega)
  clear c1 c2 c3 c4
  go_quiet (fail)
  have u2 := u1.drewN nq
  have hr2 := hr1.drewN nq
  have e0 : (w1.drewN nq).cell? ⟨bx, 0, none⟩ = some (.pointer (some ⟨bm, 0, none⟩)) := d0
  have q2 := q1.upd ((Upd.refl (fun _ => False) w1).drewN nq) (fun f => f)
  clear u1 d0 d2 d3 hr1 q1
  revert u2 hr2 e0 q2
  generalize w1.drewN nq = w2
  intro u2 hr2 e0 q2
  go_wp2_with fail
  refine (rTake_ok _ _ j s hr2 hj HJ0.out HJR.out).mono ?_
  rintro e w3 ⟨rfl, hr3, hu3⟩
  have hx3 := (h.upd u2 (fun f => f)).upd hu3 HNE.out
  have q3 := q2.upd hu3 (by omega)
  have g0 := q3.c0
  have g2 := q3.c2
  have gp := hx3.pool
  have hrg := hr3.range (f := (m.lf k).fr.toNat) (by show _ < s.n; omega)
  have hth := hr3.there (f := j) (by show _ < s.n; omega)
  have e1 := rowOf_length (setAt s.byt j (fun _ => 0) (m.lf k).fr.toNat)
  have e2 := rowOf_one (setAt s.byt j (fun _ => 0) (m.lf k).fr.toNat)
  have hr4 := hr3.drew.setRow (f := j) (by show _ < s.n; omega) (setAt s.byt j (fun _ => 0) (m.lf k).fr.toNat)
  simp only at hrg
  revert hrg e1 e2 hr4
  generalize rowOf (setAt s.byt j (fun _ => 0) (m.lf k).fr.toNat) = cs
  intro hrg e1 e2 hr4
  have hi : (Tryz.prog.info? 44).map (·.size) = some cs.length := by rw [e1]; exact info32
  have hu := Tryz.underlying44
  have j0 : (0 : Int) ≤ (j : Int) := by omega
  have j1 : (j : Int) < 64 := by omega
  have hu4 := Upd.row w3.drew bm (1 + j * 16) cs
  have hx4 := hx3.drew.upd hu4 HNE.out
  have q4 := q3.upd ((Upd.refl (fun k => k = bm) w3).drew.trans hu4 (fun _ _ e => e)) (by omega)
  have hap : bm ≠ bm ∨ 1 + (m.lf k).fr.toNat * 16 + cs.length ≤ 1 + j * 16 ∨ 1 + j * 16 + cs.length ≤ 1 + (m.lf k).fr.toNat * 16 := by
    rcases Nat.lt_or_gt_of_ne HFJ.out with hlt | hgt
    · exact Or.inr (Or.inl (by rw [e1]; omega))
    · exact Or.inr (Or.inr (by rw [e1]; omega))
  have S4 : (w3.drew.setCells bm (1 + j * 16) cs).cell? ⟨bx, 0, none⟩ = some (.pointer (some ⟨bm, 0, none⟩)) ∧ (w3.drew.setCells bm (1 + j * 16) cs).cell? ⟨q, 2, none⟩ = some (.int .i64 (m.lf k).fr) ∧ (w3.drew.setCells bm (1 + j * 16) cs).rangeAt bm (1 + (m.lf k).fr.toNat * 16) cs ∧ (w3.drew.setCells bm (1 + j * 16) cs).there bm (1 + j * 16) 16 :=
    ⟨hx4.pool, q4.c2, World.rangeAt_setCells_apart (w := w3.drew) hrg bm (1 + j * 16) cs hap, World.there_setCells (w := w3.drew) hth bm (1 + j * 16) cs⟩
  clear hap
  have HS4 : Hid _ := S4
  have HR4 : Hid _ := hr4
  have HU4 : Hid _ := hu4
  have HX4 : Hid _ := hx4
  have HQ4 : Hid _ := q4
  have HR3 : Hid _ := hr3
  have HU3 : Hid _ := hu3
  have HU2 : Hid _ := u2
  clear S4 hr4 hu4 hx4 q4 hr3 hu3 u2 q2 hx3 hr2 e0 q3
  go_wp2_with fail
  go_region_held3 (fun w' => w'.cell? ⟨bx, 0, none⟩ = some (.pointer (some ⟨bm, 0, none⟩)) ∧ w'.cell? ⟨q, 2, none⟩ = some (.int .i64 (m.lf k).fr) ∧ w'.rangeAt bm (1 + (m.lf k).fr.toNat * 16) cs ∧ w'.there bm (1 + j * 16) 16) (first | exact ⟨gp, g2, hrg, hth⟩ | exact HS4.out) (fail)
  clear hrg hth e1 e2 hi hu g0 g2 gp HS4
  have hr4 := HR4.out
  have hx4 := HX4.out
  have q4 := HQ4.out
  have hu4 : Upd (fun k => k = bm ∨ k = bx) w' (w3.drew.setCells bm (1 + j * 16) cs) := (((HU2.out.wide (T := fun k => k = bm ∨ k = bx) (fun _ f => f.elim)).trans HU3.out (fun _ _ e => Or.inl e)).drew).trans HU4.out (fun _ _ e => Or.inl e)
  clear HR4 HX4 HQ4 HU4 HR3 HU3 HU2
  revert hr4 hx4 q4 hu4
  generalize w3.drew.setCells bm (1 + j * 16) cs = w4
  generalize hs4 : ({ s with refs := setAt s.refs j 1, byt := setAt (setAt s.byt j fun _ => 0) j (setAt s.byt j (fun _ => 0) (m.lf k).fr.toNat) } : Pl) = s4
  have hm4 : ∀ k, k < s4.n → s4.refs k ≤ 1000000 := by
    rw [← hs4]
    intro i hi
    exact setAt_le (n := s.n) (fun f hf => by have := hm f hf; omega) (by omega) i hi
  have HE : Hid _ := hs4
  clear hs4
  intro hr4 hx4 q4 hu4
  have g0 := hx4.pool
  have g2 := q4.c2
  go_wp2_with fail
  go_region_held3 (fun w' => w'.cell? ⟨bx, 0, none⟩ = some (.pointer (some ⟨bm, 0, none⟩)) ∧ w'.cell? ⟨q, 2, none⟩ = some (.int .i64 (m.lf k).fr)) (first | exact ⟨g0, g2⟩ | exact h5c)
    ((go_at_call 67; refine (rShare_any _ _ _ _ s4 (by first | exact hr4 | exact hr4.drew) hm4 (by omega) (by omega)).mono ?_; rintro e w5 ⟨rfl, hr5, hu5⟩; have h5c : w5.cell? ⟨bx, 0, none⟩ = some (.pointer (some ⟨bm, 0, none⟩)) ∧ w5.cell? ⟨q, 2, none⟩ = some (.int .i64 (m.lf k).fr) := ⟨hu5.cell (by exact g0) HNE.out, hu5.cell (by exact g2) (by show ¬ q = bm; omega)⟩))
  have hx5 := hx4.drew.upd hu5 HNE.out
  have q5 := q4.upd ((Upd.refl (fun k => k = bm) w4).drew.trans hu5 (fun _ _ e => e)) (by omega)
  have x1 := hx5.th k hk
  have x2 := hx5.wr k hk
  have x3 := hx5.fr k hk
  have x4 := hx5.fz (17 + k * 3)
  have x5 := hx5.fz (17 + k * 3 + 1)
  have x6 := hx5.fz (17 + k * 3 + 2)
  have hx6 := hx5.setLf hk ⟨true, true, j⟩
  have hr6 := hr5.upd (Upd.three w5 bx (17 + k * 3) (17 + k * 3 + 1) (17 + k * 3 + 2) (.bool true) (.bool true) (.int .i64 j)) (Ne.symm HNE.out)
  have hu6 : Upd (fun k => k = bm ∨ k = bx) w' _ := (hu4.drew.trans hu5 (fun _ _ e => Or.inl e)).trans (Upd.three w5 bx (17 + k * 3) (17 + k * 3 + 1) (17 + k * 3 + 2) (.bool true) (.bool true) (.int .i64 j)) (fun _ _ e => Or.inr e)
  have q6 := q5.upd (Upd.three w5 bx (17 + k * 3) (17 + k * 3 + 1) (17 + k * 3 + 2) (.bool true) (.bool true) (.int .i64 j)) (by omega)
  have x7 := q6.c0
  have HX6 : Hid _ := hx6
  have HR6 : Hid _ := hr6
  have HU6 : Hid _ := hu6
  clear hx6 hr6 hu6 hx5 hr5 hu5 q5 q6 h5c g0 g2 hr4 hx4 q4 hu4
  go_wp2_with fail
  go_quiet (fail)
  go_wp2_with fail
  go_ret3
  refine ⟨rfl, ?_, HX6.out.drewN _, HU6.out.drewN _⟩
  rw [HE.out]
  exact HR6.out.drewN _
end Go.Proofs.YtadpibcgjgcjhabGreatDoor
/- The document's answer for chapter 2: Touch, whatever the page. -/
namespace Go.Proofs.YtadpibcgjgcjhabGreatDoor
open Go.ChangeShapes Go.WideShapes Go.ChangeAt Go.RowKit
set_option maxRecDepth 100000

/-- Each page that is in a frame is in a used one. -/
def LfOk (s : Pl) (m : Mp) : Prop := ∀ k, k < 16 → (m.lf k).there = true → 0 ≤ (m.lf k).fr ∧ (m.lf k).fr < s.n ∧ s.refs (m.lf k).fr.toNat ≠ 0

theorem take_some {s : Pl} {j : Nat} (h : firstFrom s.refs 0 s.n = some j) : s.take = ((j : Int), 0, { s with refs := setAt s.refs j 1, byt := setAt s.byt j fun _ => 0 }) := by
  unfold Pl.take; rw [h]
theorem take_none {s : Pl} (h : firstFrom s.refs 0 s.n = none) : s.take = (0, 3, s) := by
  unfold Pl.take; rw [h]

theorem rTouch_any (w : World) (bx bm : Nat) (n : Int) (wt : Bool) (m : Mp) (s : Pl) (h : RMap w bx bm m) (hr : RefAt w bm s) (hne : bx ≠ bm) (hm : ∀ k, k < s.n → s.refs k ≤ 999999) (hi : LfOk s m) :
    Calls Tryz.prog 98 #[.pointer (some ⟨bx, 0, none⟩), .int .i64 n, .bool wt] w fun e w' => e = .returned (.tuple #[.int .i64 (touchR s m n wt).1.1, .bool (touchR s m n wt).1.2.1, .int .i64 (touchR s m n wt).1.2.2]) ∧
      RefAt w' bm (touchR s m n wt).2.1 ∧ RMap w' bx bm (touchR s m n wt).2.2 ∧ Upd (fun k => k = bm ∨ k = bx) w w' := by
  cases ho : onB n with
  | false =>
    refine (touch_out w bx n wt ho).mono ?_
    rintro e w' ⟨rfl, rfl⟩
    simp only [touchR, ho, Bool.false_eq_true, if_false]
    exact ⟨trivial, hr, h, Upd.refl _ _⟩
  | true =>
    obtain ⟨n0, n1⟩ := (onB_iff n).1 ho
    obtain ⟨k, rfl⟩ := Int.eq_ofNat_of_zero_le n0
    have hk : k < 16 := by omega
    by_cases s0 : m.st k = 0
    · refine (touch_absent w bx bm k wt m h hk s0).mono ?_
      rintro e w' ⟨rfl, rfl⟩
      simp only [touchR, ho, if_true, Int.toNat_natCast, s0]
      exact ⟨trivial, hr, h, Upd.refl _ _⟩
    · by_cases s2 : m.st k = 2
      · refine (touch_gone w bx bm k wt m h hk s2).mono ?_
        rintro e w' ⟨rfl, rfl⟩
        simp only [touchR, ho, if_true, Int.toNat_natCast, s2, show ¬ ((2 : Int) = 0) by omega, if_false]
        exact ⟨trivial, hr, h, Upd.refl _ _⟩
      · cases hkeep : ((m.lf k).there && (!wt || (m.lf k).wr)) with
        | true =>
          have hk' := hkeep
          simp only [Bool.and_eq_true] at hk'
          refine (touch_keep w bx bm k wt m h hk s0 s2 hk'.1 hk'.2).mono ?_
          rintro e w' ⟨rfl, hu⟩
          simp only [touchR, ho, if_true, Int.toNat_natCast, s0, s2, if_false, hkeep]
          exact ⟨trivial, hr.upd hu (fun f => f), h.upd hu (fun f => f), hu.wide (fun _ f => f.elim)⟩
        | false =>
          cases hone : ((m.lf k).there && (s.refs (m.lf k).fr.toNat == 1)) with
          | true =>
            have ho' := hone
            simp only [Bool.and_eq_true, beq_iff_eq] at ho'
            have hw := hkeep
            rw [ho'.1] at hw
            simp only [Bool.true_and, Bool.or_eq_false_iff, Bool.not_eq_false'] at hw
            obtain ⟨hw1, hw2⟩ := hw
            subst hw1
            obtain ⟨f0, f1, _⟩ := hi k hk ho'.1
            refine (touch_own w bx bm k m s h hr hne hk s0 s2 ho'.1 hw2 f0 f1 ho'.2).mono ?_
            rintro e w' ⟨rfl, hx, hu⟩
            simp only [touchR, ho, if_true, Int.toNat_natCast, s0, s2, if_false, hkeep, hone, Bool.false_eq_true]
            exact ⟨trivial, hr.upd hu (Ne.symm hne), hx, hu.wide (fun _ e => Or.inr e)⟩
          | false =>
            have way : (m.lf k).there = false ∨ ((m.lf k).there = true ∧ wt = true ∧ (m.lf k).wr = false ∧ 0 ≤ (m.lf k).fr ∧ (m.lf k).fr < s.n ∧ s.refs (m.lf k).fr.toNat ≠ 1) := by
              cases ht : (m.lf k).there with
              | false => exact Or.inl rfl
              | true =>
                rw [ht] at hkeep hone
                simp only [Bool.true_and, Bool.or_eq_false_iff, Bool.not_eq_false'] at hkeep
                obtain ⟨f0, f1, _⟩ := hi k hk ht
                exact Or.inr ⟨rfl, hkeep.1, hkeep.2, f0, f1, by simpa using hone⟩
            have hs := firstFrom_spec s.refs s.n 0
            revert hs
            cases hff : firstFrom s.refs 0 s.n with
            | none =>
              intro hs
              refine (touch_full w bx bm k wt m s h hr hk s0 s2 way (fun i hi => hs i (by omega) (by omega))).mono ?_
              rintro e w' ⟨rfl, hu⟩
              simp only [touchR, ho, if_true, Int.toNat_natCast, s0, s2, if_false, hkeep, hone, Bool.false_eq_true, take_none hff, show ¬ ((3 : Int) = 0) by omega]
              exact ⟨trivial, hr.upd hu (fun f => f), h.upd hu (fun f => f), hu.wide (fun _ f => f.elim)⟩
            | some j =>
              rintro ⟨_, j1, j2, j3⟩
              rcases way with ht | ⟨ht, rfl, hw, f0, f1, h1⟩
              · refine (touch_new w bx bm k j wt m s h hr hne hk s0 s2 ht (by omega) j2 (fun i hi => j3 i (by omega) hi)).mono ?_
                rintro e w' ⟨rfl, a1, a2, a3⟩
                simp only [touchR, ho, if_true, Int.toNat_natCast, s0, s2, if_false, ht, Bool.false_and, Bool.false_eq_true, take_some hff]
                exact ⟨trivial, a1, a2, a3⟩
              · refine (touch_move w bx bm k j m s h hr hne hm hk s0 s2 ht hw f0 f1 h1 (hi k hk ht).2.2 (by omega) j2 (fun i hi => j3 i (by omega) hi)).mono ?_
                rintro e w' ⟨rfl, a1, a2, a3⟩
                have hkeep' := hkeep
                have hone' := hone
                rw [ht] at hkeep' hone'
                simp only [touchR, ho, if_true, Int.toNat_natCast, s0, s2, if_false, ht, hkeep', hone', Bool.false_eq_true, take_some hff]
                exact ⟨trivial, a1, a2, a3⟩
end Go.Proofs.YtadpibcgjgcjhabGreatDoor
/- Two maps of pages on one pool, plainly: each frame has as many pages in it as leaves lead to it; every act keeps that. -/
namespace Go.Proofs.YtadpibcgjgcjhabGreatDoor
open Go.RowKit

/-- Pages of the first k that are in frame f. -/
def cntTo (lf : Nat → Lf) (f : Int) : Nat → Nat
  | 0 => 0
  | k + 1 => cntTo lf f k + if (lf k).there = true ∧ (lf k).fr = f then 1 else 0
def inIn (l : Lf) (f : Int) : Nat := if l.there = true ∧ l.fr = f then 1 else 0
theorem cntTo_succ (lf : Nat → Lf) (f : Int) (k : Nat) : cntTo lf f (k + 1) = cntTo lf f k + inIn (lf k) f := rfl
theorem cntTo_set_ge (lf : Nat → Lf) (f : Int) (n : Nat) (l : Lf) : ∀ k, k ≤ n → cntTo (setAt lf n l) f k = cntTo lf f k
  | 0, _ => rfl
  | k + 1, h => by
    rw [cntTo_succ, cntTo_succ, cntTo_set_ge lf f n l k (by omega), setAt_other _ _ _ _ (by omega)]
theorem cntTo_set (lf : Nat → Lf) (f : Int) (n : Nat) (l : Lf) : ∀ k, n < k → cntTo (setAt lf n l) f k + inIn (lf n) f = cntTo lf f k + inIn l f
  | 0, h => absurd h (by omega)
  | k + 1, h => by
    rw [cntTo_succ, cntTo_succ]
    by_cases e : k = n
    · subst e
      rw [cntTo_set_ge lf f k l k (Nat.le_refl _), setAt_same]
      omega
    · have := cntTo_set lf f n l k (by omega)
      rw [setAt_other _ _ _ _ e]
      omega
theorem cntTo_le (lf : Nat → Lf) (f : Int) : ∀ k, cntTo lf f k ≤ k
  | 0 => Nat.le_refl _
  | k + 1 => by
    have := cntTo_le lf f k
    rw [cntTo_succ]
    unfold inIn
    split <;> omega
theorem cntTo_pos (lf : Nat → Lf) (n : Nat) : ∀ k, n < k → (lf n).there = true → 1 ≤ cntTo lf (lf n).fr k
  | 0, h, _ => absurd h (by omega)
  | k + 1, h, ht => by
    rw [cntTo_succ]
    by_cases e : k = n
    · subst e
      have : inIn (lf k) (lf k).fr = 1 := by simp [inIn, ht]
      omega
    · have := cntTo_pos lf n k (by omega) ht
      omega
def cnt (m : Mp) (f : Int) : Nat := cntTo m.lf f 16

/-- A page's state is one of three; one that isn't Plain, or is in no frame, has the zero leaf. -/
def Pgs (m : Mp) : Prop := ∀ k, k < 16 → (0 ≤ m.st k ∧ m.st k ≤ 2) ∧ (m.st k ≠ 1 ∨ (m.lf k).there = false → m.lf k = lf0)
theorem Pgs.plain {m : Mp} (h : Pgs m) {k : Nat} (hk : k < 16) (ht : (m.lf k).there = true) : m.st k = 1 := by
  by_cases e : m.st k = 1
  · exact e
  · have := (h k hk).2 (Or.inl e)
    rw [this] at ht
    simp [lf0] at ht
theorem Pgs.zero {m : Mp} (h : Pgs m) {k : Nat} (hk : k < 16) (ht : m.st k ≠ 1) : m.lf k = lf0 := (h k hk).2 (Or.inl ht)
theorem Pgs.out {m : Mp} (h : Pgs m) {k : Nat} (hk : k < 16) (ht : (m.lf k).there = false) : m.lf k = lf0 := (h k hk).2 (Or.inr ht)
theorem Pgs.leaf {m : Mp} (h : Pgs m) {k : Nat} (hs : m.st k = 1) {l : Lf} (ht : l.there = true) : Pgs { m with st := m.st, lf := setAt m.lf k l } := by
  intro i hi
  refine ⟨(h i hi).1, ?_⟩
  by_cases e : i = k
  · subst e
    simp only [setAt_same]
    rintro (c | c)
    · exact absurd hs c
    · rw [ht] at c; exact absurd c (by simp)
  · simp only [setAt_other _ _ _ _ e]
    exact (h i hi).2
theorem Pgs.turn {m : Mp} (h : Pgs m) {k : Nat} {z : Int} (z0 : 0 ≤ z) (z2 : z ≤ 2) : Pgs (turnM m k z) := by
  intro i hi
  unfold turnM
  by_cases e : i = k
  · subst e
    refine ⟨by simp only [setAt_same]; exact ⟨z0, z2⟩, ?_⟩
    cases ht : (m.lf i).there with
    | false =>
      simp only [Bool.false_and, Bool.false_eq_true, if_false]
      intro _
      exact h.out hi ht
    | true =>
      by_cases ez : z = 1
      · subst ez
        simp [setAt_same, ht]
      · simp [setAt_same, ez]
  · refine ⟨by simp only [setAt_other _ _ _ _ e]; exact (h i hi).1, ?_⟩
    simp only [setAt_other _ _ _ _ e]
    split
    · simp only [setAt_other _ _ _ _ e]; exact (h i hi).2
    · exact (h i hi).2
theorem Pgs.start : Pgs mp0 := fun _ _ => ⟨by simp [mp0], fun _ => rfl⟩

/-- What holds of a pool and a map on it; b: the other pages on that pool, 48 of them in one row. -/
structure Inv (s : Pl) (a b : Mp) : Prop where
  pa : Pgs a
  cnt : ∀ f : Nat, f < s.n → s.refs f = cnt a f + cntTo b.lf f 48
  ina : ∀ k, k < 16 → (a.lf k).there = true → 0 ≤ (a.lf k).fr ∧ (a.lf k).fr < s.n
theorem Inv.le {s : Pl} {a b : Mp} (h : Inv s a b) : ∀ f, f < s.n → s.refs f ≤ 64 := fun f hf => by
  have := h.cnt f hf
  have := cntTo_le a.lf f 16
  have := cntTo_le b.lf f 48
  simp only [Go.Proofs.YtadpibcgjgcjhabGreatDoor.cnt] at *
  omega
theorem Inv.ok {s : Pl} {a b : Mp} (h : Inv s a b) : LfOk s a := fun k hk ht => by
  obtain ⟨h0, h1⟩ := h.ina k hk ht
  refine ⟨h0, h1, ?_⟩
  have := h.cnt (a.lf k).fr.toNat (by omega)
  have := cntTo_pos a.lf k 16 hk ht
  simp only [Go.Proofs.YtadpibcgjgcjhabGreatDoor.cnt, Int.toNat_of_nonneg h0] at *
  omega
theorem Inv.used {s : Pl} {a b : Mp} (h : Inv s a b) {k : Nat} (hk : k < 16) (ht : (a.lf k).there = true) : s.used (a.lf k).fr = true := by
  obtain ⟨h0, h1, h2⟩ := h.ok k hk ht
  exact (s.used_iff _).2 ⟨h0, h1, h2⟩
/-- A leaf turns: the frames' numbers turn with it. -/
theorem Inv.leaf {s : Pl} {a b : Mp} (h : Inv s a b) {k : Nat} (hk : k < 16) (l : Lf) (st : Nat → Int) (refs : Nat → Int) (byt : Nat → Nat → Int) (hl : l.there = true → 0 ≤ l.fr ∧ l.fr < s.n)
    (hr : ∀ f : Nat, f < s.n → refs f + inIn (a.lf k) f = s.refs f + inIn l f) (hq : Pgs { a with st := st, lf := setAt a.lf k l }) : Inv { s with refs := refs, byt := byt } { a with st := st, lf := setAt a.lf k l } b where
  pa := hq
  cnt := fun f hf => by
    have h1 := h.cnt f hf
    have h2 := cntTo_set a.lf f k l 16 hk
    have h3 := hr f hf
    simp only [Go.Proofs.YtadpibcgjgcjhabGreatDoor.cnt] at *
    omega
  ina := fun i hi ht => by
    by_cases e : i = k
    · subst e; simp only [setAt_same] at ht ⊢; exact hl ht
    · simp only [setAt_other _ _ _ _ e] at ht ⊢; exact h.ina i hi ht
theorem Inv.same {s : Pl} {a b : Mp} (h : Inv s a b) (byt : Nat → Nat → Int) (st : Nat → Int) (hq : Pgs { a with st := st }) : Inv { s with byt := byt } { a with st := st } b := ⟨hq, h.cnt, h.ina⟩

theorem inIn_lf0 (f : Int) : inIn lf0 f = 0 := by simp [inIn, lf0]
/-- A share or a drop of a used frame, at each number. -/
theorem share_refs {s : Pl} {f d : Int} (hu : s.used f = true) : (s.share f d).2 = { s with refs := setAt s.refs f.toNat (s.refs f.toNat + d) } := by
  unfold Pl.share; rw [if_pos hu]
theorem Inv.turn {s : Pl} {a b : Mp} (h : Inv s a b) {k : Nat} (hk : k < 16) (z : Int) (z0 : 0 ≤ z) (z2 : z ≤ 2) : Inv (turnP s a k z) (turnM a k z) b := by
  have hq := h.pa.turn (k := k) z0 z2
  revert hq
  unfold turnP turnM
  intro hq
  cases ht : ((a.lf k).there && !(z == 1)) with
  | false =>
    rw [ht] at hq
    simp only [Bool.false_eq_true, if_false] at hq ⊢
    exact h.same s.byt _ hq
  | true =>
    rw [ht] at hq
    simp only [if_true] at hq ⊢
    have ht' := ht
    simp only [Bool.and_eq_true] at ht'
    obtain ⟨f0, f1⟩ := h.ina k hk ht'.1
    rw [share_refs (h.used hk ht'.1)]
    refine h.leaf hk lf0 _ _ s.byt (fun e => by simp [lf0] at e) ?_ hq
    intro f hf
    rw [inIn_lf0]
    by_cases e : f = (a.lf k).fr.toNat
    · subst e
      have : inIn (a.lf k) (((a.lf k).fr.toNat : Nat) : Int) = 1 := by rw [Int.toNat_of_nonneg f0]; simp [inIn, ht'.1]
      rw [setAt_same]
      omega
    · have : inIn (a.lf k) (f : Int) = 0 := by
        unfold inIn
        rw [if_neg]
        rintro ⟨_, e2⟩
        omega
      rw [setAt_other _ _ _ _ e]
      omega
theorem turnM_b {s : Pl} {a b : Mp} (h : Inv s a b) {n : Int} {z : Int} (ho : onB n = true) (z0 : 0 ≤ z := by omega) (z2 : z ≤ 2 := by omega) : Inv (turnP s a n.toNat z) (turnM a n.toNat z) b :=
  h.turn (by have := (onB_iff n).1 ho; omega) z z0 z2
theorem Inv.plug {s : Pl} {a b : Mp} (h : Inv s a b) (n : Int) : Inv (plugR s a n).2.1 (plugR s a n).2.2 b := by
  unfold plugR
  split
  · rename_i ho
    split
    · exact turnM_b h ho
    · exact h
  · exact h
theorem Inv.unplug {s : Pl} {a b : Mp} (h : Inv s a b) (n : Int) : Inv (unplugR s a n).2.1 (unplugR s a n).2.2 b := by
  unfold unplugR
  split
  · rename_i ho
    split
    · exact h
    · exact turnM_b h ho
  · exact h
theorem Inv.give {s : Pl} {a b : Mp} (h : Inv s a b) (n : Int) (back : Bool) : Inv (giveR s a n back).2.1 (giveR s a n back).2.2 b := by
  unfold giveR
  split
  · rename_i ho
    split
    · split
      · exact turnM_b h ho
      · exact h
    · split
      · exact turnM_b h ho
      · exact h
  · exact h
theorem Inv.wr {s : Pl} {a b : Mp} (h : Inv s a b) {k : Nat} (hk : k < 16) (v : Bool) (ht : (a.lf k).there = true) : Inv s { a with lf := setAt a.lf k { a.lf k with wr := v } } b :=
  h.leaf hk { a.lf k with wr := v } a.st s.refs s.byt (fun e => h.ina k hk e) (fun _ _ => rfl) (h.pa.leaf (h.pa.plain hk ht) ht)
theorem Inv.seal {s : Pl} {a b : Mp} (h : Inv s a b) (n : Int) : Inv s (sealR a n).2 b := by
  unfold sealR
  split
  · rename_i ho
    split
    · rename_i ht; exact h.wr (by have := (onB_iff n).1 ho; omega) false ht
    · exact h
  · exact h
theorem inIn_at {l : Lf} {f : Nat} (ht : l.there = true) (h0 : 0 ≤ l.fr) : inIn l (f : Int) = if f = l.fr.toNat then 1 else 0 := by
  unfold inIn
  by_cases e : f = l.fr.toNat
  · rw [if_pos e, if_pos ⟨ht, by omega⟩]
  · rw [if_neg e, if_neg (fun c => e (by omega))]
theorem inIn_no {l : Lf} {f : Int} (ht : l.there = false) : inIn l f = 0 := by simp [inIn, ht]
theorem setAt_if (g : Nat → Int) (k i : Nat) (v : Int) : setAt g k v i = if i = k then v else g i := rfl
theorem Inv.touch {s : Pl} {a b : Mp} (h : Inv s a b) (n : Int) (wt : Bool) : Inv (touchR s a n wt).2.1 (touchR s a n wt).2.2 b := by
  unfold touchR
  split
  · rename_i ho
    have hk : n.toNat < 16 := by have := (onB_iff n).1 ho; omega
    generalize n.toNat = k at hk
    split
    · exact h
    · rename_i hs0
      split
      · exact h
      · rename_i hs2
        have hst : a.st k = 1 := by have := (h.pa k hk).1; omega
        split
        · exact h
        · split
          · rename_i ha
            exact h.wr hk true (by simp only [Bool.and_eq_true] at ha; exact ha.1)
          · cases hff : firstFrom s.refs 0 s.n with
            | none =>
              rw [take_none hff]
              rw [if_neg (show ¬ ((3 : Int) = 0) by omega)]
              exact h
            | some j =>
              rw [take_some hff]
              rw [if_pos rfl]
              have hs := firstFrom_spec s.refs s.n 0
              rw [hff] at hs
              obtain ⟨_, j1, j2, _⟩ := hs
              have lj : (⟨true, true, (j : Int)⟩ : Lf).there = true := rfl
              cases ht : (a.lf k).there with
              | false =>
                simp only [Bool.false_eq_true, if_false]
                refine h.leaf hk ⟨true, true, (j : Int)⟩ a.st _ _ (fun _ => ⟨by show (0 : Int) ≤ (j : Int); omega, by show (j : Int) < s.n; omega⟩) ?_ (h.pa.leaf hst rfl)
                intro f hf
                rw [inIn_no ht, inIn_at lj (by show (0 : Int) ≤ (j : Int); omega), setAt_if]
                simp only [Int.toNat_natCast]
                split
                · rename_i e; subst e; omega
                · omega
              | true =>
                obtain ⟨f0, f1, f2⟩ := h.ok k hk ht
                have hne : (a.lf k).fr.toNat ≠ j := fun e => f2 (by rw [e]; exact j2)
                simp only [if_true]
                rw [share_refs (by
                  refine (Pl.used_iff _ _).2 ⟨f0, f1, ?_⟩
                  show setAt s.refs j 1 (a.lf k).fr.toNat ≠ 0
                  rw [setAt_other _ _ _ _ hne]; exact f2)]
                refine h.leaf hk ⟨true, true, (j : Int)⟩ a.st _ _ (fun _ => ⟨by show (0 : Int) ≤ (j : Int); omega, by show (j : Int) < s.n; omega⟩) ?_ (h.pa.leaf hst rfl)
                intro f hf
                rw [inIn_at ht f0, inIn_at lj (by show (0 : Int) ≤ (j : Int); omega)]
                simp only [Int.toNat_natCast, setAt_if]
                by_cases e1 : f = (a.lf k).fr.toNat
                · rw [if_pos e1, if_pos e1, if_neg (by omega), if_neg (by omega), ← e1]; omega
                · rw [if_neg e1, if_neg e1]
                  by_cases e2 : f = j
                  · rw [if_pos e2, if_pos e2, e2, j2]; omega
                  · rw [if_neg e2, if_neg e2]
  · exact h
theorem Inv.join {s : Pl} {a b : Mp} (h : Inv s a b) (n f : Int) : Inv (joinR s a n f).2.1 (joinR s a n f).2.2 b := by
  unfold joinR
  split
  · rename_i ho
    have hk : n.toNat < 16 := by have := (onB_iff n).1 ho; omega
    generalize n.toNat = k at hk
    split
    · rename_i hc
      simp only [Bool.and_eq_true, Bool.not_eq_true', beq_eq_false_iff_ne, ne_eq] at hc
      obtain ⟨⟨ht, hne⟩, hs⟩ := hc
      obtain ⟨f0, f1, f2⟩ := h.ok k hk ht
      have hu : s.used f = true := by
        unfold Pl.same at hs
        simp only [Bool.and_eq_true] at hs
        exact hs.1.2
      obtain ⟨g0, g1, g2⟩ := (s.used_iff f).1 hu
      have hnn : (a.lf k).fr.toNat ≠ f.toNat := by omega
      rw [share_refs hu]
      rw [share_refs (by
        refine (Pl.used_iff _ _).2 ⟨f0, f1, ?_⟩
        show setAt s.refs f.toNat _ (a.lf k).fr.toNat ≠ 0
        rw [setAt_other _ _ _ _ hnn]; exact f2)]
      refine h.leaf hk ⟨true, false, f⟩ a.st _ s.byt (fun _ => ⟨g0, g1⟩) ?_ (h.pa.leaf (h.pa.plain hk ht) rfl)
      intro i hi
      rw [inIn_at ht f0, inIn_at (l := ⟨true, false, f⟩) rfl g0]
      simp only [setAt_if]
      by_cases e1 : i = (a.lf k).fr.toNat
      · rw [if_pos e1, if_pos e1, if_neg (by omega), if_neg (by omega), ← e1]; omega
      · rw [if_neg e1, if_neg e1]
        by_cases e2 : i = f.toNat
        · rw [if_pos e2, if_pos e2, e2]; omega
        · rw [if_neg e2, if_neg e2]
    · exact h
  · exact h
theorem Inv.set {s : Pl} {a b : Mp} (h : Inv s a b) (f i v : Int) : Inv (s.set f i v).2 a b := by
  unfold Pl.set
  split
  · exact h
  · split
    · split
      · exact h
      · exact h.same _ a.st h.pa
    · exact h
theorem plug_n (s : Pl) (m : Mp) (n : Int) : (plugR s m n).2.1.n = s.n := by
  unfold plugR turnP
  split
  · split
    · split
      · exact share_n _ _ _
      · rfl
    · rfl
  · rfl
theorem unplug_n (s : Pl) (m : Mp) (n : Int) : (unplugR s m n).2.1.n = s.n := by
  unfold unplugR turnP
  split
  · split
    · rfl
    · split
      · exact share_n _ _ _
      · rfl
  · rfl
theorem give_n (s : Pl) (m : Mp) (n : Int) (b : Bool) : (giveR s m n b).2.1.n = s.n := by
  unfold giveR turnP
  split
  · split
    · split
      · split
        · exact share_n _ _ _
        · rfl
      · rfl
    · split
      · split
        · exact share_n _ _ _
        · rfl
      · rfl
  · rfl
theorem touch_n (s : Pl) (m : Mp) (n : Int) (wt : Bool) : (touchR s m n wt).2.1.n = s.n := by
  unfold touchR
  split
  · split
    · rfl
    · split
      · rfl
      · split
        · rfl
        · split
          · rfl
          · split
            · simp only
              split
              · rw [share_n]; exact take_n s
              · exact take_n s
            · rfl
  · rfl
theorem join_n (s : Pl) (m : Mp) (n f : Int) : (joinR s m n f).2.1.n = s.n := by
  unfold joinR
  split
  · split
    · simp only [share_n]
    · rfl
  · rfl
end Go.Proofs.YtadpibcgjgcjhabGreatDoor
