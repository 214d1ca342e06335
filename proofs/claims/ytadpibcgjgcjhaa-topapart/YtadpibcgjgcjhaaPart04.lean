/- The document's answer for chapter 2: Join, Touch. -/
import Derived.Test.YtadpibcgjgcjhaaPart03
namespace Go.Proofs.Ytadpibcgjgcjhaa
open Go.ChangeShapes Go.WideShapes Go.ChangeAt Go.RowKit
set_option maxRecDepth 100000
attribute [local go_sem ↓] Go.wp_at_zero Go.wp_at_succ

/-- The box of a leaf. -/
structure LfAt (w : World) (q : Nat) (l : Lf) : Prop where
  c0 : w.cell? ⟨q, 0, none⟩ = some (.bool l.there)
  c1 : w.cell? ⟨q, 1, none⟩ = some (.bool l.wr)
  c2 : w.cell? ⟨q, 2, none⟩ = some (.int .i64 l.fr)
theorem LfAt.upd {S : Nat → Prop} {w w' : World} {q : Nat} {l : Lf} (h : LfAt w q l) (u : Upd S w w') (hq : ¬ S q) : LfAt w' q l := ⟨u.cell h.c0 hq, u.cell h.c1 hq, u.cell h.c2 hq⟩
theorem LfAt.new (w : World) (t : TypeId) (l : Lf) : LfAt (w.alloc (.cells #[.bool l.there, .bool l.wr, .int .i64 l.fr] t)) w.heap.size l :=
  ⟨by rw [World.cell?_alloc_new]; rfl, by rw [World.cell?_alloc_new]; rfl, by rw [World.cell?_alloc_new]; rfl⟩

theorem rJoin_no (w : World) (bx bm : Nat) (n f : Int) (m : Mp) (h : RMap w bx bm m) (ho : onB n = true) (ht : ((m.lf n.toNat).there && !((m.lf n.toNat).fr == f)) = false) :
    Calls Try.prog 82 #[.pointer (some ⟨bx, 0, none⟩), .int .i64 n, .int .i64 f] w fun e w' => e = .returned (.int .i64 8) ∧ Upd (fun _ => False) w w' := by
  obtain ⟨h0, h1⟩ := (onB_iff n).1 ho
  obtain ⟨k, rfl⟩ := Int.eq_ofNat_of_zero_le h0
  rw [Int.toNat_natCast] at ht
  have hk : k < 16 := by omega
  have c0 := h.th k hk
  have c1 := h.wr k hk
  have c2 := h.fr k hk
  cases htt : (m.lf k).there with
  | false =>
    rw [htt] at c0
    clear ht htt
    go_enter Try.func82, Try.ntmps82
    go_wp2_with (go_at_call 105; refine (on_is _ _ ho).mono ?_; rintro e w' ⟨rfl, rfl⟩)
    go_ret
    exact ⟨rfl, (Upd.refl _ _).alloc _⟩
  | true =>
    rw [htt] at c0 ht
    have hb : ((m.lf k).fr != f) = false := by
      simp only [Bool.true_and, Bool.not_eq_false', beq_iff_eq] at ht
      simp [ht]
    clear ht htt
    go_enter Try.func82, Try.ntmps82
    go_wp2_with (go_at_call 105; refine (on_is _ _ ho).mono ?_; rintro e w' ⟨rfl, rfl⟩)
    go_ret
    exact ⟨rfl, (Upd.refl _ _).alloc _⟩

theorem rSame_is (w : World) (bm : Nat) (f g : Int) (s : Pl) (h : RefAt w bm s) {u : Bool} (hu : s.same f g = u) :
    Calls Try.prog 26 #[.pointer (some ⟨bm, 0, none⟩), .int .i64 f, .int .i64 g] w fun e w' => e = .returned (.bool u) ∧ ∃ m, w' = w.drewN m := by
  subst hu; exact rSame_any w bm f g s h
theorem rJoin_diff (w : World) (bx bm : Nat) (n f : Int) (m : Mp) (s : Pl) (h : RMap w bx bm m) (hr : RefAt w bm s) (ho : onB n = true) (ht : (m.lf n.toNat).there = true) (hf : ((m.lf n.toNat).fr != f) = true) (hs : s.same (m.lf n.toNat).fr f = false) :
    Calls Try.prog 82 #[.pointer (some ⟨bx, 0, none⟩), .int .i64 n, .int .i64 f] w fun e w' => e = .returned (.int .i64 8) ∧ Upd (fun _ => False) w w' := by
  obtain ⟨h0, h1⟩ := (onB_iff n).1 ho
  obtain ⟨k, rfl⟩ := Int.eq_ofNat_of_zero_le h0
  rw [Int.toNat_natCast] at ht hf hs
  have hk : k < 16 := by omega
  have c0 := h.th k hk
  have c1 := h.wr k hk
  have c2 := h.fr k hk
  rw [ht] at c0
  have HS : Hid _ := hs
  clear ht hs
  go_enter Try.func82, Try.ntmps82
  go_wp2_with (go_at_call 105; refine (on_is _ _ ho).mono ?_; rintro e w' ⟨rfl, rfl⟩)
  have u1 := (Upd.refl (fun _ => False) w').alloc (.cells #[.bool true, .bool (m.lf k).wr, .int .i64 (m.lf k).fr] 69)
  have b1 := LfAt.new w' 69 ⟨true, (m.lf k).wr, (m.lf k).fr⟩
  revert u1 b1
  generalize w'.alloc (.cells #[.bool true, .bool (m.lf k).wr, .int .i64 (m.lf k).fr] 69) = w1
  generalize w'.heap.size = q
  intro u1 b1
  have hr1 := hr.upd u1 (fun f => f)
  have d0 := u1.cell h.pool (fun f => f)
  have d2 := b1.c2
  clear c0 c1 c2
  go_quiet ((go_at_call 26; exact Calls.quiet_of (rSame_is _ _ _ _ s (hr1.drewN _) HS.out)))
  go_wp2_with fail
  go_ret
  exact ⟨rfl, u1.drewN nq⟩
theorem rJoin_yes (w : World) (bx bm : Nat) (n f : Int) (m : Mp) (s : Pl) (h : RMap w bx bm m) (hr : RefAt w bm s) (hne : bx ≠ bm) (hm : ∀ k, k < s.n → s.refs k ≤ 999999) (ho : onB n = true) (ht : (m.lf n.toNat).there = true) (hf : ((m.lf n.toNat).fr != f) = true) (hs : s.same (m.lf n.toNat).fr f = true) :
    Calls Try.prog 82 #[.pointer (some ⟨bx, 0, none⟩), .int .i64 n, .int .i64 f] w fun e w' => e = .returned (.int .i64 0) ∧ RefAt w' bm ((s.share f 1).2.share (m.lf n.toNat).fr (-1)).2 ∧ RMap w' bx bm { m with lf := setAt m.lf n.toNat ⟨true, false, f⟩ } ∧ Upd (fun k => k = bm ∨ k = bx) w w' := by
  obtain ⟨h0, h1⟩ := (onB_iff n).1 ho
  obtain ⟨k, rfl⟩ := Int.eq_ofNat_of_zero_le h0
  rw [Int.toNat_natCast] at *
  have hk : k < 16 := by omega
  have k0 : (0 : Int) ≤ (k : Int) := by omega
  have k1 : (k : Int) < 16 := by omega
  have c0 := h.th k hk
  have c1 := h.wr k hk
  have c2 := h.fr k hk
  rw [ht] at c0
  have HS : Hid _ := hs
  have HNE : Hid _ := hne
  have hbm : bm < w.heap.size := World.block_lt_of_cell? _ _ hr.num
  have hbx := h.lt
  clear ht hs hne
  go_enter Try.func82, Try.ntmps82
  go_wp2_with (go_at_call 105; refine (on_is _ _ ho).mono ?_; rintro e w' ⟨rfl, rfl⟩)
  have u1 := (Upd.refl (fun _ => False) w').alloc (.cells #[.bool true, .bool (m.lf k).wr, .int .i64 (m.lf k).fr] 69)
  have b1 := LfAt.new w' 69 ⟨true, (m.lf k).wr, (m.lf k).fr⟩
  revert u1 b1 hbm hbx
  generalize w'.alloc (.cells #[.bool true, .bool (m.lf k).wr, .int .i64 (m.lf k).fr] 69) = w1
  generalize w'.heap.size = q
  intro hbm hbx u1 b1
  have hr1 := hr.upd u1 (fun f => f)
  have hx1 := h.upd u1 (fun f => f)
  have d0 := hx1.pool
  have d2 := b1.c2
  clear c0 c1 c2
  go_quiet ((go_at_call 26; exact Calls.quiet_of (rSame_is _ _ _ _ s (hr1.drewN _) HS.out)))
  have u2 := u1.drewN nq
  have hr2 := hr1.drewN nq
  have hx2 := hx1.drewN nq
  have b2 := b1.upd ((Upd.refl (fun _ => False) w1).drewN nq) (fun f => f)
  clear u1 hr1 hx1 b1 d0 d2
  revert u2 hr2 hx2 b2
  generalize w1.drewN nq = w2
  intro u2 hr2 hx2 b2
  have d0 := hx2.pool
  go_wp2_with fail
  refine (rShare_any _ _ _ _ s hr2 (fun k hk => by have := hm k hk; omega) (by omega) (by omega)).mono ?_
  rintro e w3 ⟨rfl, hr3, hu3⟩
  have hx3 := hx2.upd hu3 HNE.out
  have b3 := b2.upd hu3 (by omega)
  have e0 := hx3.pool
  have e2 := b3.c2
  have hm3 : ∀ k, k < (s.share f 1).2.n → (s.share f 1).2.refs k ≤ 1000000 := by
    have := share_bd (s := s) (f := f) (d := 1) (n := s.n) (B := 999998) rfl (fun f hf => by have := hm f hf; omega) (by omega)
    intro k hk
    have := this k (by rw [share_n] at hk; exact hk)
    omega
  clear d0 b2 hx2 hr2
  go_wp2_with fail
  go_region_held3 (fun w' => w'.cell? ⟨bx, 0, none⟩ = some (.pointer (some ⟨bm, 0, none⟩)) ∧ w'.cell? ⟨q, 2, none⟩ = some (.int .i64 (m.lf k).fr)) (first | exact ⟨e0, e2⟩ | exact h4c)
    ((go_at_call 17; refine (rShare_any _ _ _ _ (s.share f 1).2 (by first | exact hr3 | exact hr3.drew) hm3 (by omega) (by omega)).mono ?_; rintro e w4 ⟨rfl, hr4, hu4⟩; have h4c : w4.cell? ⟨bx, 0, none⟩ = some (.pointer (some ⟨bm, 0, none⟩)) ∧ w4.cell? ⟨q, 2, none⟩ = some (.int .i64 (m.lf k).fr) := ⟨hu4.cell (by exact e0) HNE.out, hu4.cell (by exact e2) (by show ¬ q = bm; omega)⟩))
  have hx4 := hx3.drew.upd hu4 HNE.out
  have g1 := hx4.th k hk
  have g2 := hx4.wr k hk
  have g3 := hx4.fr k hk
  have g4 := hx4.fz (17 + k * 3)
  have g5 := hx4.fz (17 + k * 3 + 1)
  have g6 := hx4.fz (17 + k * 3 + 2)
  have hx5 := hx4.setLf hk ⟨true, false, f⟩
  have hr5 := hr4.upd (Upd.three w4 bx (17 + k * 3) (17 + k * 3 + 1) (17 + k * 3 + 2) (.bool true) (.bool false) (.int .i64 f)) (Ne.symm HNE.out)
  have hu5 : Upd (fun k => k = bm ∨ k = bx) w' _ := (((u2.wide (T := fun k => k = bm ∨ k = bx) (fun _ f => f.elim)).trans hu3 (fun _ _ e => Or.inl e)).drew.trans hu4 (fun _ _ e => Or.inl e)).trans (Upd.three w4 bx (17 + k * 3) (17 + k * 3 + 1) (17 + k * 3 + 2) (.bool true) (.bool false) (.int .i64 f)) (fun _ _ e => Or.inr e)
  have HX5 : Hid _ := hx5
  have HR5 : Hid _ := hr5
  have HU5 : Hid _ := hu5
  clear hx5 hr5 hu5 hx4 hr4 hu4 h4c e0 e2 hx3 b3 hr3 hu3 u2
  go_wp2_with fail
  go_ret
  exact ⟨rfl, HR5.out, HX5.out, HU5.out⟩
end Go.Proofs.Ytadpibcgjgcjhaa
/- The document's answer for chapter 2: Touch. -/
namespace Go.Proofs.Ytadpibcgjgcjhaa
open Go.ChangeShapes Go.WideShapes Go.ChangeAt Go.RowKit
set_option maxRecDepth 100000
attribute [local go_sem ↓] Go.wp_at_zero Go.wp_at_succ

theorem rJoin_any (w : World) (bx bm : Nat) (n f : Int) (m : Mp) (s : Pl) (h : RMap w bx bm m) (hr : RefAt w bm s) (hne : bx ≠ bm) (hm : ∀ k, k < s.n → s.refs k ≤ 999999) :
    Calls Try.prog 82 #[.pointer (some ⟨bx, 0, none⟩), .int .i64 n, .int .i64 f] w fun e w' => e = .returned (.int .i64 (joinR s m n f).1) ∧ RefAt w' bm (joinR s m n f).2.1 ∧ RMap w' bx bm (joinR s m n f).2.2 ∧ Upd (fun k => k = bm ∨ k = bx) w w' := by
  cases ho : onB n with
  | false =>
    simp only [joinR, ho, Bool.false_eq_true, if_false]
    go_enter Try.func82, Try.ntmps82
    go_wp2_with (go_at_call 105; refine (on_is _ _ ho).mono ?_; rintro e w' ⟨rfl, rfl⟩)
    go_ret
    exact ⟨rfl, hr, h, Upd.refl _ _⟩
  | true =>
    cases ht : ((m.lf n.toNat).there && !((m.lf n.toNat).fr == f)) with
    | false =>
      refine (rJoin_no w bx bm n f m h ho ht).mono ?_
      rintro e w' ⟨rfl, hu⟩
      simp only [joinR, ho, ht, if_true, Bool.false_and, Bool.false_eq_true, if_false]
      exact ⟨trivial, hr.upd hu (fun f => f), h.upd hu (fun f => f), hu.wide (fun _ f => f.elim)⟩
    | true =>
      have ht' := ht
      simp only [Bool.and_eq_true, Bool.not_eq_true', beq_eq_false_iff_ne, ne_eq] at ht'
      cases hs : s.same (m.lf n.toNat).fr f with
      | false =>
        refine (rJoin_diff w bx bm n f m s h hr ho ht'.1 (by simp [ht'.2]) hs).mono ?_
        rintro e w' ⟨rfl, hu⟩
        simp only [joinR, ho, ht, hs, if_true, Bool.and_false, Bool.false_eq_true, if_false]
        exact ⟨trivial, hr.upd hu (fun f => f), h.upd hu (fun f => f), hu.wide (fun _ f => f.elim)⟩
      | true =>
        refine (rJoin_yes w bx bm n f m s h hr hne hm ho ht'.1 (by simp [ht'.2]) hs).mono ?_
        rintro e w' ⟨rfl, a1, a2, a3⟩
        simp only [joinR, ho, ht, hs, if_true, Bool.and_true]
        exact ⟨trivial, a1, a2, a3⟩

theorem touch_out (w : World) (bx : Nat) (n : Int) (wt : Bool) (ho : onB n = false) :
    Calls Try.prog 83 #[.pointer (some ⟨bx, 0, none⟩), .int .i64 n, .bool wt] w fun e w' => e = .returned (.tuple #[.int .i64 0, .bool false, .int .i64 1]) ∧ w' = w := by
  go_enter Try.func83, Try.ntmps83
  go_wp2_with (go_at_call 105; refine (on_is _ _ ho).mono ?_; rintro e w' ⟨rfl, rfl⟩)
  go_ret3
  exact ⟨rfl, rfl⟩
theorem touch_absent (w : World) (bx bm k : Nat) (wt : Bool) (m : Mp) (h : RMap w bx bm m) (hk : k < 16) (hs : m.st k = 0) :
    Calls Try.prog 83 #[.pointer (some ⟨bx, 0, none⟩), .int .i64 k, .bool wt] w fun e w' => e = .returned (.tuple #[.int .i64 0, .bool false, .int .i64 2]) ∧ w' = w := by
  have ho : onB (k : Int) = true := by simp [onB]; omega
  have c1 := h.st k hk
  have k1 : (k : Int) < 16 := by omega
  have b1 : (m.st k == 0) = true := by simp [hs]
  clear hs
  go_enter Try.func83, Try.ntmps83
  go_wp2_with (go_at_call 105; refine (on_is _ _ ho).mono ?_; rintro e w' ⟨rfl, rfl⟩)
  go_ret3
  exact ⟨rfl, rfl⟩
theorem touch_gone (w : World) (bx bm k : Nat) (wt : Bool) (m : Mp) (h : RMap w bx bm m) (hk : k < 16) (hs : m.st k = 2) :
    Calls Try.prog 83 #[.pointer (some ⟨bx, 0, none⟩), .int .i64 k, .bool wt] w fun e w' => e = .returned (.tuple #[.int .i64 0, .bool false, .int .i64 6]) ∧ w' = w := by
  have ho : onB (k : Int) = true := by simp [onB]; omega
  have c1 := h.st k hk
  have k1 : (k : Int) < 16 := by omega
  have b1 : (m.st k == 0) = false := by simp [hs]
  have b2 : (m.st k == 2) = true := by simp [hs]
  clear hs
  go_enter Try.func83, Try.ntmps83
  go_wp2_with (go_at_call 105; refine (on_is _ _ ho).mono ?_; rintro e w' ⟨rfl, rfl⟩)
  go_ret3
  exact ⟨rfl, rfl⟩
theorem touch_keep (w : World) (bx bm k : Nat) (wt : Bool) (m : Mp) (h : RMap w bx bm m) (hk : k < 16) (h0 : m.st k ≠ 0) (h2 : m.st k ≠ 2) (ht : (m.lf k).there = true) (hw : (!wt || (m.lf k).wr) = true) :
    Calls Try.prog 83 #[.pointer (some ⟨bx, 0, none⟩), .int .i64 k, .bool wt] w fun e w' => e = .returned (.tuple #[.int .i64 (m.lf k).fr, .bool false, .int .i64 0]) ∧ Upd (fun _ => False) w w' := by
  have ho : onB (k : Int) = true := by simp [onB]; omega
  have c1 := h.st k hk
  have k1 : (k : Int) < 16 := by omega
  have b1 : (m.st k == 0) = false := by simp [h0]
  have b2 : (m.st k == 2) = false := by simp [h2]
  have c2 := h.th k hk
  have c3 := h.wr k hk
  have c4 := h.fr k hk
  rw [ht] at c2
  clear h0 h2 ht
  cases wt with
  | false =>
    clear hw
    go_enter Try.func83, Try.ntmps83
    go_wp2_with (go_at_call 105; refine (on_is _ _ ho).mono ?_; rintro e w' ⟨rfl, rfl⟩)
    go_ret3
    exact ⟨rfl, (Upd.refl _ _).alloc _⟩
  | true =>
    have hw' : (m.lf k).wr = true := by simpa using hw
    rw [hw'] at c3
    clear hw hw'
    go_enter Try.func83, Try.ntmps83
    go_wp2_with (go_at_call 105; refine (on_is _ _ ho).mono ?_; rintro e w' ⟨rfl, rfl⟩)
    go_ret3
    exact ⟨rfl, (Upd.refl _ _).alloc _⟩
end Go.Proofs.Ytadpibcgjgcjhaa
/- The document's answer for chapter 2: Touch, where a frame is wanted. -/
namespace Go.Proofs.Ytadpibcgjgcjhaa
open Go.ChangeShapes Go.WideShapes Go.ChangeAt Go.RowKit
set_option maxRecDepth 100000
attribute [local go_sem ↓] Go.wp_at_zero Go.wp_at_succ

theorem touch_own (w : World) (bx bm k : Nat) (m : Mp) (s : Pl) (h : RMap w bx bm m) (hr : RefAt w bm s) (hne : bx ≠ bm) (hk : k < 16) (h0 : m.st k ≠ 0) (h2 : m.st k ≠ 2) (ht : (m.lf k).there = true) (hw : (m.lf k).wr = false)
    (f0 : 0 ≤ (m.lf k).fr) (f1 : (m.lf k).fr < s.n) (hone : s.refs (m.lf k).fr.toNat = 1) :
    Calls Try.prog 83 #[.pointer (some ⟨bx, 0, none⟩), .int .i64 k, .bool true] w fun e w' => e = .returned (.tuple #[.int .i64 (m.lf k).fr, .bool false, .int .i64 0]) ∧ RMap w' bx bm { m with lf := setAt m.lf k { m.lf k with wr := true } } ∧ Upd (fun k => k = bx) w w' := by
  have ho : onB (k : Int) = true := by simp [onB]; omega
  have c1 := h.st k hk
  have k1 : (k : Int) < 16 := by omega
  have b1 : (m.st k == 0) = false := by simp [h0]
  have b2 : (m.st k == 2) = false := by simp [h2]
  have c2 := h.th k hk
  have c3 := h.wr k hk
  have c4 := h.fr k hk
  rw [ht] at c2
  rw [hw] at c3
  have HNE : Hid _ := hne
  have HT : Hid _ := ht
  have hl := hr.le
  have f2 : (m.lf k).fr < 64 := by omega
  clear h0 h2 ht hw hne
  go_enter Try.func83, Try.ntmps83
  go_wp2_with (go_at_call 105; refine (on_is _ _ ho).mono ?_; rintro e w' ⟨rfl, rfl⟩)
  have u1 := (Upd.refl (fun _ => False) w').alloc (.cells #[.bool true, .bool false, .int .i64 (m.lf k).fr] 69)
  have q1 := LfAt.new w' 69 ⟨true, false, (m.lf k).fr⟩
  have hbx := h.lt
  revert u1 q1 hbx
  generalize w'.alloc (.cells #[.bool true, .bool false, .int .i64 (m.lf k).fr] 69) = w1
  generalize w'.heap.size = q
  intro u1 q1 hbx
  have hr1 := hr.upd u1 (fun f => f)
  have hx1 := h.upd u1 (fun f => f)
  have d0 := hx1.pool
  have d2 := q1.c2
  have d3 := hr1.refs (m.lf k).fr.toNat (by omega)
  rw [hone] at d3
  clear c1 c2 c3 c4 hone
  go_quiet (fail)
  have u2 := u1.drewN nq
  have hx2 := hx1.drewN nq
  have q2 := q1.upd ((Upd.refl (fun _ => False) w1).drewN nq) (fun f => f)
  clear u1 hx1 q1 d0 d2 d3 hr1
  revert u2 hx2 q2
  generalize w1.drewN nq = w2
  intro u2 hx2 q2
  have e1 := hx2.wr k hk
  have e2 := hx2.fz (17 + k * 3 + 1)
  have e3 : (w2.setCell ⟨bx, 17 + k * 3 + 1, none⟩ (.bool true)).cell? ⟨q, 2, none⟩ = some (.int .i64 (m.lf k).fr) := by
    rw [World.cell?_setCell_other _ _ _ _ (addr_ne (Or.inl (by omega)))]; exact q2.c2
  have hx3 := hx2.setWr hk true
  simp only [HT.out] at hx3
  have HX3 : Hid _ := hx3
  have hu3 := (u2.wide (T := fun k => k = bx) (fun _ f => f.elim)).trans (Upd.one w2 bx (17 + k * 3 + 1) (.bool true)) (fun _ _ e => e)
  have HU3 : Hid _ := hu3
  clear hx3 hu3 hx2 q2 u2
  go_wp2_with fail
  go_ret3
  refine ⟨rfl, ?_, HU3.out⟩
  have := HX3.out
  simp only [HT.out]
  exact this

theorem rTake_ok (w : World) (bm j : Nat) (s : Pl) (h : RefAt w bm s) (hj : j < s.n) (h0 : s.refs j = 0) (hr : ∀ i, i < j → s.refs i ≠ 0) :
    Calls Try.prog 15 #[.pointer (some ⟨bm, 0, none⟩)] w fun e w' => e = .returned (.tuple #[.int .i64 j, .int .i64 0]) ∧ RefAt w' bm { s with refs := setAt s.refs j 1, byt := setAt s.byt j fun _ => 0 } ∧ Upd (fun k => k = bm) w w' := by
  refine (rTake_at w bm j s h hj h0 hr).mono ?_
  rintro e w' ⟨rfl, rfl⟩
  refine ⟨rfl, ?_, (Upd.one _ _ _ _).trans (Upd.row _ _ _ _) (fun _ _ e => e)⟩
  exact (h.setRef (f := j) (v := 1) hj (by omega)).setRow (f := j) hj (fun _ => 0)

/-- Touch goes on to take a frame: the ways there. -/
theorem touch_full (w : World) (bx bm k : Nat) (wt : Bool) (m : Mp) (s : Pl) (h : RMap w bx bm m) (hr : RefAt w bm s) (hk : k < 16) (h0 : m.st k ≠ 0) (h2 : m.st k ≠ 2)
    (hway : (m.lf k).there = false ∨ ((m.lf k).there = true ∧ wt = true ∧ (m.lf k).wr = false ∧ 0 ≤ (m.lf k).fr ∧ (m.lf k).fr < s.n ∧ s.refs (m.lf k).fr.toNat ≠ 1)) (hfull : ∀ i, i < s.n → s.refs i ≠ 0) :
    Calls Try.prog 83 #[.pointer (some ⟨bx, 0, none⟩), .int .i64 k, .bool wt] w fun e w' => e = .returned (.tuple #[.int .i64 0, .bool false, .int .i64 3]) ∧ Upd (fun _ => False) w w' := by
  have ho : onB (k : Int) = true := by simp [onB]; omega
  have c1 := h.st k hk
  have k1 : (k : Int) < 16 := by omega
  have b1 : (m.st k == 0) = false := by simp [h0]
  have b2 : (m.st k == 2) = false := by simp [h2]
  have c2 := h.th k hk
  have c3 := h.wr k hk
  have c4 := h.fr k hk
  have HF : Hid _ := hfull
  have hl := hr.le
  clear h0 h2 hfull
  rcases hway with ht | ⟨ht, rfl, hw, f0, f1, hone⟩
  · rw [ht] at c2
    have c0 := h.pool
    have hbx := h.lt
    clear ht
    go_enter Try.func83, Try.ntmps83
    go_wp2_with (go_at_call 105; refine (on_is _ _ ho).mono ?_; rintro e w' ⟨rfl, rfl⟩)
    have u1 := (Upd.refl (fun _ => False) w').alloc (.cells #[.bool false, .bool (m.lf k).wr, .int .i64 (m.lf k).fr] 69)
    revert u1
    generalize w'.alloc (.cells #[.bool false, .bool (m.lf k).wr, .int .i64 (m.lf k).fr] 69) = w1
    intro u1
    refine (rTake_full _ _ s (hr.upd u1 (fun f => f)) HF.out).mono ?_
    rintro e w2 ⟨rfl, rfl⟩
    go_wp2_with fail
    go_ret3
    exact ⟨rfl, u1⟩
  · rw [ht] at c2
    rw [hw] at c3
    have f2 : (m.lf k).fr < 64 := by omega
    have b3 : (s.refs (m.lf k).fr.toNat == 1) = false := by simp [hone]
    clear ht hw hone
    go_enter Try.func83, Try.ntmps83
    go_wp2_with (go_at_call 105; refine (on_is _ _ ho).mono ?_; rintro e w' ⟨rfl, rfl⟩)
    have u1 := (Upd.refl (fun _ => False) w').alloc (.cells #[.bool true, .bool false, .int .i64 (m.lf k).fr] 69)
    have q1 := LfAt.new w' 69 ⟨true, false, (m.lf k).fr⟩
    revert u1 q1
    generalize w'.alloc (.cells #[.bool true, .bool false, .int .i64 (m.lf k).fr] 69) = w1
    generalize w'.heap.size = q
    intro u1 q1
    have hr1 := hr.upd u1 (fun f => f)
    have d0 := u1.cell h.pool (fun f => f)
    have d2 := q1.c2
    have d3 := hr1.refs (m.lf k).fr.toNat (by omega)
    clear c1 c2 c3 c4
    go_quiet (fail)
    have u2 := u1.drewN nq
    have hr2 := hr1.drewN nq
    have e0 : (w1.drewN nq).cell? ⟨bx, 0, none⟩ = some (.pointer (some ⟨bm, 0, none⟩)) := d0
    clear u1 d0 d2 d3 hr1 q1
    revert u2 hr2 e0
    generalize w1.drewN nq = w2
    intro u2 hr2 e0
    go_wp2_with fail
    refine (rTake_full _ _ s hr2 HF.out).mono ?_
    rintro e w3 ⟨rfl, rfl⟩
    go_wp2_with fail
    go_ret3
    exact ⟨rfl, u2⟩

theorem touch_new (w : World) (bx bm k j : Nat) (wt : Bool) (m : Mp) (s : Pl) (h : RMap w bx bm m) (hr : RefAt w bm s) (hne : bx ≠ bm) (hk : k < 16) (h0 : m.st k ≠ 0) (h2 : m.st k ≠ 2)
    (ht : (m.lf k).there = false) (hj : j < s.n) (hj0 : s.refs j = 0) (hjr : ∀ i, i < j → s.refs i ≠ 0) :
    Calls Try.prog 83 #[.pointer (some ⟨bx, 0, none⟩), .int .i64 k, .bool wt] w fun e w' => e = .returned (.tuple #[.int .i64 j, .bool false, .int .i64 0]) ∧
      RefAt w' bm { s with refs := setAt s.refs j 1, byt := setAt s.byt j fun _ => 0 } ∧ RMap w' bx bm { m with lf := setAt m.lf k ⟨true, true, j⟩ } ∧ Upd (fun k => k = bm ∨ k = bx) w w' := by
  have ho : onB (k : Int) = true := by simp [onB]; omega
  have c1 := h.st k hk
  have k1 : (k : Int) < 16 := by omega
  have b1 : (m.st k == 0) = false := by simp [h0]
  have b2 : (m.st k == 2) = false := by simp [h2]
  have c2 := h.th k hk
  have c3 := h.wr k hk
  have c4 := h.fr k hk
  rw [ht] at c2
  have c0 := h.pool
  have hbx := h.lt
  have hbm : bm < w.heap.size := World.block_lt_of_cell? _ _ hr.num
  have HNE : Hid _ := hne
  have HJ0 : Hid _ := hj0
  have HJR : Hid _ := hjr
  clear h0 h2 ht hne hj0 hjr
  go_enter Try.func83, Try.ntmps83
  go_wp2_with (go_at_call 105; refine (on_is _ _ ho).mono ?_; rintro e w' ⟨rfl, rfl⟩)
  have u1 := (Upd.refl (fun _ => False) w').alloc (.cells #[.bool false, .bool (m.lf k).wr, .int .i64 (m.lf k).fr] 69)
  have q1 := LfAt.new w' 69 ⟨false, (m.lf k).wr, (m.lf k).fr⟩
  revert u1 q1 hbx hbm
  generalize w'.alloc (.cells #[.bool false, .bool (m.lf k).wr, .int .i64 (m.lf k).fr] 69) = w1
  generalize w'.heap.size = q
  intro hbx hbm u1 q1
  refine (rTake_ok _ _ j s (hr.upd u1 (fun f => f)) hj HJ0.out HJR.out).mono ?_
  rintro e w2 ⟨rfl, hr2, hu2⟩
  have hx2 := (h.upd u1 (fun f => f)).upd hu2 HNE.out
  have q2 := q1.upd hu2 (by omega)
  have d0 := q2.c0
  have g1 := hx2.th k hk
  have g2 := hx2.wr k hk
  have g3 := hx2.fr k hk
  have g4 := hx2.fz (17 + k * 3)
  have g5 := hx2.fz (17 + k * 3 + 1)
  have g6 := hx2.fz (17 + k * 3 + 2)
  have hx3 := hx2.setLf hk ⟨true, true, j⟩
  have hr3 := hr2.upd (Upd.three w2 bx (17 + k * 3) (17 + k * 3 + 1) (17 + k * 3 + 2) (.bool true) (.bool true) (.int .i64 j)) (Ne.symm HNE.out)
  have hu3 : Upd (fun k => k = bm ∨ k = bx) w' _ := ((u1.wide (T := fun k => k = bm ∨ k = bx) (fun _ f => f.elim)).trans hu2 (fun _ _ e => Or.inl e)).trans (Upd.three w2 bx (17 + k * 3) (17 + k * 3 + 1) (17 + k * 3 + 2) (.bool true) (.bool true) (.int .i64 j)) (fun _ _ e => Or.inr e)
  have q3 := q2.upd (Upd.three w2 bx (17 + k * 3) (17 + k * 3 + 1) (17 + k * 3 + 2) (.bool true) (.bool true) (.int .i64 j)) (by omega)
  have d1 := q3.c0
  have HX3 : Hid _ := hx3
  have HR3 : Hid _ := hr3
  have HU3 : Hid _ := hu3
  clear hx3 hr3 hu3 hx2 hr2 hu2 u1 q1 q2 q3 c0 c1 c2 c3 c4
  go_wp2_with fail
  go_quiet (fail)
  go_wp2_with fail
  go_ret3
  exact ⟨rfl, HR3.out.drewN _, HX3.out.drewN _, HU3.out.drewN _⟩

theorem touch_move (w : World) (bx bm k j : Nat) (m : Mp) (s : Pl) (h : RMap w bx bm m) (hr : RefAt w bm s) (hne : bx ≠ bm) (hm : ∀ k, k < s.n → s.refs k ≤ 999999) (hk : k < 16) (h0 : m.st k ≠ 0) (h2 : m.st k ≠ 2)
    (ht : (m.lf k).there = true) (hw : (m.lf k).wr = false) (f0 : 0 ≤ (m.lf k).fr) (f1 : (m.lf k).fr < s.n) (hone : s.refs (m.lf k).fr.toNat ≠ 1) (hused : s.refs (m.lf k).fr.toNat ≠ 0)
    (hj : j < s.n) (hj0 : s.refs j = 0) (hjr : ∀ i, i < j → s.refs i ≠ 0) :
    Calls Try.prog 83 #[.pointer (some ⟨bx, 0, none⟩), .int .i64 k, .bool true] w fun e w' => e = .returned (.tuple #[.int .i64 j, .bool true, .int .i64 0]) ∧
      RefAt w' bm (({ s with refs := setAt s.refs j 1, byt := setAt (setAt s.byt j fun _ => 0) j (setAt s.byt j (fun _ => 0) (m.lf k).fr.toNat) } : Pl).share (m.lf k).fr (-1)).2 ∧ RMap w' bx bm { m with lf := setAt m.lf k ⟨true, true, j⟩ } ∧ Upd (fun k => k = bm ∨ k = bx) w w' := by
  have ho : onB (k : Int) = true := by simp [onB]; omega
  have c1 := h.st k hk
  have k1 : (k : Int) < 16 := by omega
  have b1 : (m.st k == 0) = false := by simp [h0]
  have b2 : (m.st k == 2) = false := by simp [h2]
  have c2 := h.th k hk
  have c3 := h.wr k hk
  have c4 := h.fr k hk
  rw [ht] at c2
  rw [hw] at c3
  have hl := hr.le
  have f2 : (m.lf k).fr < 64 := by omega
  have b3 : (s.refs (m.lf k).fr.toNat == 1) = false := by simp [hone]
  have hbx := h.lt
  have hbm : bm < w.heap.size := World.block_lt_of_cell? _ _ hr.num
  have hfj : (m.lf k).fr.toNat ≠ j := fun e => hused (by rw [e]; exact hj0)
  have HNE : Hid _ := hne
  have HJ0 : Hid _ := hj0
  have HJR : Hid _ := hjr
  have HFJ : Hid _ := hfj
  clear h0 h2 ht hw hone hused hne hj0 hjr hfj
  go_enter Try.func83, Try.ntmps83
  go_wp2_with (go_at_call 105; refine (on_is _ _ ho).mono ?_; rintro e w' ⟨rfl, rfl⟩)
  have u1 := (Upd.refl (fun _ => False) w').alloc (.cells #[.bool true, .bool false, .int .i64 (m.lf k).fr] 69)
  have q1 := LfAt.new w' 69 ⟨true, false, (m.lf k).fr⟩
  revert u1 q1 hbx hbm
  generalize w'.alloc (.cells #[.bool true, .bool false, .int .i64 (m.lf k).fr] 69) = w1
  generalize w'.heap.size = q
  intro hbx hbm u1 q1
  have hr1 := hr.upd u1 (fun f => f)
  have d0 := u1.cell h.pool (fun f => f)
  have d2 := q1.c2
  have d3 := hr1.refs (m.lf k).fr.toNat (by omega)
  clear c1 c2 c3 c4
  go_quiet (fail)
  have u2 := u1.drewN nq
  have hr2 := hr1.drewN nq
  have e0 : (w1.drewN nq).cell? ⟨bx, 0, none⟩ = some (.pointer (some ⟨bm, 0, none⟩)) := d0
  have q2 := q1.upd ((Upd.refl (fun _ => False) w1).drewN nq) (fun f => f)
  clear u1 d0 d2 d3 hr1 q1
  revert u2 hr2 e0 q2
  generalize w1.drewN nq = w2
  intro u2 hr2 e0 q2
  go_wp2_with fail
  refine (rTake_ok _ _ j s hr2 hj HJ0.out HJR.out).mono ?_
  rintro e w3 ⟨rfl, hr3, hu3⟩
  have hx3 := (h.upd u2 (fun f => f)).upd hu3 HNE.out
  have q3 := q2.upd hu3 (by omega)
  have g0 := q3.c0
  have g2 := q3.c2
  have gp := hx3.pool
  have hrg := hr3.range (f := (m.lf k).fr.toNat) (by show _ < s.n; omega)
  have hth := hr3.there (f := j) (by show _ < s.n; omega)
  have e1 := rowOf_length (setAt s.byt j (fun _ => 0) (m.lf k).fr.toNat)
  have e2 := rowOf_one (setAt s.byt j (fun _ => 0) (m.lf k).fr.toNat)
  have hr4 := hr3.drew.setRow (f := j) (by show _ < s.n; omega) (setAt s.byt j (fun _ => 0) (m.lf k).fr.toNat)
  simp only at hrg
  revert hrg e1 e2 hr4
  generalize rowOf (setAt s.byt j (fun _ => 0) (m.lf k).fr.toNat) = cs
  intro hrg e1 e2 hr4
  have hi : (Try.prog.info? 32).map (·.size) = some cs.length := by rw [e1]; exact info32
  have hu := Try.underlying32
  have j0 : (0 : Int) ≤ (j : Int) := by omega
  have j1 : (j : Int) < 64 := by omega
  have hu4 := Upd.row w3.drew bm (1 + j * 16) cs
  have hx4 := hx3.drew.upd hu4 HNE.out
  have q4 := q3.upd ((Upd.refl (fun k => k = bm) w3).drew.trans hu4 (fun _ _ e => e)) (by omega)
  have hap : bm ≠ bm ∨ 1 + (m.lf k).fr.toNat * 16 + cs.length ≤ 1 + j * 16 ∨ 1 + j * 16 + cs.length ≤ 1 + (m.lf k).fr.toNat * 16 := by
    rcases Nat.lt_or_gt_of_ne HFJ.out with hlt | hgt
    · exact Or.inr (Or.inl (by rw [e1]; omega))
    · exact Or.inr (Or.inr (by rw [e1]; omega))
  have S4 : (w3.drew.setCells bm (1 + j * 16) cs).cell? ⟨bx, 0, none⟩ = some (.pointer (some ⟨bm, 0, none⟩)) ∧ (w3.drew.setCells bm (1 + j * 16) cs).cell? ⟨q, 2, none⟩ = some (.int .i64 (m.lf k).fr) ∧ (w3.drew.setCells bm (1 + j * 16) cs).rangeAt bm (1 + (m.lf k).fr.toNat * 16) cs ∧ (w3.drew.setCells bm (1 + j * 16) cs).there bm (1 + j * 16) 16 :=
    ⟨hx4.pool, q4.c2, World.rangeAt_setCells_apart (w := w3.drew) hrg bm (1 + j * 16) cs hap, World.there_setCells (w := w3.drew) hth bm (1 + j * 16) cs⟩
  clear hap
  have HS4 : Hid _ := S4
  have HR4 : Hid _ := hr4
  have HU4 : Hid _ := hu4
  have HX4 : Hid _ := hx4
  have HQ4 : Hid _ := q4
  have HR3 : Hid _ := hr3
  have HU3 : Hid _ := hu3
  have HU2 : Hid _ := u2
  clear S4 hr4 hu4 hx4 q4 hr3 hu3 u2 q2 hx3 hr2 e0 q3
  go_wp2_with fail
  go_region_held3 (fun w' => w'.cell? ⟨bx, 0, none⟩ = some (.pointer (some ⟨bm, 0, none⟩)) ∧ w'.cell? ⟨q, 2, none⟩ = some (.int .i64 (m.lf k).fr) ∧ w'.rangeAt bm (1 + (m.lf k).fr.toNat * 16) cs ∧ w'.there bm (1 + j * 16) 16) (first | exact ⟨gp, g2, hrg, hth⟩ | exact HS4.out) (fail)
  clear hrg hth e1 e2 hi hu g0 g2 gp HS4
  have hr4 := HR4.out
  have hx4 := HX4.out
  have q4 := HQ4.out
  have hu4 : Upd (fun k => k = bm ∨ k = bx) w' (w3.drew.setCells bm (1 + j * 16) cs) := (((HU2.out.wide (T := fun k => k = bm ∨ k = bx) (fun _ f => f.elim)).trans HU3.out (fun _ _ e => Or.inl e)).drew).trans HU4.out (fun _ _ e => Or.inl e)
  clear HR4 HX4 HQ4 HU4 HR3 HU3 HU2
  revert hr4 hx4 q4 hu4
  generalize w3.drew.setCells bm (1 + j * 16) cs = w4
  generalize hs4 : ({ s with refs := setAt s.refs j 1, byt := setAt (setAt s.byt j fun _ => 0) j (setAt s.byt j (fun _ => 0) (m.lf k).fr.toNat) } : Pl) = s4
  have hm4 : ∀ k, k < s4.n → s4.refs k ≤ 1000000 := by
    rw [← hs4]
    intro i hi
    exact setAt_le (n := s.n) (fun f hf => by have := hm f hf; omega) (by omega) i hi
  have HE : Hid _ := hs4
  clear hs4
  intro hr4 hx4 q4 hu4
  have g0 := hx4.pool
  have g2 := q4.c2
  go_wp2_with fail
  go_region_held3 (fun w' => w'.cell? ⟨bx, 0, none⟩ = some (.pointer (some ⟨bm, 0, none⟩)) ∧ w'.cell? ⟨q, 2, none⟩ = some (.int .i64 (m.lf k).fr)) (first | exact ⟨g0, g2⟩ | exact h5c)
    ((go_at_call 17; refine (rShare_any _ _ _ _ s4 (by first | exact hr4 | exact hr4.drew) hm4 (by omega) (by omega)).mono ?_; rintro e w5 ⟨rfl, hr5, hu5⟩; have h5c : w5.cell? ⟨bx, 0, none⟩ = some (.pointer (some ⟨bm, 0, none⟩)) ∧ w5.cell? ⟨q, 2, none⟩ = some (.int .i64 (m.lf k).fr) := ⟨hu5.cell (by exact g0) HNE.out, hu5.cell (by exact g2) (by show ¬ q = bm; omega)⟩))
  have hx5 := hx4.drew.upd hu5 HNE.out
  have q5 := q4.upd ((Upd.refl (fun k => k = bm) w4).drew.trans hu5 (fun _ _ e => e)) (by omega)
  have x1 := hx5.th k hk
  have x2 := hx5.wr k hk
  have x3 := hx5.fr k hk
  have x4 := hx5.fz (17 + k * 3)
  have x5 := hx5.fz (17 + k * 3 + 1)
  have x6 := hx5.fz (17 + k * 3 + 2)
  have hx6 := hx5.setLf hk ⟨true, true, j⟩
  have hr6 := hr5.upd (Upd.three w5 bx (17 + k * 3) (17 + k * 3 + 1) (17 + k * 3 + 2) (.bool true) (.bool true) (.int .i64 j)) (Ne.symm HNE.out)
  have hu6 : Upd (fun k => k = bm ∨ k = bx) w' _ := (hu4.drew.trans hu5 (fun _ _ e => Or.inl e)).trans (Upd.three w5 bx (17 + k * 3) (17 + k * 3 + 1) (17 + k * 3 + 2) (.bool true) (.bool true) (.int .i64 j)) (fun _ _ e => Or.inr e)
  have q6 := q5.upd (Upd.three w5 bx (17 + k * 3) (17 + k * 3 + 1) (17 + k * 3 + 2) (.bool true) (.bool true) (.int .i64 j)) (by omega)
  have x7 := q6.c0
  have HX6 : Hid _ := hx6
  have HR6 : Hid _ := hr6
  have HU6 : Hid _ := hu6
  clear hx6 hr6 hu6 hx5 hr5 hu5 q5 q6 h5c g0 g2 hr4 hx4 q4 hu4
  go_wp2_with fail
  go_quiet (fail)
  go_wp2_with fail
  go_ret3
  refine ⟨rfl, ?_, HX6.out.drewN _, HU6.out.drewN _⟩
  rw [HE.out]
  exact HR6.out.drewN _
end Go.Proofs.Ytadpibcgjgcjhaa
/- The document's answer for chapter 2: Touch, whatever the page. -/
namespace Go.Proofs.Ytadpibcgjgcjhaa
open Go.ChangeShapes Go.WideShapes Go.ChangeAt Go.RowKit
set_option maxRecDepth 100000

/-- Each page that is in a frame is in a used one. -/
def LfOk (s : Pl) (m : Mp) : Prop := ∀ k, k < 16 → (m.lf k).there = true → 0 ≤ (m.lf k).fr ∧ (m.lf k).fr < s.n ∧ s.refs (m.lf k).fr.toNat ≠ 0

theorem take_some {s : Pl} {j : Nat} (h : firstFrom s.refs 0 s.n = some j) : s.take = ((j : Int), 0, { s with refs := setAt s.refs j 1, byt := setAt s.byt j fun _ => 0 }) := by
  unfold Pl.take; rw [h]
theorem take_none {s : Pl} (h : firstFrom s.refs 0 s.n = none) : s.take = (0, 3, s) := by
  unfold Pl.take; rw [h]

theorem rTouch_any (w : World) (bx bm : Nat) (n : Int) (wt : Bool) (m : Mp) (s : Pl) (h : RMap w bx bm m) (hr : RefAt w bm s) (hne : bx ≠ bm) (hm : ∀ k, k < s.n → s.refs k ≤ 999999) (hi : LfOk s m) :
    Calls Try.prog 83 #[.pointer (some ⟨bx, 0, none⟩), .int .i64 n, .bool wt] w fun e w' => e = .returned (.tuple #[.int .i64 (touchR s m n wt).1.1, .bool (touchR s m n wt).1.2.1, .int .i64 (touchR s m n wt).1.2.2]) ∧
      RefAt w' bm (touchR s m n wt).2.1 ∧ RMap w' bx bm (touchR s m n wt).2.2 ∧ Upd (fun k => k = bm ∨ k = bx) w w' := by
  cases ho : onB n with
  | false =>
    refine (touch_out w bx n wt ho).mono ?_
    rintro e w' ⟨rfl, rfl⟩
    simp only [touchR, ho, Bool.false_eq_true, if_false]
    exact ⟨trivial, hr, h, Upd.refl _ _⟩
  | true =>
    obtain ⟨n0, n1⟩ := (onB_iff n).1 ho
    obtain ⟨k, rfl⟩ := Int.eq_ofNat_of_zero_le n0
    have hk : k < 16 := by omega
    by_cases s0 : m.st k = 0
    · refine (touch_absent w bx bm k wt m h hk s0).mono ?_
      rintro e w' ⟨rfl, rfl⟩
      simp only [touchR, ho, if_true, Int.toNat_natCast, s0]
      exact ⟨trivial, hr, h, Upd.refl _ _⟩
    · by_cases s2 : m.st k = 2
      · refine (touch_gone w bx bm k wt m h hk s2).mono ?_
        rintro e w' ⟨rfl, rfl⟩
        simp only [touchR, ho, if_true, Int.toNat_natCast, s2, show ¬ ((2 : Int) = 0) by omega, if_false]
        exact ⟨trivial, hr, h, Upd.refl _ _⟩
      · cases hkeep : ((m.lf k).there && (!wt || (m.lf k).wr)) with
        | true =>
          have hk' := hkeep
          simp only [Bool.and_eq_true] at hk'
          refine (touch_keep w bx bm k wt m h hk s0 s2 hk'.1 hk'.2).mono ?_
          rintro e w' ⟨rfl, hu⟩
          simp only [touchR, ho, if_true, Int.toNat_natCast, s0, s2, if_false, hkeep]
          exact ⟨trivial, hr.upd hu (fun f => f), h.upd hu (fun f => f), hu.wide (fun _ f => f.elim)⟩
        | false =>
          cases hone : ((m.lf k).there && (s.refs (m.lf k).fr.toNat == 1)) with
          | true =>
            have ho' := hone
            simp only [Bool.and_eq_true, beq_iff_eq] at ho'
            have hw := hkeep
            rw [ho'.1] at hw
            simp only [Bool.true_and, Bool.or_eq_false_iff, Bool.not_eq_false'] at hw
            obtain ⟨hw1, hw2⟩ := hw
            subst hw1
            obtain ⟨f0, f1, _⟩ := hi k hk ho'.1
            refine (touch_own w bx bm k m s h hr hne hk s0 s2 ho'.1 hw2 f0 f1 ho'.2).mono ?_
            rintro e w' ⟨rfl, hx, hu⟩
            simp only [touchR, ho, if_true, Int.toNat_natCast, s0, s2, if_false, hkeep, hone, Bool.false_eq_true]
            exact ⟨trivial, hr.upd hu (Ne.symm hne), hx, hu.wide (fun _ e => Or.inr e)⟩
          | false =>
            have way : (m.lf k).there = false ∨ ((m.lf k).there = true ∧ wt = true ∧ (m.lf k).wr = false ∧ 0 ≤ (m.lf k).fr ∧ (m.lf k).fr < s.n ∧ s.refs (m.lf k).fr.toNat ≠ 1) := by
              cases ht : (m.lf k).there with
              | false => exact Or.inl rfl
              | true =>
                rw [ht] at hkeep hone
                simp only [Bool.true_and, Bool.or_eq_false_iff, Bool.not_eq_false'] at hkeep
                obtain ⟨f0, f1, _⟩ := hi k hk ht
                exact Or.inr ⟨rfl, hkeep.1, hkeep.2, f0, f1, by simpa using hone⟩
            have hs := firstFrom_spec s.refs s.n 0
            revert hs
            cases hff : firstFrom s.refs 0 s.n with
            | none =>
              intro hs
              refine (touch_full w bx bm k wt m s h hr hk s0 s2 way (fun i hi => hs i (by omega) (by omega))).mono ?_
              rintro e w' ⟨rfl, hu⟩
              simp only [touchR, ho, if_true, Int.toNat_natCast, s0, s2, if_false, hkeep, hone, Bool.false_eq_true, take_none hff, show ¬ ((3 : Int) = 0) by omega]
              exact ⟨trivial, hr.upd hu (fun f => f), h.upd hu (fun f => f), hu.wide (fun _ f => f.elim)⟩
            | some j =>
              rintro ⟨_, j1, j2, j3⟩
              rcases way with ht | ⟨ht, rfl, hw, f0, f1, h1⟩
              · refine (touch_new w bx bm k j wt m s h hr hne hk s0 s2 ht (by omega) j2 (fun i hi => j3 i (by omega) hi)).mono ?_
                rintro e w' ⟨rfl, a1, a2, a3⟩
                simp only [touchR, ho, if_true, Int.toNat_natCast, s0, s2, if_false, ht, Bool.false_and, Bool.false_eq_true, take_some hff]
                exact ⟨trivial, a1, a2, a3⟩
              · refine (touch_move w bx bm k j m s h hr hne hm hk s0 s2 ht hw f0 f1 h1 (hi k hk ht).2.2 (by omega) j2 (fun i hi => j3 i (by omega) hi)).mono ?_
                rintro e w' ⟨rfl, a1, a2, a3⟩
                have hkeep' := hkeep
                have hone' := hone
                rw [ht] at hkeep' hone'
                simp only [touchR, ho, if_true, Int.toNat_natCast, s0, s2, if_false, ht, hkeep', hone', Bool.false_eq_true, take_some hff]
                exact ⟨trivial, a1, a2, a3⟩
end Go.Proofs.Ytadpibcgjgcjhaa
