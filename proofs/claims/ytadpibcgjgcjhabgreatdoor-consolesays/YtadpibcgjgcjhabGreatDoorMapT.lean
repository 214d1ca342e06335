/- The document's answer for chapter 2: Join, Touch. -/
import Derived.Test.YtadpibcgjgcjhabGreatDoorMapS
namespace Go.Proofs.YtadpibcgjgcjhabGreatDoor
open Go.ChangeShapes Go.WideShapes Go.ChangeAt Go.RowKit
set_option maxRecDepth 100000
attribute [local go_sem ↓] Go.wp_at_zero Go.wp_at_succ

/-- The box of a leaf. -/
structure LfAt (w : World) (q : Nat) (l : Lf) : Prop where
  c0 : w.cell? ⟨q, 0, none⟩ = some (.bool l.there)
  c1 : w.cell? ⟨q, 1, none⟩ = some (.bool l.wr)
  c2 : w.cell? ⟨q, 2, none⟩ = some (.int .i64 l.fr)
theorem LfAt.upd {S : Nat → Prop} {w w' : World} {q : Nat} {l : Lf} (h : LfAt w q l) (u : Upd S w w') (hq : ¬ S q) : LfAt w' q l := ⟨u.cell h.c0 hq, u.cell h.c1 hq, u.cell h.c2 hq⟩
theorem LfAt.new (w : World) (t : TypeId) (l : Lf) : LfAt (w.alloc (.cells #[.bool l.there, .bool l.wr, .int .i64 l.fr] t)) w.heap.size l :=
  ⟨by rw [World.cell?_alloc_new]; rfl, by rw [World.cell?_alloc_new]; rfl, by rw [World.cell?_alloc_new]; rfl⟩

theorem rJoin_no (w : World) (bx bm : Nat) (n f : Int) (m : Mp) (h : RMap w bx bm m) (ho : onB n = true) (ht : ((m.lf n.toNat).there && !((m.lf n.toNat).fr == f)) = false) :
    Calls Tryz.prog 43 #[.pointer (some ⟨bx, 0, none⟩), .int .i64 n, .int .i64 f] w fun e w' => e = .returned (.int .i64 8) ∧ Upd (fun _ => False) w w' := by
  obtain ⟨h0, h1⟩ := (onB_iff n).1 ho
  obtain ⟨k, rfl⟩ := Int.eq_ofNat_of_zero_le h0
  rw [Int.toNat_natCast] at ht
  have hk : k < 16 := by omega
  have c0 := h.th k hk
  have c1 := h.wr k hk
  have c2 := h.fr k hk
  cases htt : (m.lf k).there with
  | false =>
    rw [htt] at c0
    clear ht htt
    go_enter Tryz.func43, Tryz.ntmps43
    go_wp2_with (go_at_call 39; refine (on_is _ _ ho).mono ?_; rintro e w' ⟨rfl, rfl⟩)
    go_ret
    exact ⟨rfl, (Upd.refl _ _).alloc _⟩
  | true =>
    rw [htt] at c0 ht
    have hb : ((m.lf k).fr != f) = false := by
      simp only [Bool.true_and, Bool.not_eq_false', beq_iff_eq] at ht
      simp [ht]
    clear ht htt
    go_enter Tryz.func43, Tryz.ntmps43
    go_wp2_with (go_at_call 39; refine (on_is _ _ ho).mono ?_; rintro e w' ⟨rfl, rfl⟩)
    go_ret
    exact ⟨rfl, (Upd.refl _ _).alloc _⟩

theorem rSame_is (w : World) (bm : Nat) (f g : Int) (s : Pl) (h : RefAt w bm s) {u : Bool} (hu : s.same f g = u) :
    Calls Tryz.prog 41 #[.pointer (some ⟨bm, 0, none⟩), .int .i64 f, .int .i64 g] w fun e w' => e = .returned (.bool u) ∧ ∃ m, w' = w.drewN m := by
  subst hu; exact rSame_any w bm f g s h
theorem rJoin_diff (w : World) (bx bm : Nat) (n f : Int) (m : Mp) (s : Pl) (h : RMap w bx bm m) (hr : RefAt w bm s) (ho : onB n = true) (ht : (m.lf n.toNat).there = true) (hf : ((m.lf n.toNat).fr != f) = true) (hs : s.same (m.lf n.toNat).fr f = false) :
    Calls Tryz.prog 43 #[.pointer (some ⟨bx, 0, none⟩), .int .i64 n, .int .i64 f] w fun e w' => e = .returned (.int .i64 8) ∧ Upd (fun _ => False) w w' := by
  obtain ⟨h0, h1⟩ := (onB_iff n).1 ho
  obtain ⟨k, rfl⟩ := Int.eq_ofNat_of_zero_le h0
  rw [Int.toNat_natCast] at ht hf hs
  have hk : k < 16 := by omega
  have c0 := h.th k hk
  have c1 := h.wr k hk
  have c2 := h.fr k hk
  rw [ht] at c0
  have HS : Hid _ := hs
  clear ht hs
  go_enter Tryz.func43, Tryz.ntmps43
  go_wp2_with (go_at_call 39; refine (on_is _ _ ho).mono ?_; rintro e w' ⟨rfl, rfl⟩)
  have u1 := (Upd.refl (fun _ => False) w').alloc (.cells #[.bool true, .bool (m.lf k).wr, .int .i64 (m.lf k).fr] 92)
  have b1 := LfAt.new w' 92 ⟨true, (m.lf k).wr, (m.lf k).fr⟩
  revert u1 b1
  generalize w'.alloc (.cells #[.bool true, .bool (m.lf k).wr, .int .i64 (m.lf k).fr] 92) = w1
  generalize w'.heap.size = q
  intro u1 b1
  have hr1 := hr.upd u1 (fun f => f)
  have d0 := u1.cell h.pool (fun f => f)
  have d2 := b1.c2
  clear c0 c1 c2
  go_quiet ((go_at_call 41; exact Calls.quiet_of (rSame_is _ _ _ _ s (hr1.drewN _) HS.out)))
  go_wp2_with fail
  go_ret
  exact ⟨rfl, u1.drewN nq⟩
theorem rJoin_yes (w : World) (bx bm : Nat) (n f : Int) (m : Mp) (s : Pl) (h : RMap w bx bm m) (hr : RefAt w bm s) (hne : bx ≠ bm) (hm : ∀ k, k < s.n → s.refs k ≤ 999999) (ho : onB n = true) (ht : (m.lf n.toNat).there = true) (hf : ((m.lf n.toNat).fr != f) = true) (hs : s.same (m.lf n.toNat).fr f = true) :
    Calls Tryz.prog 43 #[.pointer (some ⟨bx, 0, none⟩), .int .i64 n, .int .i64 f] w fun e w' => e = .returned (.int .i64 0) ∧ RefAt w' bm ((s.share f 1).2.share (m.lf n.toNat).fr (-1)).2 ∧ RMap w' bx bm { m with lf := setAt m.lf n.toNat ⟨true, false, f⟩ } ∧ Upd (fun k => k = bm ∨ k = bx) w w' := by
  obtain ⟨h0, h1⟩ := (onB_iff n).1 ho
  obtain ⟨k, rfl⟩ := Int.eq_ofNat_of_zero_le h0
  rw [Int.toNat_natCast] at *
  have hk : k < 16 := by omega
  have k0 : (0 : Int) ≤ (k : Int) := by omega
  have k1 : (k : Int) < 16 := by omega
  have c0 := h.th k hk
  have c1 := h.wr k hk
  have c2 := h.fr k hk
  rw [ht] at c0
  have HS : Hid _ := hs
  have HNE : Hid _ := hne
  have hbm : bm < w.heap.size := World.block_lt_of_cell? _ _ hr.num
  have hbx := h.lt
  clear ht hs hne
  go_enter Tryz.func43, Tryz.ntmps43
  go_wp2_with (go_at_call 39; refine (on_is _ _ ho).mono ?_; rintro e w' ⟨rfl, rfl⟩)
  have u1 := (Upd.refl (fun _ => False) w').alloc (.cells #[.bool true, .bool (m.lf k).wr, .int .i64 (m.lf k).fr] 92)
  have b1 := LfAt.new w' 92 ⟨true, (m.lf k).wr, (m.lf k).fr⟩
  revert u1 b1 hbm hbx
  generalize w'.alloc (.cells #[.bool true, .bool (m.lf k).wr, .int .i64 (m.lf k).fr] 92) = w1
  generalize w'.heap.size = q
  intro hbm hbx u1 b1
  have hr1 := hr.upd u1 (fun f => f)
  have hx1 := h.upd u1 (fun f => f)
  have d0 := hx1.pool
  have d2 := b1.c2
  clear c0 c1 c2
  go_quiet ((go_at_call 41; exact Calls.quiet_of (rSame_is _ _ _ _ s (hr1.drewN _) HS.out)))
  have u2 := u1.drewN nq
  have hr2 := hr1.drewN nq
  have hx2 := hx1.drewN nq
  have b2 := b1.upd ((Upd.refl (fun _ => False) w1).drewN nq) (fun f => f)
  clear u1 hr1 hx1 b1 d0 d2
  revert u2 hr2 hx2 b2
  generalize w1.drewN nq = w2
  intro u2 hr2 hx2 b2
  have d0 := hx2.pool
  go_wp2_with fail
  refine (rShare_any _ _ _ _ s hr2 (fun k hk => by have := hm k hk; omega) (by omega) (by omega)).mono ?_
  rintro e w3 ⟨rfl, hr3, hu3⟩
  have hx3 := hx2.upd hu3 HNE.out
  have b3 := b2.upd hu3 (by omega)
  have e0 := hx3.pool
  have e2 := b3.c2
  have hm3 : ∀ k, k < (s.share f 1).2.n → (s.share f 1).2.refs k ≤ 1000000 := by
    have := share_bd (s := s) (f := f) (d := 1) (n := s.n) (B := 999998) rfl (fun f hf => by have := hm f hf; omega) (by omega)
    intro k hk
    have := this k (by rw [share_n] at hk; exact hk)
    omega
  clear d0 b2 hx2 hr2
  go_wp2_with fail
  go_region_held3 (fun w' => w'.cell? ⟨bx, 0, none⟩ = some (.pointer (some ⟨bm, 0, none⟩)) ∧ w'.cell? ⟨q, 2, none⟩ = some (.int .i64 (m.lf k).fr)) (first | exact ⟨e0, e2⟩ | exact h4c)
    ((go_at_call 67; refine (rShare_any _ _ _ _ (s.share f 1).2 (by first | exact hr3 | exact hr3.drew) hm3 (by omega) (by omega)).mono ?_; rintro e w4 ⟨rfl, hr4, hu4⟩; have h4c : w4.cell? ⟨bx, 0, none⟩ = some (.pointer (some ⟨bm, 0, none⟩)) ∧ w4.cell? ⟨q, 2, none⟩ = some (.int .i64 (m.lf k).fr) := ⟨hu4.cell (by exact e0) HNE.out, hu4.cell (by exact e2) (by show ¬ q = bm; omega)⟩))
  have hx4 := hx3.drew.upd hu4 HNE.out
  have g1 := hx4.th k hk
  have g2 := hx4.wr k hk
  have g3 := hx4.fr k hk
  have g4 := hx4.fz (17 + k * 3)
  have g5 := hx4.fz (17 + k * 3 + 1)
  have g6 := hx4.fz (17 + k * 3 + 2)
  have hx5 := hx4.setLf hk ⟨true, false, f⟩
  have hr5 := hr4.upd (Upd.three w4 bx (17 + k * 3) (17 + k * 3 + 1) (17 + k * 3 + 2) (.bool true) (.bool false) (.int .i64 f)) (Ne.symm HNE.out)
  have hu5 : Upd (fun k => k = bm ∨ k = bx) w' _ := (((u2.wide (T := fun k => k = bm ∨ k = bx) (fun _ f => f.elim)).trans hu3 (fun _ _ e => Or.inl e)).drew.trans hu4 (fun _ _ e => Or.inl e)).trans (Upd.three w4 bx (17 + k * 3) (17 + k * 3 + 1) (17 + k * 3 + 2) (.bool true) (.bool false) (.int .i64 f)) (fun _ _ e => Or.inr e)
  have HX5 : Hid _ := hx5
  have HR5 : Hid _ := hr5
  have HU5 : Hid _ := hu5
  clear hx5 hr5 hu5 hx4 hr4 hu4 h4c e0 e2 hx3 b3 hr3 hu3 u2
  go_wp2_with fail
  go_ret
  exact ⟨rfl, HR5.out, HX5.out, HU5.out⟩
end Go.Proofs.YtadpibcgjgcjhabGreatDoor
