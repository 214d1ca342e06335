/- The document's answer for chapter 2: what its functions answer, and what they turn: On, turn, Plug, Unplug, Give, Seal. -/
import Derived.Test.YtadpibcgjgcjhaaGreatPart03
namespace Go.Proofs.YtadpibcgjgcjhaaGreat
open Go.ChangeShapes Go.WideShapes Go.ChangeAt Go.RowKit
set_option maxRecDepth 100000
attribute [local go_sem ↓] Go.wp_at_zero Go.wp_at_succ

theorem on_any (w : World) (n : Int) : Calls Tryz.prog 101 #[.int .i64 n] w fun e w' => e = .returned (.bool (onB n)) ∧ w' = w := by
  by_cases h : onB n = true
  · obtain ⟨h0, h1⟩ := (onB_iff n).1 h
    rw [h]
    clear h
    go_enter Tryz.func101, Tryz.ntmps101
    go_wp2
    go_ret
    exact ⟨rfl, rfl⟩
  · have h' : onB n = false := by simpa using h
    rw [h']
    rcases (onB_no n).1 h' with h0 | h0
    · have hd : decide (0 ≤ n) = false := by simp; omega
      clear h h'
      go_enter Tryz.func101, Tryz.ntmps101
      go_wp2
      go_ret
      exact ⟨rfl, rfl⟩
    · have hd : decide (n < 16) = false := by simp; omega
      have h1 : 0 ≤ n := by omega
      clear h h'
      go_enter Tryz.func101, Tryz.ntmps101
      go_wp2
      go_ret
      exact ⟨rfl, rfl⟩
theorem on_is (w : World) (n : Int) {u : Bool} (h : onB n = u) : Calls Tryz.prog 101 #[.int .i64 n] w fun e w' => e = .returned (.bool u) ∧ w' = w := by
  subst h; exact on_any w n

/-- No leaf to give up: the state alone turns. -/
theorem turn_plain (w : World) (bx bm n : Nat) (z : Int) (m : Mp) (h : RMap w bx bm m) (hn : n < 16) (ht : ((m.lf n).there && !(z == 1)) = false) :
    Calls Tryz.prog 129 #[.pointer (some ⟨bx, 0, none⟩), .int .i64 n, .int .i64 z] w fun e w' => e = .returned (.tuple #[]) ∧ w' = w.setCell ⟨bx, 1 + n, none⟩ (.int .i64 z) := by
  have c1 := h.th n hn
  have c2 := h.st n hn
  have c3 := h.fz (1 + n)
  have n1 : (n : Int) < 16 := by omega
  cases hth : (m.lf n).there with
  | false =>
    rw [hth] at c1
    clear hth ht
    go_enter Tryz.func129, Tryz.ntmps129
    go_wp2
    go_end0
    exact ⟨rfl, rfl⟩
  | true =>
    rw [hth] at c1 ht
    have hz : z = 1 := by simpa using ht
    subst hz
    clear hth ht
    go_enter Tryz.func129, Tryz.ntmps129
    go_wp2
    go_end0
    exact ⟨rfl, rfl⟩
theorem turn_drop (w : World) (bx bm n : Nat) (z : Int) (m : Mp) (s : Pl) (h : RMap w bx bm m) (hr : RefAt w bm s) (hne : bx ≠ bm) (hn : n < 16) (hm : ∀ k, k < s.n → s.refs k ≤ 1000000) (ht : (m.lf n).there = true) (hz : (z != 1) = true) :
    Calls Tryz.prog 129 #[.pointer (some ⟨bx, 0, none⟩), .int .i64 n, .int .i64 z] w fun e w' => e = .returned (.tuple #[]) ∧ RefAt w' bm (s.share (m.lf n).fr (-1)).2 ∧ RMap w' bx bm { m with st := setAt m.st n z, lf := setAt m.lf n lf0 } ∧ Upd (fun k => k = bm ∨ k = bx) w w' := by
  have c0 := h.pool
  have c1 := h.th n hn
  rw [ht] at c1
  have c2 := h.fr n hn
  have n0 : (0 : Int) ≤ (n : Int) := by omega
  have n1 : (n : Int) < 16 := by omega
  have HNE : Hid _ := hne
  clear ht hne
  go_enter Tryz.func129, Tryz.ntmps129
  go_wp2_with fail
  go_region_held3 (fun w' => w'.cell? ⟨bx, 0, none⟩ = some (.pointer (some ⟨bm, 0, none⟩)) ∧ w'.cell? ⟨bx, 17 + n * 3 + 2, none⟩ = some (.int .i64 (m.lf n).fr)) (first | exact ⟨c0, c2⟩ | exact h1c)
    ((go_at_call 135; refine (rShare_any _ _ _ _ s (by first | exact hr | exact hr.drew) hm (by omega) (by omega)).mono ?_; rintro e w1 ⟨rfl, hr1, hu1⟩; have h1c : w1.cell? ⟨bx, 0, none⟩ = some (.pointer (some ⟨bm, 0, none⟩)) ∧ w1.cell? ⟨bx, 17 + n * 3 + 2, none⟩ = some (.int .i64 (m.lf n).fr) := ⟨hu1.cell (by exact c0) HNE.out, hu1.cell (by exact c2) HNE.out⟩))
  have hu1' : Upd (fun k => k = bm) w w1 := (Upd.refl (fun k => k = bm) w).drew.trans hu1 (fun _ _ e => e)
  have h1 := h.upd hu1' HNE.out
  have d1 := h1.th n hn
  have d2 := h1.wr n hn
  have d3 := h1.fr n hn
  have d4 := h1.fz
  have h2 := h1.setLf hn lf0
  have d5 := h2.st n hn
  have d6 := h2.fz (1 + n)
  have h3 := h2.setSt hn z
  have hr2 := (hr1.upd (Upd.three w1 bx (17 + n * 3) (17 + n * 3 + 1) (17 + n * 3 + 2) (.bool lf0.there) (.bool lf0.wr) (.int .i64 lf0.fr)) (Ne.symm HNE.out)).upd (Upd.one _ bx (1 + n) (.int .i64 z)) (Ne.symm HNE.out)
  have H3 : Hid _ := h3
  have HR2 : Hid _ := hr2
  have hu3 := (hu1'.wide (T := fun k => k = bm ∨ k = bx) (fun _ e => Or.inl e)).trans ((Upd.three w1 bx (17 + n * 3) (17 + n * 3 + 1) (17 + n * 3 + 2) (.bool lf0.there) (.bool lf0.wr) (.int .i64 lf0.fr)).trans (Upd.one _ bx (1 + n) (.int .i64 z)) (fun _ _ e => e)) (fun _ _ e => Or.inr e)
  have HU3 : Hid _ := hu3
  have d7 := d4 (17 + n * 3)
  have d8 := d4 (17 + n * 3 + 1)
  have d9 := d4 (17 + n * 3 + 2)
  have H1 : Hid _ := h1
  clear h3 hr2 hu3 d4 h2 h1 hu1 hu1' hr1 h1c c0 c1 c2
  simp only [lf0] at d5 d6
  go_wp2_with fail
  go_end0
  exact ⟨rfl, HR2.out, H3.out, HU3.out⟩

theorem turn_any (w : World) (bx bm n : Nat) (z : Int) (m : Mp) (s : Pl) (h : RMap w bx bm m) (hr : RefAt w bm s) (hne : bx ≠ bm) (hn : n < 16) (hm : ∀ k, k < s.n → s.refs k ≤ 1000000) :
    Calls Tryz.prog 129 #[.pointer (some ⟨bx, 0, none⟩), .int .i64 n, .int .i64 z] w fun e w' => e = .returned (.tuple #[]) ∧ RefAt w' bm (turnP s m n z) ∧ RMap w' bx bm (turnM m n z) ∧ Upd (fun k => k = bm ∨ k = bx) w w' := by
  cases ht : ((m.lf n).there && !(z == 1)) with
  | false =>
    refine (turn_plain w bx bm n z m h hn ht).mono ?_
    rintro e w' ⟨rfl, rfl⟩
    simp only [turnP, turnM, ht, Bool.false_eq_true, if_false]
    exact ⟨trivial, hr.upd (Upd.one _ _ _ _) (Ne.symm hne), h.setSt hn z, (Upd.one _ _ _ _).wide (fun _ e => Or.inr e)⟩
  | true =>
    have ht' := ht
    simp only [Bool.and_eq_true, Bool.not_eq_true', beq_eq_false_iff_ne, ne_eq] at ht'
    refine (turn_drop w bx bm n z m s h hr hne hn hm ht'.1 (by simp [ht'.2])).mono ?_
    rintro e w' ⟨rfl, h1, h2, h3⟩
    simp only [turnP, turnM, ht, if_true]
    exact ⟨trivial, h1, h2, h3⟩

theorem rPlug_any (w : World) (bx bm : Nat) (n : Int) (m : Mp) (s : Pl) (h : RMap w bx bm m) (hr : RefAt w bm s) (hne : bx ≠ bm) (hm : ∀ k, k < s.n → s.refs k ≤ 1000000) :
    Calls Tryz.prog 55 #[.pointer (some ⟨bx, 0, none⟩), .int .i64 n] w fun e w' => e = .returned (.int .i64 (plugR s m n).1) ∧ RefAt w' bm (plugR s m n).2.1 ∧ RMap w' bx bm (plugR s m n).2.2 ∧ Upd (fun k => k = bm ∨ k = bx) w w' := by
  cases ho : onB n with
  | false =>
    simp only [plugR, ho, Bool.false_eq_true, if_false]
    go_enter Tryz.func55, Tryz.ntmps55
    go_wp2_with (go_at_call 101; refine (on_is _ _ ho).mono ?_; rintro e w' ⟨rfl, rfl⟩)
    go_ret
    exact ⟨rfl, hr, h, Upd.refl _ _⟩
  | true =>
    obtain ⟨h0, h1⟩ := (onB_iff n).1 ho
    obtain ⟨k, rfl⟩ := Int.eq_ofNat_of_zero_le h0
    have hk : k < 16 := by omega
    have c1 := h.st k hk
    by_cases hs : m.st k = 0
    · simp only [plugR, ho, if_true, Int.toNat_natCast, hs]
      have b1 : (m.st k != 0) = false := by simp [hs]
      clear hs
      go_enter Tryz.func55, Tryz.ntmps55
      go_wp2_with (go_at_call 101; refine (on_is _ _ ho).mono ?_; rintro e w' ⟨rfl, rfl⟩)
      refine (turn_any _ _ _ k _ _ s h hr hne hk hm).mono ?_
      rintro e w1 ⟨rfl, a1, a2, a3⟩
      go_wp2_with fail
      go_ret
      exact ⟨rfl, a1, a2, a3⟩
    · simp only [plugR, ho, if_true, Int.toNat_natCast, hs, if_false]
      have b1 : (m.st k != 0) = true := by simp [hs]
      clear hs
      go_enter Tryz.func55, Tryz.ntmps55
      go_wp2_with (go_at_call 101; refine (on_is _ _ ho).mono ?_; rintro e w' ⟨rfl, rfl⟩)
      go_ret
      exact ⟨rfl, hr, h, Upd.refl _ _⟩
end Go.Proofs.YtadpibcgjgcjhaaGreat
/- The document's answer for chapter 2: Unplug, Give, Seal, Join. -/
namespace Go.Proofs.YtadpibcgjgcjhaaGreat
open Go.ChangeShapes Go.WideShapes Go.ChangeAt Go.RowKit
set_option maxRecDepth 100000
attribute [local go_sem ↓] Go.wp_at_zero Go.wp_at_succ

theorem rUnplug_any (w : World) (bx bm : Nat) (n : Int) (m : Mp) (s : Pl) (h : RMap w bx bm m) (hr : RefAt w bm s) (hne : bx ≠ bm) (hm : ∀ k, k < s.n → s.refs k ≤ 1000000) :
    Calls Tryz.prog 56 #[.pointer (some ⟨bx, 0, none⟩), .int .i64 n] w fun e w' => e = .returned (.int .i64 (unplugR s m n).1) ∧ RefAt w' bm (unplugR s m n).2.1 ∧ RMap w' bx bm (unplugR s m n).2.2 ∧ Upd (fun k => k = bm ∨ k = bx) w w' := by
  cases ho : onB n with
  | false =>
    simp only [unplugR, ho, Bool.false_eq_true, if_false]
    go_enter Tryz.func56, Tryz.ntmps56
    go_wp2_with (go_at_call 101; refine (on_is _ _ ho).mono ?_; rintro e w' ⟨rfl, rfl⟩)
    go_ret
    exact ⟨rfl, hr, h, Upd.refl _ _⟩
  | true =>
    obtain ⟨h0, h1⟩ := (onB_iff n).1 ho
    obtain ⟨k, rfl⟩ := Int.eq_ofNat_of_zero_le h0
    have hk : k < 16 := by omega
    have c1 := h.st k hk
    by_cases hs : m.st k = 0
    · simp only [unplugR, ho, if_true, Int.toNat_natCast, hs]
      have b1 : (m.st k == 0) = true := by simp [hs]
      clear hs
      go_enter Tryz.func56, Tryz.ntmps56
      go_wp2_with (go_at_call 101; refine (on_is _ _ ho).mono ?_; rintro e w' ⟨rfl, rfl⟩)
      go_ret
      exact ⟨rfl, hr, h, Upd.refl _ _⟩
    · simp only [unplugR, ho, if_true, Int.toNat_natCast, hs, if_false]
      have b1 : (m.st k == 0) = false := by simp [hs]
      clear hs
      go_enter Tryz.func56, Tryz.ntmps56
      go_wp2_with (go_at_call 101; refine (on_is _ _ ho).mono ?_; rintro e w' ⟨rfl, rfl⟩)
      refine (turn_any _ _ _ k _ _ s h hr hne hk hm).mono ?_
      rintro e w1 ⟨rfl, a1, a2, a3⟩
      go_wp2_with fail
      go_ret
      exact ⟨rfl, a1, a2, a3⟩
theorem rGive_any (w : World) (bx bm : Nat) (n : Int) (back : Bool) (m : Mp) (s : Pl) (h : RMap w bx bm m) (hr : RefAt w bm s) (hne : bx ≠ bm) (hm : ∀ k, k < s.n → s.refs k ≤ 1000000) :
    Calls Tryz.prog 58 #[.pointer (some ⟨bx, 0, none⟩), .int .i64 n, .bool back] w fun e w' => e = .returned (.int .i64 (giveR s m n back).1) ∧ RefAt w' bm (giveR s m n back).2.1 ∧ RMap w' bx bm (giveR s m n back).2.2 ∧ Upd (fun k => k = bm ∨ k = bx) w w' := by
  cases ho : onB n with
  | false =>
    simp only [giveR, ho, Bool.false_eq_true, if_false]
    go_enter Tryz.func58, Tryz.ntmps58
    go_wp2_with (go_at_call 101; refine (on_is _ _ ho).mono ?_; rintro e w' ⟨rfl, rfl⟩)
    go_ret
    exact ⟨rfl, hr, h, Upd.refl _ _⟩
  | true =>
    obtain ⟨h0, h1⟩ := (onB_iff n).1 ho
    obtain ⟨k, rfl⟩ := Int.eq_ofNat_of_zero_le h0
    have hk : k < 16 := by omega
    have c1 := h.st k hk
    cases back with
    | true =>
      by_cases hs : m.st k = 2
      · simp only [giveR, ho, if_true, Int.toNat_natCast, hs]
        have b1 : (m.st k == 2) = true := by simp [hs]
        clear hs
        go_enter Tryz.func58, Tryz.ntmps58
        go_wp2_with (go_at_call 101; refine (on_is _ _ ho).mono ?_; rintro e w' ⟨rfl, rfl⟩)
        refine (turn_any _ _ _ k _ _ s h hr hne hk hm).mono ?_
        rintro e w1 ⟨rfl, a1, a2, a3⟩
        go_wp2_with fail
        go_ret
        exact ⟨rfl, a1, a2, a3⟩
      · simp only [giveR, ho, if_true, Int.toNat_natCast, hs, if_false]
        have b1 : (m.st k == 2) = false := by simp [hs]
        clear hs
        go_enter Tryz.func58, Tryz.ntmps58
        go_wp2_with (go_at_call 101; refine (on_is _ _ ho).mono ?_; rintro e w' ⟨rfl, rfl⟩)
        go_ret
        exact ⟨rfl, hr, h, Upd.refl _ _⟩
    | false =>
      by_cases hs : m.st k = 1
      · simp only [giveR, ho, if_true, Int.toNat_natCast, hs, Bool.false_eq_true, if_false]
        have b1 : (m.st k == 1) = true := by simp [hs]
        clear hs
        go_enter Tryz.func58, Tryz.ntmps58
        go_wp2_with (go_at_call 101; refine (on_is _ _ ho).mono ?_; rintro e w' ⟨rfl, rfl⟩)
        refine (turn_any _ _ _ k _ _ s h hr hne hk hm).mono ?_
        rintro e w1 ⟨rfl, a1, a2, a3⟩
        go_wp2_with fail
        go_ret
        exact ⟨rfl, a1, a2, a3⟩
      · simp only [giveR, ho, if_true, Int.toNat_natCast, hs, if_false, Bool.false_eq_true]
        have b1 : (m.st k == 1) = false := by simp [hs]
        clear hs
        go_enter Tryz.func58, Tryz.ntmps58
        go_wp2_with (go_at_call 101; refine (on_is _ _ ho).mono ?_; rintro e w' ⟨rfl, rfl⟩)
        go_ret
        exact ⟨rfl, hr, h, Upd.refl _ _⟩
theorem rSeal_any (w : World) (bx bm : Nat) (n : Int) (m : Mp) (h : RMap w bx bm m) :
    Calls Tryz.prog 63 #[.pointer (some ⟨bx, 0, none⟩), .int .i64 n] w fun e w' => e = .returned (.int .i64 (sealR m n).1) ∧ RMap w' bx bm (sealR m n).2 ∧ Upd (fun k => k = bx) w w' := by
  cases ho : onB n with
  | false =>
    simp only [sealR, ho, Bool.false_eq_true, if_false]
    go_enter Tryz.func63, Tryz.ntmps63
    go_wp2_with (go_at_call 101; refine (on_is _ _ ho).mono ?_; rintro e w' ⟨rfl, rfl⟩)
    go_ret
    exact ⟨rfl, h, Upd.refl _ _⟩
  | true =>
    obtain ⟨h0, h1⟩ := (onB_iff n).1 ho
    obtain ⟨k, rfl⟩ := Int.eq_ofNat_of_zero_le h0
    have hk : k < 16 := by omega
    have c1 := h.th k hk
    have c2 := h.wr k hk
    have c3 := h.fz (17 + k * 3 + 1)
    cases ht : (m.lf k).there with
    | false =>
      simp only [sealR, ho, if_true, Int.toNat_natCast, ht, Bool.false_eq_true, if_false]
      rw [ht] at c1
      clear ht
      go_enter Tryz.func63, Tryz.ntmps63
      go_wp2_with (go_at_call 101; refine (on_is _ _ ho).mono ?_; rintro e w' ⟨rfl, rfl⟩)
      go_ret
      exact ⟨rfl, h, Upd.refl _ _⟩
    | true =>
      simp only [sealR, ho, if_true, Int.toNat_natCast, ht]
      rw [ht] at c1
      have h2 := h.setWr hk false
      simp only [ht] at h2
      have H2 : Hid _ := h2
      clear ht h2
      go_enter Tryz.func63, Tryz.ntmps63
      go_wp2_with (go_at_call 101; refine (on_is _ _ ho).mono ?_; rintro e w' ⟨rfl, rfl⟩)
      go_ret
      exact ⟨rfl, H2.out, Upd.one _ _ _ _⟩
end Go.Proofs.YtadpibcgjgcjhaaGreat
/- The document's answer for chapter 2: Join, Touch. -/
namespace Go.Proofs.YtadpibcgjgcjhaaGreat
open Go.ChangeShapes Go.WideShapes Go.ChangeAt Go.RowKit
set_option maxRecDepth 100000
attribute [local go_sem ↓] Go.wp_at_zero Go.wp_at_succ

/-- The box of a leaf. -/
structure LfAt (w : World) (q : Nat) (l : Lf) : Prop where
  c0 : w.cell? ⟨q, 0, none⟩ = some (.bool l.there)
  c1 : w.cell? ⟨q, 1, none⟩ = some (.bool l.wr)
  c2 : w.cell? ⟨q, 2, none⟩ = some (.int .i64 l.fr)
theorem LfAt.upd {S : Nat → Prop} {w w' : World} {q : Nat} {l : Lf} (h : LfAt w q l) (u : Upd S w w') (hq : ¬ S q) : LfAt w' q l := ⟨u.cell h.c0 hq, u.cell h.c1 hq, u.cell h.c2 hq⟩
theorem LfAt.new (w : World) (t : TypeId) (l : Lf) : LfAt (w.alloc (.cells #[.bool l.there, .bool l.wr, .int .i64 l.fr] t)) w.heap.size l :=
  ⟨by rw [World.cell?_alloc_new]; rfl, by rw [World.cell?_alloc_new]; rfl, by rw [World.cell?_alloc_new]; rfl⟩

theorem rJoin_no (w : World) (bx bm : Nat) (n f : Int) (m : Mp) (h : RMap w bx bm m) (ho : onB n = true) (ht : ((m.lf n.toNat).there && !((m.lf n.toNat).fr == f)) = false) :
    Calls Tryz.prog 61 #[.pointer (some ⟨bx, 0, none⟩), .int .i64 n, .int .i64 f] w fun e w' => e = .returned (.int .i64 8) ∧ Upd (fun _ => False) w w' := by
  obtain ⟨h0, h1⟩ := (onB_iff n).1 ho
  obtain ⟨k, rfl⟩ := Int.eq_ofNat_of_zero_le h0
  rw [Int.toNat_natCast] at ht
  have hk : k < 16 := by omega
  have c0 := h.th k hk
  have c1 := h.wr k hk
  have c2 := h.fr k hk
  cases htt : (m.lf k).there with
  | false =>
    rw [htt] at c0
    clear ht htt
    go_enter Tryz.func61, Tryz.ntmps61
    go_wp2_with (go_at_call 101; refine (on_is _ _ ho).mono ?_; rintro e w' ⟨rfl, rfl⟩)
    go_ret
    exact ⟨rfl, (Upd.refl _ _).alloc _⟩
  | true =>
    rw [htt] at c0 ht
    have hb : ((m.lf k).fr != f) = false := by
      simp only [Bool.true_and, Bool.not_eq_false', beq_iff_eq] at ht
      simp [ht]
    clear ht htt
    go_enter Tryz.func61, Tryz.ntmps61
    go_wp2_with (go_at_call 101; refine (on_is _ _ ho).mono ?_; rintro e w' ⟨rfl, rfl⟩)
    go_ret
    exact ⟨rfl, (Upd.refl _ _).alloc _⟩

theorem rSame_is (w : World) (bm : Nat) (f g : Int) (s : Pl) (h : RefAt w bm s) {u : Bool} (hu : s.same f g = u) :
    Calls Tryz.prog 134 #[.pointer (some ⟨bm, 0, none⟩), .int .i64 f, .int .i64 g] w fun e w' => e = .returned (.bool u) ∧ ∃ m, w' = w.drewN m := by
  subst hu; exact rSame_any w bm f g s h
theorem rJoin_diff (w : World) (bx bm : Nat) (n f : Int) (m : Mp) (s : Pl) (h : RMap w bx bm m) (hr : RefAt w bm s) (ho : onB n = true) (ht : (m.lf n.toNat).there = true) (hf : ((m.lf n.toNat).fr != f) = true) (hs : s.same (m.lf n.toNat).fr f = false) :
    Calls Tryz.prog 61 #[.pointer (some ⟨bx, 0, none⟩), .int .i64 n, .int .i64 f] w fun e w' => e = .returned (.int .i64 8) ∧ Upd (fun _ => False) w w' := by
  obtain ⟨h0, h1⟩ := (onB_iff n).1 ho
  obtain ⟨k, rfl⟩ := Int.eq_ofNat_of_zero_le h0
  rw [Int.toNat_natCast] at ht hf hs
  have hk : k < 16 := by omega
  have c0 := h.th k hk
  have c1 := h.wr k hk
  have c2 := h.fr k hk
  rw [ht] at c0
  have HS : Hid _ := hs
  clear ht hs
  go_enter Tryz.func61, Tryz.ntmps61
  go_wp2_with (go_at_call 101; refine (on_is _ _ ho).mono ?_; rintro e w' ⟨rfl, rfl⟩)
  have u1 := (Upd.refl (fun _ => False) w').alloc (.cells #[.bool true, .bool (m.lf k).wr, .int .i64 (m.lf k).fr] 43)
  have b1 := LfAt.new w' 43 ⟨true, (m.lf k).wr, (m.lf k).fr⟩
  revert u1 b1
  generalize w'.alloc (.cells #[.bool true, .bool (m.lf k).wr, .int .i64 (m.lf k).fr] 43) = w1
  generalize w'.heap.size = q
  intro u1 b1
  have hr1 := hr.upd u1 (fun f => f)
  have d0 := u1.cell h.pool (fun f => f)
  have d2 := b1.c2
  clear c0 c1 c2
  go_quiet ((go_at_call 134; exact Calls.quiet_of (rSame_is _ _ _ _ s (hr1.drewN _) HS.out)))
  go_wp2_with fail
  go_ret
  exact ⟨rfl, u1.drewN nq⟩
theorem rJoin_yes (w : World) (bx bm : Nat) (n f : Int) (m : Mp) (s : Pl) (h : RMap w bx bm m) (hr : RefAt w bm s) (hne : bx ≠ bm) (hm : ∀ k, k < s.n → s.refs k ≤ 999999) (ho : onB n = true) (ht : (m.lf n.toNat).there = true) (hf : ((m.lf n.toNat).fr != f) = true) (hs : s.same (m.lf n.toNat).fr f = true) :
    Calls Tryz.prog 61 #[.pointer (some ⟨bx, 0, none⟩), .int .i64 n, .int .i64 f] w fun e w' => e = .returned (.int .i64 0) ∧ RefAt w' bm ((s.share f 1).2.share (m.lf n.toNat).fr (-1)).2 ∧ RMap w' bx bm { m with lf := setAt m.lf n.toNat ⟨true, false, f⟩ } ∧ Upd (fun k => k = bm ∨ k = bx) w w' := by
  obtain ⟨h0, h1⟩ := (onB_iff n).1 ho
  obtain ⟨k, rfl⟩ := Int.eq_ofNat_of_zero_le h0
  rw [Int.toNat_natCast] at *
  have hk : k < 16 := by omega
  have k0 : (0 : Int) ≤ (k : Int) := by omega
  have k1 : (k : Int) < 16 := by omega
  have c0 := h.th k hk
  have c1 := h.wr k hk
  have c2 := h.fr k hk
  rw [ht] at c0
  have HS : Hid _ := hs
  have HNE : Hid _ := hne
  have hbm : bm < w.heap.size := World.block_lt_of_cell? _ _ hr.num
  have hbx := h.lt
  clear ht hs hne
  go_enter Tryz.func61, Tryz.ntmps61
  go_wp2_with (go_at_call 101; refine (on_is _ _ ho).mono ?_; rintro e w' ⟨rfl, rfl⟩)
  have u1 := (Upd.refl (fun _ => False) w').alloc (.cells #[.bool true, .bool (m.lf k).wr, .int .i64 (m.lf k).fr] 43)
  have b1 := LfAt.new w' 43 ⟨true, (m.lf k).wr, (m.lf k).fr⟩
  revert u1 b1 hbm hbx
  generalize w'.alloc (.cells #[.bool true, .bool (m.lf k).wr, .int .i64 (m.lf k).fr] 43) = w1
  generalize w'.heap.size = q
  intro hbm hbx u1 b1
  have hr1 := hr.upd u1 (fun f => f)
  have hx1 := h.upd u1 (fun f => f)
  have d0 := hx1.pool
  have d2 := b1.c2
  clear c0 c1 c2
  go_quiet ((go_at_call 134; exact Calls.quiet_of (rSame_is _ _ _ _ s (hr1.drewN _) HS.out)))
  have u2 := u1.drewN nq
  have hr2 := hr1.drewN nq
  have hx2 := hx1.drewN nq
  have b2 := b1.upd ((Upd.refl (fun _ => False) w1).drewN nq) (fun f => f)
  clear u1 hr1 hx1 b1 d0 d2
  revert u2 hr2 hx2 b2
  generalize w1.drewN nq = w2
  intro u2 hr2 hx2 b2
  have d0 := hx2.pool
  go_wp2_with fail
  refine (rShare_any _ _ _ _ s hr2 (fun k hk => by have := hm k hk; omega) (by omega) (by omega)).mono ?_
  rintro e w3 ⟨rfl, hr3, hu3⟩
  have hx3 := hx2.upd hu3 HNE.out
  have b3 := b2.upd hu3 (by omega)
  have e0 := hx3.pool
  have e2 := b3.c2
  have hm3 : ∀ k, k < (s.share f 1).2.n → (s.share f 1).2.refs k ≤ 1000000 := by
    have := share_bd (s := s) (f := f) (d := 1) (n := s.n) (B := 999998) rfl (fun f hf => by have := hm f hf; omega) (by omega)
    intro k hk
    have := this k (by rw [share_n] at hk; exact hk)
    omega
  clear d0 b2 hx2 hr2
  go_wp2_with fail
  go_region_held3 (fun w' => w'.cell? ⟨bx, 0, none⟩ = some (.pointer (some ⟨bm, 0, none⟩)) ∧ w'.cell? ⟨q, 2, none⟩ = some (.int .i64 (m.lf k).fr)) (first | exact ⟨e0, e2⟩ | exact h4c)
    ((go_at_call 135; refine (rShare_any _ _ _ _ (s.share f 1).2 (by first | exact hr3 | exact hr3.drew) hm3 (by omega) (by omega)).mono ?_; rintro e w4 ⟨rfl, hr4, hu4⟩; have h4c : w4.cell? ⟨bx, 0, none⟩ = some (.pointer (some ⟨bm, 0, none⟩)) ∧ w4.cell? ⟨q, 2, none⟩ = some (.int .i64 (m.lf k).fr) := ⟨hu4.cell (by exact e0) HNE.out, hu4.cell (by exact e2) (by show ¬ q = bm; omega)⟩))
  have hx4 := hx3.drew.upd hu4 HNE.out
  have g1 := hx4.th k hk
  have g2 := hx4.wr k hk
  have g3 := hx4.fr k hk
  have g4 := hx4.fz (17 + k * 3)
  have g5 := hx4.fz (17 + k * 3 + 1)
  have g6 := hx4.fz (17 + k * 3 + 2)
  have hx5 := hx4.setLf hk ⟨true, false, f⟩
  have hr5 := hr4.upd (Upd.three w4 bx (17 + k * 3) (17 + k * 3 + 1) (17 + k * 3 + 2) (.bool true) (.bool false) (.int .i64 f)) (Ne.symm HNE.out)
  have hu5 : Upd (fun k => k = bm ∨ k = bx) w' _ := (((u2.wide (T := fun k => k = bm ∨ k = bx) (fun _ f => f.elim)).trans hu3 (fun _ _ e => Or.inl e)).drew.trans hu4 (fun _ _ e => Or.inl e)).trans (Upd.three w4 bx (17 + k * 3) (17 + k * 3 + 1) (17 + k * 3 + 2) (.bool true) (.bool false) (.int .i64 f)) (fun _ _ e => Or.inr e)
  have HX5 : Hid _ := hx5
  have HR5 : Hid _ := hr5
  have HU5 : Hid _ := hu5
  clear hx5 hr5 hu5 hx4 hr4 hu4 h4c e0 e2 hx3 b3 hr3 hu3 u2
  go_wp2_with fail
  go_ret
  exact ⟨rfl, HR5.out, HX5.out, HU5.out⟩
end Go.Proofs.YtadpibcgjgcjhaaGreat
/- The document's answer for chapter 2: Touch. -/
namespace Go.Proofs.YtadpibcgjgcjhaaGreat
open Go.ChangeShapes Go.WideShapes Go.ChangeAt Go.RowKit
set_option maxRecDepth 100000
attribute [local go_sem ↓] Go.wp_at_zero Go.wp_at_succ

theorem rJoin_any (w : World) (bx bm : Nat) (n f : Int) (m : Mp) (s : Pl) (h : RMap w bx bm m) (hr : RefAt w bm s) (hne : bx ≠ bm) (hm : ∀ k, k < s.n → s.refs k ≤ 999999) :
    Calls Tryz.prog 61 #[.pointer (some ⟨bx, 0, none⟩), .int .i64 n, .int .i64 f] w fun e w' => e = .returned (.int .i64 (joinR s m n f).1) ∧ RefAt w' bm (joinR s m n f).2.1 ∧ RMap w' bx bm (joinR s m n f).2.2 ∧ Upd (fun k => k = bm ∨ k = bx) w w' := by
  cases ho : onB n with
  | false =>
    simp only [joinR, ho, Bool.false_eq_true, if_false]
    go_enter Tryz.func61, Tryz.ntmps61
    go_wp2_with (go_at_call 101; refine (on_is _ _ ho).mono ?_; rintro e w' ⟨rfl, rfl⟩)
    go_ret
    exact ⟨rfl, hr, h, Upd.refl _ _⟩
  | true =>
    cases ht : ((m.lf n.toNat).there && !((m.lf n.toNat).fr == f)) with
    | false =>
      refine (rJoin_no w bx bm n f m h ho ht).mono ?_
      rintro e w' ⟨rfl, hu⟩
      simp only [joinR, ho, ht, if_true, Bool.false_and, Bool.false_eq_true, if_false]
      exact ⟨trivial, hr.upd hu (fun f => f), h.upd hu (fun f => f), hu.wide (fun _ f => f.elim)⟩
    | true =>
      have ht' := ht
      simp only [Bool.and_eq_true, Bool.not_eq_true', beq_eq_false_iff_ne, ne_eq] at ht'
      cases hs : s.same (m.lf n.toNat).fr f with
      | false =>
        refine (rJoin_diff w bx bm n f m s h hr ho ht'.1 (by simp [ht'.2]) hs).mono ?_
        rintro e w' ⟨rfl, hu⟩
        simp only [joinR, ho, ht, hs, if_true, Bool.and_false, Bool.false_eq_true, if_false]
        exact ⟨trivial, hr.upd hu (fun f => f), h.upd hu (fun f => f), hu.wide (fun _ f => f.elim)⟩
      | true =>
        refine (rJoin_yes w bx bm n f m s h hr hne hm ho ht'.1 (by simp [ht'.2]) hs).mono ?_
        rintro e w' ⟨rfl, a1, a2, a3⟩
        simp only [joinR, ho, ht, hs, if_true, Bool.and_true]
        exact ⟨trivial, a1, a2, a3⟩

theorem touch_out (w : World) (bx : Nat) (n : Int) (wt : Bool) (ho : onB n = false) :
    Calls Tryz.prog 158 #[.pointer (some ⟨bx, 0, none⟩), .int .i64 n, .bool wt] w fun e w' => e = .returned (.tuple #[.int .i64 0, .bool false, .int .i64 1]) ∧ w' = w := by
  go_enter Tryz.func158, Tryz.ntmps158
  go_wp2_with (go_at_call 101; refine (on_is _ _ ho).mono ?_; rintro e w' ⟨rfl, rfl⟩)
  go_ret3
  exact ⟨rfl, rfl⟩
theorem touch_absent (w : World) (bx bm k : Nat) (wt : Bool) (m : Mp) (h : RMap w bx bm m) (hk : k < 16) (hs : m.st k = 0) :
    Calls Tryz.prog 158 #[.pointer (some ⟨bx, 0, none⟩), .int .i64 k, .bool wt] w fun e w' => e = .returned (.tuple #[.int .i64 0, .bool false, .int .i64 2]) ∧ w' = w := by
  have ho : onB (k : Int) = true := by simp [onB]; omega
  have c1 := h.st k hk
  have k1 : (k : Int) < 16 := by omega
  have b1 : (m.st k == 0) = true := by simp [hs]
  clear hs
  go_enter Tryz.func158, Tryz.ntmps158
  go_wp2_with (go_at_call 101; refine (on_is _ _ ho).mono ?_; rintro e w' ⟨rfl, rfl⟩)
  go_ret3
  exact ⟨rfl, rfl⟩
theorem touch_gone (w : World) (bx bm k : Nat) (wt : Bool) (m : Mp) (h : RMap w bx bm m) (hk : k < 16) (hs : m.st k = 2) :
    Calls Tryz.prog 158 #[.pointer (some ⟨bx, 0, none⟩), .int .i64 k, .bool wt] w fun e w' => e = .returned (.tuple #[.int .i64 0, .bool false, .int .i64 6]) ∧ w' = w := by
  have ho : onB (k : Int) = true := by simp [onB]; omega
  have c1 := h.st k hk
  have k1 : (k : Int) < 16 := by omega
  have b1 : (m.st k == 0) = false := by simp [hs]
  have b2 : (m.st k == 2) = true := by simp [hs]
  clear hs
  go_enter Tryz.func158, Tryz.ntmps158
  go_wp2_with (go_at_call 101; refine (on_is _ _ ho).mono ?_; rintro e w' ⟨rfl, rfl⟩)
  go_ret3
  exact ⟨rfl, rfl⟩
theorem touch_keep (w : World) (bx bm k : Nat) (wt : Bool) (m : Mp) (h : RMap w bx bm m) (hk : k < 16) (h0 : m.st k ≠ 0) (h2 : m.st k ≠ 2) (ht : (m.lf k).there = true) (hw : (!wt || (m.lf k).wr) = true) :
    Calls Tryz.prog 158 #[.pointer (some ⟨bx, 0, none⟩), .int .i64 k, .bool wt] w fun e w' => e = .returned (.tuple #[.int .i64 (m.lf k).fr, .bool false, .int .i64 0]) ∧ Upd (fun _ => False) w w' := by
  have ho : onB (k : Int) = true := by simp [onB]; omega
  have c1 := h.st k hk
  have k1 : (k : Int) < 16 := by omega
  have b1 : (m.st k == 0) = false := by simp [h0]
  have b2 : (m.st k == 2) = false := by simp [h2]
  have c2 := h.th k hk
  have c3 := h.wr k hk
  have c4 := h.fr k hk
  rw [ht] at c2
  clear h0 h2 ht
  cases wt with
  | false =>
    clear hw
    go_enter Tryz.func158, Tryz.ntmps158
    go_wp2_with (go_at_call 101; refine (on_is _ _ ho).mono ?_; rintro e w' ⟨rfl, rfl⟩)
    go_ret3
    exact ⟨rfl, (Upd.refl _ _).alloc _⟩
  | true =>
    have hw' : (m.lf k).wr = true := by simpa using hw
    rw [hw'] at c3
    clear hw hw'
    go_enter Tryz.func158, Tryz.ntmps158
    go_wp2_with (go_at_call 101; refine (on_is _ _ ho).mono ?_; rintro e w' ⟨rfl, rfl⟩)
    go_ret3
    exact ⟨rfl, (Upd.refl _ _).alloc _⟩
end Go.Proofs.YtadpibcgjgcjhaaGreat
/- The document's answer for chapter 2: Touch, where a frame is wanted. -/
namespace Go.Proofs.YtadpibcgjgcjhaaGreat
open Go.ChangeShapes Go.WideShapes Go.ChangeAt Go.RowKit
set_option maxRecDepth 100000
attribute [local go_sem ↓] Go.wp_at_zero Go.wp_at_succ

theorem touch_own (w : World) (bx bm k : Nat) (m : Mp) (s : Pl) (h : RMap w bx bm m) (hr : RefAt w bm s) (hne : bx ≠ bm) (hk : k < 16) (h0 : m.st k ≠ 0) (h2 : m.st k ≠ 2) (ht : (m.lf k).there = true) (hw : (m.lf k).wr = false)
    (f0 : 0 ≤ (m.lf k).fr) (f1 : (m.lf k).fr < s.n) (hone : s.refs (m.lf k).fr.toNat = 1) :
    Calls Tryz.prog 158 #[.pointer (some ⟨bx, 0, none⟩), .int .i64 k, .bool true] w fun e w' => e = .returned (.tuple #[.int .i64 (m.lf k).fr, .bool false, .int .i64 0]) ∧ RMap w' bx bm { m with lf := setAt m.lf k { m.lf k with wr := true } } ∧ Upd (fun k => k = bx) w w' := by
  have ho : onB (k : Int) = true := by simp [onB]; omega
  have c1 := h.st k hk
  have k1 : (k : Int) < 16 := by omega
  have b1 : (m.st k == 0) = false := by simp [h0]
  have b2 : (m.st k == 2) = false := by simp [h2]
  have c2 := h.th k hk
  have c3 := h.wr k hk
  have c4 := h.fr k hk
  rw [ht] at c2
  rw [hw] at c3
  have HNE : Hid _ := hne
  have HT : Hid _ := ht
  have hl := hr.le
  have f2 : (m.lf k).fr < 64 := by omega
  clear h0 h2 ht hw hne
  go_enter Tryz.func158, Tryz.ntmps158
  go_wp2_with (go_at_call 101; refine (on_is _ _ ho).mono ?_; rintro e w' ⟨rfl, rfl⟩)
  have u1 := (Upd.refl (fun _ => False) w').alloc (.cells #[.bool true, .bool false, .int .i64 (m.lf k).fr] 43)
  have q1 := LfAt.new w' 43 ⟨true, false, (m.lf k).fr⟩
  have hbx := h.lt
  revert u1 q1 hbx
  generalize w'.alloc (.cells #[.bool true, .bool false, .int .i64 (m.lf k).fr] 43) = w1
  generalize w'.heap.size = q
  intro u1 q1 hbx
  have hr1 := hr.upd u1 (fun f => f)
  have hx1 := h.upd u1 (fun f => f)
  have d0 := hx1.pool
  have d2 := q1.c2
  have d3 := hr1.refs (m.lf k).fr.toNat (by omega)
  rw [hone] at d3
  clear c1 c2 c3 c4 hone
  go_quiet (fail)
  have u2 := u1.drewN nq
  have hx2 := hx1.drewN nq
  have q2 := q1.upd ((Upd.refl (fun _ => False) w1).drewN nq) (fun f => f)
  clear u1 hx1 q1 d0 d2 d3 hr1
  revert u2 hx2 q2
  generalize w1.drewN nq = w2
  intro u2 hx2 q2
  have e1 := hx2.wr k hk
  have e2 := hx2.fz (17 + k * 3 + 1)
  have e3 : (w2.setCell ⟨bx, 17 + k * 3 + 1, none⟩ (.bool true)).cell? ⟨q, 2, none⟩ = some (.int .i64 (m.lf k).fr) := by
    rw [World.cell?_setCell_other _ _ _ _ (addr_ne (Or.inl (by omega)))]; exact q2.c2
  have hx3 := hx2.setWr hk true
  simp only [HT.out] at hx3
  have HX3 : Hid _ := hx3
  have hu3 := (u2.wide (T := fun k => k = bx) (fun _ f => f.elim)).trans (Upd.one w2 bx (17 + k * 3 + 1) (.bool true)) (fun _ _ e => e)
  have HU3 : Hid _ := hu3
  clear hx3 hu3 hx2 q2 u2
  go_wp2_with fail
  go_ret3
  refine ⟨rfl, ?_, HU3.out⟩
  have := HX3.out
  simp only [HT.out]
  exact this

theorem rTake_ok (w : World) (bm j : Nat) (s : Pl) (h : RefAt w bm s) (hj : j < s.n) (h0 : s.refs j = 0) (hr : ∀ i, i < j → s.refs i ≠ 0) :
    Calls Tryz.prog 168 #[.pointer (some ⟨bm, 0, none⟩)] w fun e w' => e = .returned (.tuple #[.int .i64 j, .int .i64 0]) ∧ RefAt w' bm { s with refs := setAt s.refs j 1, byt := setAt s.byt j fun _ => 0 } ∧ Upd (fun k => k = bm) w w' := by
  refine (rTake_at w bm j s h hj h0 hr).mono ?_
  rintro e w' ⟨rfl, rfl⟩
  refine ⟨rfl, ?_, (Upd.one _ _ _ _).trans (Upd.row _ _ _ _) (fun _ _ e => e)⟩
  exact (h.setRef (f := j) (v := 1) hj (by omega)).setRow (f := j) hj (fun _ => 0)

/-- Touch goes on to take a frame: the ways there. -/
theorem touch_full (w : World) (bx bm k : Nat) (wt : Bool) (m : Mp) (s : Pl) (h : RMap w bx bm m) (hr : RefAt w bm s) (hk : k < 16) (h0 : m.st k ≠ 0) (h2 : m.st k ≠ 2)
    (hway : (m.lf k).there = false ∨ ((m.lf k).there = true ∧ wt = true ∧ (m.lf k).wr = false ∧ 0 ≤ (m.lf k).fr ∧ (m.lf k).fr < s.n ∧ s.refs (m.lf k).fr.toNat ≠ 1)) (hfull : ∀ i, i < s.n → s.refs i ≠ 0) :
    Calls Tryz.prog 158 #[.pointer (some ⟨bx, 0, none⟩), .int .i64 k, .bool wt] w fun e w' => e = .returned (.tuple #[.int .i64 0, .bool false, .int .i64 3]) ∧ Upd (fun _ => False) w w' := by
  have ho : onB (k : Int) = true := by simp [onB]; omega
  have c1 := h.st k hk
  have k1 : (k : Int) < 16 := by omega
  have b1 : (m.st k == 0) = false := by simp [h0]
  have b2 : (m.st k == 2) = false := by simp [h2]
  have c2 := h.th k hk
  have c3 := h.wr k hk
  have c4 := h.fr k hk
  have HF : Hid _ := hfull
  have hl := hr.le
  clear h0 h2 hfull
  rcases hway with ht | ⟨ht, rfl, hw, f0, f1, hone⟩
  · rw [ht] at c2
    have c0 := h.pool
    have hbx := h.lt
    clear ht
    go_enter Tryz.func158, Tryz.ntmps158
    go_wp2_with (go_at_call 101; refine (on_is _ _ ho).mono ?_; rintro e w' ⟨rfl, rfl⟩)
    have u1 := (Upd.refl (fun _ => False) w').alloc (.cells #[.bool false, .bool (m.lf k).wr, .int .i64 (m.lf k).fr] 43)
    revert u1
    generalize w'.alloc (.cells #[.bool false, .bool (m.lf k).wr, .int .i64 (m.lf k).fr] 43) = w1
    intro u1
    refine (rTake_full _ _ s (hr.upd u1 (fun f => f)) HF.out).mono ?_
    rintro e w2 ⟨rfl, rfl⟩
    go_wp2_with fail
    go_ret3
    exact ⟨rfl, u1⟩
  · rw [ht] at c2
    rw [hw] at c3
    have f2 : (m.lf k).fr < 64 := by omega
    have b3 : (s.refs (m.lf k).fr.toNat == 1) = false := by simp [hone]
    clear ht hw hone
    go_enter Tryz.func158, Tryz.ntmps158
    go_wp2_with (go_at_call 101; refine (on_is _ _ ho).mono ?_; rintro e w' ⟨rfl, rfl⟩)
    have u1 := (Upd.refl (fun _ => False) w').alloc (.cells #[.bool true, .bool false, .int .i64 (m.lf k).fr] 43)
    have q1 := LfAt.new w' 43 ⟨true, false, (m.lf k).fr⟩
    revert u1 q1
    generalize w'.alloc (.cells #[.bool true, .bool false, .int .i64 (m.lf k).fr] 43) = w1
    generalize w'.heap.size = q
    intro u1 q1
    have hr1 := hr.upd u1 (fun f => f)
    have d0 := u1.cell h.pool (fun f => f)
    have d2 := q1.c2
    have d3 := hr1.refs (m.lf k).fr.toNat (by omega)
    clear c1 c2 c3 c4
    go_quiet (fail)
    have u2 := u1.drewN nq
    have hr2 := hr1.drewN nq
    have e0 : (w1.drewN nq).cell? ⟨bx, 0, none⟩ = some (.pointer (some ⟨bm, 0, none⟩)) := d0
    clear u1 d0 d2 d3 hr1 q1
    revert u2 hr2 e0
    generalize w1.drewN nq = w2
    intro u2 hr2 e0
    go_wp2_with fail
    refine (rTake_full _ _ s hr2 HF.out).mono ?_
    rintro e w3 ⟨rfl, rfl⟩
    go_wp2_with fail
    go_ret3
    exact ⟨rfl, u2⟩

theorem touch_new (w : World) (bx bm k j : Nat) (wt : Bool) (m : Mp) (s : Pl) (h : RMap w bx bm m) (hr : RefAt w bm s) (hne : bx ≠ bm) (hk : k < 16) (h0 : m.st k ≠ 0) (h2 : m.st k ≠ 2)
    (ht : (m.lf k).there = false) (hj : j < s.n) (hj0 : s.refs j = 0) (hjr : ∀ i, i < j → s.refs i ≠ 0) :
    Calls Tryz.prog 158 #[.pointer (some ⟨bx, 0, none⟩), .int .i64 k, .bool wt] w fun e w' => e = .returned (.tuple #[.int .i64 j, .bool false, .int .i64 0]) ∧
      RefAt w' bm { s with refs := setAt s.refs j 1, byt := setAt s.byt j fun _ => 0 } ∧ RMap w' bx bm { m with lf := setAt m.lf k ⟨true, true, j⟩ } ∧ Upd (fun k => k = bm ∨ k = bx) w w' := by
  have ho : onB (k : Int) = true := by simp [onB]; omega
  have c1 := h.st k hk
  have k1 : (k : Int) < 16 := by omega
  have b1 : (m.st k == 0) = false := by simp [h0]
  have b2 : (m.st k == 2) = false := by simp [h2]
  have c2 := h.th k hk
  have c3 := h.wr k hk
  have c4 := h.fr k hk
  rw [ht] at c2
  have c0 := h.pool
  have hbx := h.lt
  have hbm : bm < w.heap.size := World.block_lt_of_cell? _ _ hr.num
  have HNE : Hid _ := hne
  have HJ0 : Hid _ := hj0
  have HJR : Hid _ := hjr
  clear h0 h2 ht hne hj0 hjr
  go_enter Tryz.func158, Tryz.ntmps158
  go_wp2_with (go_at_call 101; refine (on_is _ _ ho).mono ?_; rintro e w' ⟨rfl, rfl⟩)
  have u1 := (Upd.refl (fun _ => False) w').alloc (.cells #[.bool false, .bool (m.lf k).wr, .int .i64 (m.lf k).fr] 43)
  have q1 := LfAt.new w' 43 ⟨false, (m.lf k).wr, (m.lf k).fr⟩
  revert u1 q1 hbx hbm
  generalize w'.alloc (.cells #[.bool false, .bool (m.lf k).wr, .int .i64 (m.lf k).fr] 43) = w1
  generalize w'.heap.size = q
  intro hbx hbm u1 q1
  refine (rTake_ok _ _ j s (hr.upd u1 (fun f => f)) hj HJ0.out HJR.out).mono ?_
  rintro e w2 ⟨rfl, hr2, hu2⟩
  have hx2 := (h.upd u1 (fun f => f)).upd hu2 HNE.out
  have q2 := q1.upd hu2 (by omega)
  have d0 := q2.c0
  have g1 := hx2.th k hk
  have g2 := hx2.wr k hk
  have g3 := hx2.fr k hk
  have g4 := hx2.fz (17 + k * 3)
  have g5 := hx2.fz (17 + k * 3 + 1)
  have g6 := hx2.fz (17 + k * 3 + 2)
  have hx3 := hx2.setLf hk ⟨true, true, j⟩
  have hr3 := hr2.upd (Upd.three w2 bx (17 + k * 3) (17 + k * 3 + 1) (17 + k * 3 + 2) (.bool true) (.bool true) (.int .i64 j)) (Ne.symm HNE.out)
  have hu3 : Upd (fun k => k = bm ∨ k = bx) w' _ := ((u1.wide (T := fun k => k = bm ∨ k = bx) (fun _ f => f.elim)).trans hu2 (fun _ _ e => Or.inl e)).trans (Upd.three w2 bx (17 + k * 3) (17 + k * 3 + 1) (17 + k * 3 + 2) (.bool true) (.bool true) (.int .i64 j)) (fun _ _ e => Or.inr e)
  have q3 := q2.upd (Upd.three w2 bx (17 + k * 3) (17 + k * 3 + 1) (17 + k * 3 + 2) (.bool true) (.bool true) (.int .i64 j)) (by omega)
  have d1 := q3.c0
  have HX3 : Hid _ := hx3
  have HR3 : Hid _ := hr3
  have HU3 : Hid _ := hu3
  clear hx3 hr3 hu3 hx2 hr2 hu2 u1 q1 q2 q3 c0 c1 c2 c3 c4
  go_wp2_with fail
  go_quiet (fail)
  go_wp2_with fail
  go_ret3
  exact ⟨rfl, HR3.out.drewN _, HX3.out.drewN _, HU3.out.drewN _⟩

theorem touch_move (w : World) (bx bm k j : Nat) (m : Mp) (s : Pl) (h : RMap w bx bm m) (hr : RefAt w bm s) (hne : bx ≠ bm) (hm : ∀ k, k < s.n → s.refs k ≤ 999999) (hk : k < 16) (h0 : m.st k ≠ 0) (h2 : m.st k ≠ 2)
    (ht : (m.lf k).there = true) (hw : (m.lf k).wr = false) (f0 : 0 ≤ (m.lf k).fr) (f1 : (m.lf k).fr < s.n) (hone : s.refs (m.lf k).fr.toNat ≠ 1) (hused : s.refs (m.lf k).fr.toNat ≠ 0)
    (hj : j < s.n) (hj0 : s.refs j = 0) (hjr : ∀ i, i < j → s.refs i ≠ 0) :
    Calls Tryz.prog 158 #[.pointer (some ⟨bx, 0, none⟩), .int .i64 k, .bool true] w fun e w' => e = .returned (.tuple #[.int .i64 j, .bool true, .int .i64 0]) ∧
      RefAt w' bm (({ s with refs := setAt s.refs j 1, byt := setAt (setAt s.byt j fun _ => 0) j (setAt s.byt j (fun _ => 0) (m.lf k).fr.toNat) } : Pl).share (m.lf k).fr (-1)).2 ∧ RMap w' bx bm { m with lf := setAt m.lf k ⟨true, true, j⟩ } ∧ Upd (fun k => k = bm ∨ k = bx) w w' := by
  have ho : onB (k : Int) = true := by simp [onB]; omega
  have c1 := h.st k hk
  have k1 : (k : Int) < 16 := by omega
  have b1 : (m.st k == 0) = false := by simp [h0]
  have b2 : (m.st k == 2) = false := by simp [h2]
  have c2 := h.th k hk
  have c3 := h.wr k hk
  have c4 := h.fr k hk
  rw [ht] at c2
  rw [hw] at c3
  have hl := hr.le
  have f2 : (m.lf k).fr < 64 := by omega
  have b3 : (s.refs (m.lf k).fr.toNat == 1) = false := by simp [hone]
  have hbx := h.lt
  have hbm : bm < w.heap.size := World.block_lt_of_cell? _ _ hr.num
  have hfj : (m.lf k).fr.toNat ≠ j := fun e => hused (by rw [e]; exact hj0)
  have HNE : Hid _ := hne
  have HJ0 : Hid _ := hj0
  have HJR : Hid _ := hjr
  have HFJ : Hid _ := hfj
  clear h0 h2 ht hw hone hused hne hj0 hjr hfj
  go_enter Tryz.func158, Tryz.ntmps158
  go_wp2_with (go_at_call 101; refine (on_is _ _ ho).mono ?_; rintro e w' ⟨rfl, rfl⟩)
  have u1 := (Upd.refl (fun _ => False) w').alloc (.cells #[.bool true, .bool false, .int .i64 (m.lf k).fr] 43)
  have q1 := LfAt.new w' 43 ⟨true, false, (m.lf k).fr⟩
  revert u1 q1 hbx hbm
  generalize w'.alloc (.cells #[.bool true, .bool false, .int .i64 (m.lf k).fr] 43) = w1
  generalize w'.heap.size = q
  intro hbx hbm u1 q1
  have hr1 := hr.upd u1 (fun f => f)
  have d0 := u1.cell h.pool (fun f => f)
  have d2 := q1.c2
  have d3 := hr1.refs (m.lf k).fr.toNat (by omega)
  clear c1 c2 c3 c4
  go_quiet (fail)
  have u2 := u1.drewN nq
  have hr2 := hr1.drewN nq
  have e0 : (w1.drewN nq).cell? ⟨bx, 0, none⟩ = some (.pointer (some ⟨bm, 0, none⟩)) := d0
  have q2 := q1.upd ((Upd.refl (fun _ => False) w1).drewN nq) (fun f => f)
  clear u1 d0 d2 d3 hr1 q1
  revert u2 hr2 e0 q2
  generalize w1.drewN nq = w2
  intro u2 hr2 e0 q2
  go_wp2_with fail
  refine (rTake_ok _ _ j s hr2 hj HJ0.out HJR.out).mono ?_
  rintro e w3 ⟨rfl, hr3, hu3⟩
  have hx3 := (h.upd u2 (fun f => f)).upd hu3 HNE.out
  have q3 := q2.upd hu3 (by omega)
  have g0 := q3.c0
  have g2 := q3.c2
  have gp := hx3.pool
  have hrg := hr3.range (f := (m.lf k).fr.toNat) (by show _ < s.n; omega)
  have hth := hr3.there (f := j) (by show _ < s.n; omega)
  have e1 := rowOf_length (setAt s.byt j (fun _ => 0) (m.lf k).fr.toNat)
  have e2 := rowOf_one (setAt s.byt j (fun _ => 0) (m.lf k).fr.toNat)
  have hr4 := hr3.drew.setRow (f := j) (by show _ < s.n; omega) (setAt s.byt j (fun _ => 0) (m.lf k).fr.toNat)
  simp only at hrg
  revert hrg e1 e2 hr4
  generalize rowOf (setAt s.byt j (fun _ => 0) (m.lf k).fr.toNat) = cs
  intro hrg e1 e2 hr4
  have hi : (Tryz.prog.info? 35).map (·.size) = some cs.length := by rw [e1]; exact info32
  have hu := Tryz.underlying35
  have j0 : (0 : Int) ≤ (j : Int) := by omega
  have j1 : (j : Int) < 64 := by omega
  have hu4 := Upd.row w3.drew bm (1 + j * 16) cs
  have hx4 := hx3.drew.upd hu4 HNE.out
  have q4 := q3.upd ((Upd.refl (fun k => k = bm) w3).drew.trans hu4 (fun _ _ e => e)) (by omega)
  have hap : bm ≠ bm ∨ 1 + (m.lf k).fr.toNat * 16 + cs.length ≤ 1 + j * 16 ∨ 1 + j * 16 + cs.length ≤ 1 + (m.lf k).fr.toNat * 16 := by
    rcases Nat.lt_or_gt_of_ne HFJ.out with hlt | hgt
    · exact Or.inr (Or.inl (by rw [e1]; omega))
    · exact Or.inr (Or.inr (by rw [e1]; omega))
  have S4 : (w3.drew.setCells bm (1 + j * 16) cs).cell? ⟨bx, 0, none⟩ = some (.pointer (some ⟨bm, 0, none⟩)) ∧ (w3.drew.setCells bm (1 + j * 16) cs).cell? ⟨q, 2, none⟩ = some (.int .i64 (m.lf k).fr) ∧ (w3.drew.setCells bm (1 + j * 16) cs).rangeAt bm (1 + (m.lf k).fr.toNat * 16) cs ∧ (w3.drew.setCells bm (1 + j * 16) cs).there bm (1 + j * 16) 16 :=
    ⟨hx4.pool, q4.c2, World.rangeAt_setCells_apart (w := w3.drew) hrg bm (1 + j * 16) cs hap, World.there_setCells (w := w3.drew) hth bm (1 + j * 16) cs⟩
  clear hap
  have HS4 : Hid _ := S4
  have HR4 : Hid _ := hr4
  have HU4 : Hid _ := hu4
  have HX4 : Hid _ := hx4
  have HQ4 : Hid _ := q4
  have HR3 : Hid _ := hr3
  have HU3 : Hid _ := hu3
  have HU2 : Hid _ := u2
  clear S4 hr4 hu4 hx4 q4 hr3 hu3 u2 q2 hx3 hr2 e0 q3
  go_wp2_with fail
  go_region_held3 (fun w' => w'.cell? ⟨bx, 0, none⟩ = some (.pointer (some ⟨bm, 0, none⟩)) ∧ w'.cell? ⟨q, 2, none⟩ = some (.int .i64 (m.lf k).fr) ∧ w'.rangeAt bm (1 + (m.lf k).fr.toNat * 16) cs ∧ w'.there bm (1 + j * 16) 16) (first | exact ⟨gp, g2, hrg, hth⟩ | exact HS4.out) (fail)
  clear hrg hth e1 e2 hi hu g0 g2 gp HS4
  have hr4 := HR4.out
  have hx4 := HX4.out
  have q4 := HQ4.out
  have hu4 : Upd (fun k => k = bm ∨ k = bx) w' (w3.drew.setCells bm (1 + j * 16) cs) := (((HU2.out.wide (T := fun k => k = bm ∨ k = bx) (fun _ f => f.elim)).trans HU3.out (fun _ _ e => Or.inl e)).drew).trans HU4.out (fun _ _ e => Or.inl e)
  clear HR4 HX4 HQ4 HU4 HR3 HU3 HU2
  revert hr4 hx4 q4 hu4
  generalize w3.drew.setCells bm (1 + j * 16) cs = w4
  generalize hs4 : ({ s with refs := setAt s.refs j 1, byt := setAt (setAt s.byt j fun _ => 0) j (setAt s.byt j (fun _ => 0) (m.lf k).fr.toNat) } : Pl) = s4
  have hm4 : ∀ k, k < s4.n → s4.refs k ≤ 1000000 := by
    rw [← hs4]
    intro i hi
    exact setAt_le (n := s.n) (fun f hf => by have := hm f hf; omega) (by omega) i hi
  have HE : Hid _ := hs4
  clear hs4
  intro hr4 hx4 q4 hu4
  have g0 := hx4.pool
  have g2 := q4.c2
  go_wp2_with fail
  go_region_held3 (fun w' => w'.cell? ⟨bx, 0, none⟩ = some (.pointer (some ⟨bm, 0, none⟩)) ∧ w'.cell? ⟨q, 2, none⟩ = some (.int .i64 (m.lf k).fr)) (first | exact ⟨g0, g2⟩ | exact h5c)
    ((go_at_call 135; refine (rShare_any _ _ _ _ s4 (by first | exact hr4 | exact hr4.drew) hm4 (by omega) (by omega)).mono ?_; rintro e w5 ⟨rfl, hr5, hu5⟩; have h5c : w5.cell? ⟨bx, 0, none⟩ = some (.pointer (some ⟨bm, 0, none⟩)) ∧ w5.cell? ⟨q, 2, none⟩ = some (.int .i64 (m.lf k).fr) := ⟨hu5.cell (by exact g0) HNE.out, hu5.cell (by exact g2) (by show ¬ q = bm; omega)⟩))
  have hx5 := hx4.drew.upd hu5 HNE.out
  have q5 := q4.upd ((Upd.refl (fun k => k = bm) w4).drew.trans hu5 (fun _ _ e => e)) (by omega)
  have x1 := hx5.th k hk
  have x2 := hx5.wr k hk
  have x3 := hx5.fr k hk
  have x4 := hx5.fz (17 + k * 3)
  have x5 := hx5.fz (17 + k * 3 + 1)
  have x6 := hx5.fz (17 + k * 3 + 2)
  have hx6 := hx5.setLf hk ⟨true, true, j⟩
  have hr6 := hr5.upd (Upd.three w5 bx (17 + k * 3) (17 + k * 3 + 1) (17 + k * 3 + 2) (.bool true) (.bool true) (.int .i64 j)) (Ne.symm HNE.out)
  have hu6 : Upd (fun k => k = bm ∨ k = bx) w' _ := (hu4.drew.trans hu5 (fun _ _ e => Or.inl e)).trans (Upd.three w5 bx (17 + k * 3) (17 + k * 3 + 1) (17 + k * 3 + 2) (.bool true) (.bool true) (.int .i64 j)) (fun _ _ e => Or.inr e)
  have q6 := q5.upd (Upd.three w5 bx (17 + k * 3) (17 + k * 3 + 1) (17 + k * 3 + 2) (.bool true) (.bool true) (.int .i64 j)) (by omega)
  have x7 := q6.c0
  have HX6 : Hid _ := hx6
  have HR6 : Hid _ := hr6
  have HU6 : Hid _ := hu6
  clear hx6 hr6 hu6 hx5 hr5 hu5 q5 q6 h5c g0 g2 hr4 hx4 q4 hu4
  go_wp2_with fail
  go_quiet (fail)
  go_wp2_with fail
  go_ret3
  refine ⟨rfl, ?_, HX6.out.drewN _, HU6.out.drewN _⟩
  rw [HE.out]
  exact HR6.out.drewN _
end Go.Proofs.YtadpibcgjgcjhaaGreat
