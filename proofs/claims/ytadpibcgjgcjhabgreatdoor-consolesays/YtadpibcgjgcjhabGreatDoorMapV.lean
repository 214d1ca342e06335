/- The document's answer for chapter 2: Touch, where a frame is wanted. -/
import Derived.Test.YtadpibcgjgcjhabGreatDoorMapU
namespace Go.Proofs.YtadpibcgjgcjhabGreatDoor
open Go.ChangeShapes Go.WideShapes Go.ChangeAt Go.RowKit
set_option maxRecDepth 100000
attribute [local go_sem ↓] Go.wp_at_zero Go.wp_at_succ

theorem touch_own (w : World) (bx bm k : Nat) (m : Mp) (s : Pl) (h : RMap w bx bm m) (hr : RefAt w bm s) (hne : bx ≠ bm) (hk : k < 16) (h0 : m.st k ≠ 0) (h2 : m.st k ≠ 2) (ht : (m.lf k).there = true) (hw : (m.lf k).wr = false)
    (f0 : 0 ≤ (m.lf k).fr) (f1 : (m.lf k).fr < s.n) (hone : s.refs (m.lf k).fr.toNat = 1) :
    Calls Tryz.prog 98 #[.pointer (some ⟨bx, 0, none⟩), .int .i64 k, .bool true] w fun e w' => e = .returned (.tuple #[.int .i64 (m.lf k).fr, .bool false, .int .i64 0]) ∧ RMap w' bx bm { m with lf := setAt m.lf k { m.lf k with wr := true } } ∧ Upd (fun k => k = bx) w w' := by
  have ho : onB (k : Int) = true := by simp [onB]; omega
  have c1 := h.st k hk
  have k1 : (k : Int) < 16 := by omega
  have b1 : (m.st k == 0) = false := by simp [h0]
  have b2 : (m.st k == 2) = false := by simp [h2]
  have c2 := h.th k hk
  have c3 := h.wr k hk
  have c4 := h.fr k hk
  rw [ht] at c2
  rw [hw] at c3
  have HNE : Hid _ := hne
  have HT : Hid _ := ht
  have hl := hr.le
  have f2 : (m.lf k).fr < 64 := by omega
  clear h0 h2 ht hw hne
  go_enter Tryz.func98, Tryz.ntmps98
  go_wp2_with (go_at_call 39; refine (on_is _ _ ho).mono ?_; rintro e w' ⟨rfl, rfl⟩)
  have u1 := (Upd.refl (fun _ => False) w').alloc (.cells #[.bool true, .bool false, .int .i64 (m.lf k).fr] 92)
  have q1 := LfAt.new w' 92 ⟨true, false, (m.lf k).fr⟩
  have hbx := h.lt
  revert u1 q1 hbx
  generalize w'.alloc (.cells #[.bool true, .bool false, .int .i64 (m.lf k).fr] 92) = w1
  generalize w'.heap.size = q
  intro u1 q1 hbx
  have hr1 := hr.upd u1 (fun f => f)
  have hx1 := h.upd u1 (fun f => f)
  have d0 := hx1.pool
  have d2 := q1.c2
  have d3 := hr1.refs (m.lf k).fr.toNat (by omega)
  rw [hone] at d3
  clear c1 c2 c3 c4 hone
  go_quiet (fail)
  have u2 := u1.drewN nq
  have hx2 := hx1.drewN nq
  have q2 := q1.upd ((Upd.refl (fun _ => False) w1).drewN nq) (fun f => f)
  clear u1 hx1 q1 d0 d2 d3 hr1
  revert u2 hx2 q2
  generalize w1.drewN nq = w2
  intro u2 hx2 q2
  have e1 := hx2.wr k hk
  have e2 := hx2.fz (17 + k * 3 + 1)
  have e3 : (w2.setCell ⟨bx, 17 + k * 3 + 1, none⟩ (.bool true)).cell? ⟨q, 2, none⟩ = some (.int .i64 (m.lf k).fr) := by
    rw [World.cell?_setCell_other _ _ _ _ (addr_ne (Or.inl (by omega)))]; exact q2.c2
  have hx3 := hx2.setWr hk true
  simp only [HT.out] at hx3
  have HX3 : Hid _ := hx3
  have hu3 := (u2.wide (T := fun k => k = bx) (fun _ f => f.elim)).trans (Upd.one w2 bx (17 + k * 3 + 1) (.bool true)) (fun _ _ e => e)
  have HU3 : Hid _ := hu3
  clear hx3 hu3 hx2 q2 u2
  go_wp2_with fail
  go_ret3
  refine ⟨rfl, ?_, HU3.out⟩
  have := HX3.out
  simp only [HT.out]
  exact this

theorem rTake_ok (w : World) (bm j : Nat) (s : Pl) (h : RefAt w bm s) (hj : j < s.n) (h0 : s.refs j = 0) (hr : ∀ i, i < j → s.refs i ≠ 0) :
    Calls Tryz.prog 130 #[.pointer (some ⟨bm, 0, none⟩)] w fun e w' => e = .returned (.tuple #[.int .i64 j, .int .i64 0]) ∧ RefAt w' bm { s with refs := setAt s.refs j 1, byt := setAt s.byt j fun _ => 0 } ∧ Upd (fun k => k = bm) w w' := by
  refine (rTake_at w bm j s h hj h0 hr).mono ?_
  rintro e w' ⟨rfl, rfl⟩
  refine ⟨rfl, ?_, (Upd.one _ _ _ _).trans (Upd.row _ _ _ _) (fun _ _ e => e)⟩
  exact (h.setRef (f := j) (v := 1) hj (by omega)).setRow (f := j) hj (fun _ => 0)

/-- Touch goes on to take a frame: the ways there. -/
theorem touch_full (w : World) (bx bm k : Nat) (wt : Bool) (m : Mp) (s : Pl) (h : RMap w bx bm m) (hr : RefAt w bm s) (hk : k < 16) (h0 : m.st k ≠ 0) (h2 : m.st k ≠ 2)
    (hway : (m.lf k).there = false ∨ ((m.lf k).there = true ∧ wt = true ∧ (m.lf k).wr = false ∧ 0 ≤ (m.lf k).fr ∧ (m.lf k).fr < s.n ∧ s.refs (m.lf k).fr.toNat ≠ 1)) (hfull : ∀ i, i < s.n → s.refs i ≠ 0) :
    Calls Tryz.prog 98 #[.pointer (some ⟨bx, 0, none⟩), .int .i64 k, .bool wt] w fun e w' => e = .returned (.tuple #[.int .i64 0, .bool false, .int .i64 3]) ∧ Upd (fun _ => False) w w' := by
  have ho : onB (k : Int) = true := by simp [onB]; omega
  have c1 := h.st k hk
  have k1 : (k : Int) < 16 := by omega
  have b1 : (m.st k == 0) = false := by simp [h0]
  have b2 : (m.st k == 2) = false := by simp [h2]
  have c2 := h.th k hk
  have c3 := h.wr k hk
  have c4 := h.fr k hk
  have HF : Hid _ := hfull
  have hl := hr.le
  clear h0 h2 hfull
  rcases hway with ht | ⟨ht, rfl, hw, f0, f1, hone⟩
  · rw [ht] at c2
    have c0 := h.pool
    have hbx := h.lt
    clear ht
    go_enter Tryz.func98, Tryz.ntmps98
    go_wp2_with (go_at_call 39; refine (on_is _ _ ho).mono ?_; rintro e w' ⟨rfl, rfl⟩)
    have u1 := (Upd.refl (fun _ => False) w').alloc (.cells #[.bool false, .bool (m.lf k).wr, .int .i64 (m.lf k).fr] 92)
    revert u1
    generalize w'.alloc (.cells #[.bool false, .bool (m.lf k).wr, .int .i64 (m.lf k).fr] 92) = w1
    intro u1
    refine (rTake_full _ _ s (hr.upd u1 (fun f => f)) HF.out).mono ?_
    rintro e w2 ⟨rfl, rfl⟩
    go_wp2_with fail
    go_ret3
    exact ⟨rfl, u1⟩
  · rw [ht] at c2
    rw [hw] at c3
    have f2 : (m.lf k).fr < 64 := by omega
    have b3 : (s.refs (m.lf k).fr.toNat == 1) = false := by simp [hone]
    clear ht hw hone
    go_enter Tryz.func98, Tryz.ntmps98
    go_wp2_with (go_at_call 39; refine (on_is _ _ ho).mono ?_; rintro e w' ⟨rfl, rfl⟩)
    have u1 := (Upd.refl (fun _ => False) w').alloc (.cells #[.bool true, .bool false, .int .i64 (m.lf k).fr] 92)
    have q1 := LfAt.new w' 92 ⟨true, false, (m.lf k).fr⟩
    revert u1 q1
    generalize w'.alloc (.cells #[.bool true, .bool false, .int .i64 (m.lf k).fr] 92) = w1
    generalize w'.heap.size = q
    intro u1 q1
    have hr1 := hr.upd u1 (fun f => f)
    have d0 := u1.cell h.pool (fun f => f)
    have d2 := q1.c2
    have d3 := hr1.refs (m.lf k).fr.toNat (by omega)
    clear c1 c2 c3 c4
    go_quiet (fail)
    have u2 := u1.drewN nq
    have hr2 := hr1.drewN nq
    have e0 : (w1.drewN nq).cell? ⟨bx, 0, none⟩ = some (.pointer (some ⟨bm, 0, none⟩)) := d0
    clear u1 d0 d2 d3 hr1 q1
    revert u2 hr2 e0
    generalize w1.drewN nq = w2
    intro u2 hr2 e0
    go_wp2_with fail
    refine (rTake_full _ _ s hr2 HF.out).mono ?_
    rintro e w3 ⟨rfl, rfl⟩
    go_wp2_with fail
    go_ret3
    exact ⟨rfl, u2⟩

theorem touch_new (w : World) (bx bm k j : Nat) (wt : Bool) (m : Mp) (s : Pl) (h : RMap w bx bm m) (hr : RefAt w bm s) (hne : bx ≠ bm) (hk : k < 16) (h0 : m.st k ≠ 0) (h2 : m.st k ≠ 2)
    (ht : (m.lf k).there = false) (hj : j < s.n) (hj0 : s.refs j = 0) (hjr : ∀ i, i < j → s.refs i ≠ 0) :
    Calls Tryz.prog 98 #[.pointer (some ⟨bx, 0, none⟩), .int .i64 k, .bool wt] w fun e w' => e = .returned (.tuple #[.int .i64 j, .bool false, .int .i64 0]) ∧
      RefAt w' bm { s with refs := setAt s.refs j 1, byt := setAt s.byt j fun _ => 0 } ∧ RMap w' bx bm { m with lf := setAt m.lf k ⟨true, true, j⟩ } ∧ Upd (fun k => k = bm ∨ k = bx) w w' := by
  have ho : onB (k : Int) = true := by simp [onB]; omega
  have c1 := h.st k hk
  have k1 : (k : Int) < 16 := by omega
  have b1 : (m.st k == 0) = false := by simp [h0]
  have b2 : (m.st k == 2) = false := by simp [h2]
  have c2 := h.th k hk
  have c3 := h.wr k hk
  have c4 := h.fr k hk
  rw [ht] at c2
  have c0 := h.pool
  have hbx := h.lt
  have hbm : bm < w.heap.size := World.block_lt_of_cell? _ _ hr.num
  have HNE : Hid _ := hne
  have HJ0 : Hid _ := hj0
  have HJR : Hid _ := hjr
  clear h0 h2 ht hne hj0 hjr
  go_enter Tryz.func98, Tryz.ntmps98
  go_wp2_with (go_at_call 39; refine (on_is _ _ ho).mono ?_; rintro e w' ⟨rfl, rfl⟩)
  have u1 := (Upd.refl (fun _ => False) w').alloc (.cells #[.bool false, .bool (m.lf k).wr, .int .i64 (m.lf k).fr] 92)
  have q1 := LfAt.new w' 92 ⟨false, (m.lf k).wr, (m.lf k).fr⟩
  revert u1 q1 hbx hbm
  generalize w'.alloc (.cells #[.bool false, .bool (m.lf k).wr, .int .i64 (m.lf k).fr] 92) = w1
  generalize w'.heap.size = q
  intro hbx hbm u1 q1
  refine (rTake_ok _ _ j s (hr.upd u1 (fun f => f)) hj HJ0.out HJR.out).mono ?_
  rintro e w2 ⟨rfl, hr2, hu2⟩
  have hx2 := (h.upd u1 (fun f => f)).upd hu2 HNE.out
  have q2 := q1.upd hu2 (by omega)
  have d0 := q2.c0
  have g1 := hx2.th k hk
  have g2 := hx2.wr k hk
  have g3 := hx2.fr k hk
  have g4 := hx2.fz (17 + k * 3)
  have g5 := hx2.fz (17 + k * 3 + 1)
  have g6 := hx2.fz (17 + k * 3 + 2)
  have hx3 := hx2.setLf hk ⟨true, true, j⟩
  have hr3 := hr2.upd (Upd.three w2 bx (17 + k * 3) (17 + k * 3 + 1) (17 + k * 3 + 2) (.bool true) (.bool true) (.int .i64 j)) (Ne.symm HNE.out)
  have hu3 : Upd (fun k => k = bm ∨ k = bx) w' _ := ((u1.wide (T := fun k => k = bm ∨ k = bx) (fun _ f => f.elim)).trans hu2 (fun _ _ e => Or.inl e)).trans (Upd.three w2 bx (17 + k * 3) (17 + k * 3 + 1) (17 + k * 3 + 2) (.bool true) (.bool true) (.int .i64 j)) (fun _ _ e => Or.inr e)
  have q3 := q2.upd (Upd.three w2 bx (17 + k * 3) (17 + k * 3 + 1) (17 + k * 3 + 2) (.bool true) (.bool true) (.int .i64 j)) (by omega)
  have d1 := q3.c0
  have HX3 : Hid _ := hx3
  have HR3 : Hid _ := hr3
  have HU3 : Hid _ := hu3
  clear hx3 hr3 hu3 hx2 hr2 hu2 u1 q1 q2 q3 c0 c1 c2 c3 c4
  go_wp2_with fail
  go_quiet (fail)
  go_wp2_with fail
  go_ret3
  exact ⟨rfl, HR3.out.drewN _, HX3.out.drewN _, HU3.out.drewN _⟩

theorem touch_move (w : World) (bx bm k j : Nat) (m : Mp) (s : Pl) (h : RMap w bx bm m) (hr : RefAt w bm s) (hne : bx ≠ bm) (hm : ∀ k, k < s.n → s.refs k ≤ 999999) (hk : k < 16) (h0 : m.st k ≠ 0) (h2 : m.st k ≠ 2)
    (ht : (m.lf k).there = true) (hw : (m.lf k).wr = false) (f0 : 0 ≤ (m.lf k).fr) (f1 : (m.lf k).fr < s.n) (hone : s.refs (m.lf k).fr.toNat ≠ 1) (hused : s.refs (m.lf k).fr.toNat ≠ 0)
    (hj : j < s.n) (hj0 : s.refs j = 0) (hjr : ∀ i, i < j → s.refs i ≠ 0) :
    Calls Tryz.prog 98 #[.pointer (some ⟨bx, 0, none⟩), .int .i64 k, .bool true] w fun e w' => e = .returned (.tuple #[.int .i64 j, .bool true, .int .i64 0]) ∧
      RefAt w' bm (({ s with refs := setAt s.refs j 1, byt := setAt (setAt s.byt j fun _ => 0) j (setAt s.byt j (fun _ => 0) (m.lf k).fr.toNat) } : Pl).share (m.lf k).fr (-1)).2 ∧ RMap w' bx bm { m with lf := setAt m.lf k ⟨true, true, j⟩ } ∧ Upd (fun k => k = bm ∨ k = bx) w w' := by
  have ho : onB (k : Int) = true := by simp [onB]; omega
  have c1 := h.st k hk
  have k1 : (k : Int) < 16 := by omega
  have b1 : (m.st k == 0) = false := by simp [h0]
  have b2 : (m.st k == 2) = false := by simp [h2]
  have c2 := h.th k hk
  have c3 := h.wr k hk
  have c4 := h.fr k hk
  rw [ht] at c2
  rw [hw] at c3
  have hl := hr.le
  have f2 : (m.lf k).fr < 64 := by omega
  have b3 : (s.refs (m.lf k).fr.toNat == 1) = false := by simp [hone]
  have hbx := h.lt
  have hbm : bm < w.heap.size := World.block_lt_of_cell? _ _ hr.num
  have hfj : (m.lf k).fr.toNat ≠ j := fun e => hused (by rw [e]; exact hj0)
  have HNE : Hid _ := hne
  have HJ0 : Hid _ := hj0
  have HJR : Hid _ := hjr
  have HFJ : Hid _ := hfj
  clear h0 h2 ht hw hone hused hne hj0 hjr hfj
  go_enter Tryz.func98, Tryz.ntmps98
  go_wp2_with (go_at_call 39; refine (on_is _ _ ho).mono ?_; rintro e w' ⟨rfl, rfl⟩)
  have u1 := (Upd.refl (fun _ => False) w').alloc (.cells #[.bool true, .bool false, .int .i64 (m.lf k).fr] 92)
  have q1 := LfAt.new w' 92 ⟨true, false, (m.lf k).fr⟩
  revert u1 q1 hbx hbm
  generalize w'.alloc (.cells #[.bool true, .bool false, .int .i64 (m.lf k).fr] 92) = w1
  generalize w'.heap.size = q
  intro hbx hbm u1 q1
  have hr1 := hr.upd u1 (fun f => f)
  have d0 := u1.cell h.pool (fun f => f)
  have d2 := q1.c2
  have d3 := hr1.refs (m.lf k).fr.toNat (by omega)
  clear c1 c2 c3 c4
  go_quiet (fail)
  have u2 := u1.drewN nq
  have hr2 := hr1.drewN nq
  have e0 : (w1.drewN nq).cell? ⟨bx, 0, none⟩ = some (.pointer (some ⟨bm, 0, none⟩)) := d0
  have q2 := q1.upd ((Upd.refl (fun _ => False) w1).drewN nq) (fun f => f)
  clear u1 d0 d2 d3 hr1 q1
  revert u2 hr2 e0 q2
  generalize w1.drewN nq = w2
  intro u2 hr2 e0 q2
  go_wp2_with fail
  refine (rTake_ok _ _ j s hr2 hj HJ0.out HJR.out).mono ?_
  rintro e w3 ⟨rfl, hr3, hu3⟩
  have hx3 := (h.upd u2 (fun f => f)).upd hu3 HNE.out
  have q3 := q2.upd hu3 (by omega)
  have g0 := q3.c0
  have g2 := q3.c2
  have gp := hx3.pool
  have hrg := hr3.range (f := (m.lf k).fr.toNat) (by show _ < s.n; omega)
  have hth := hr3.there (f := j) (by show _ < s.n; omega)
  have e1 := rowOf_length (setAt s.byt j (fun _ => 0) (m.lf k).fr.toNat)
  have e2 := rowOf_one (setAt s.byt j (fun _ => 0) (m.lf k).fr.toNat)
  have hr4 := hr3.drew.setRow (f := j) (by show _ < s.n; omega) (setAt s.byt j (fun _ => 0) (m.lf k).fr.toNat)
  simp only at hrg
  revert hrg e1 e2 hr4
  generalize rowOf (setAt s.byt j (fun _ => 0) (m.lf k).fr.toNat) = cs
  intro hrg e1 e2 hr4
  have hi : (Tryz.prog.info? 44).map (·.size) = some cs.length := by rw [e1]; exact info32
  have hu := Tryz.underlying44
  have j0 : (0 : Int) ≤ (j : Int) := by omega
  have j1 : (j : Int) < 64 := by omega
  have hu4 := Upd.row w3.drew bm (1 + j * 16) cs
  have hx4 := hx3.drew.upd hu4 HNE.out
  have q4 := q3.upd ((Upd.refl (fun k => k = bm) w3).drew.trans hu4 (fun _ _ e => e)) (by omega)
  have hap : bm ≠ bm ∨ 1 + (m.lf k).fr.toNat * 16 + cs.length ≤ 1 + j * 16 ∨ 1 + j * 16 + cs.length ≤ 1 + (m.lf k).fr.toNat * 16 := by
    rcases Nat.lt_or_gt_of_ne HFJ.out with hlt | hgt
    · exact Or.inr (Or.inl (by rw [e1]; omega))
    · exact Or.inr (Or.inr (by rw [e1]; omega))
  have S4 : (w3.drew.setCells bm (1 + j * 16) cs).cell? ⟨bx, 0, none⟩ = some (.pointer (some ⟨bm, 0, none⟩)) ∧ (w3.drew.setCells bm (1 + j * 16) cs).cell? ⟨q, 2, none⟩ = some (.int .i64 (m.lf k).fr) ∧ (w3.drew.setCells bm (1 + j * 16) cs).rangeAt bm (1 + (m.lf k).fr.toNat * 16) cs ∧ (w3.drew.setCells bm (1 + j * 16) cs).there bm (1 + j * 16) 16 :=
    ⟨hx4.pool, q4.c2, World.rangeAt_setCells_apart (w := w3.drew) hrg bm (1 + j * 16) cs hap, World.there_setCells (w := w3.drew) hth bm (1 + j * 16) cs⟩
  clear hap
  have HS4 : Hid _ := S4
  have HR4 : Hid _ := hr4
  have HU4 : Hid _ := hu4
  have HX4 : Hid _ := hx4
  have HQ4 : Hid _ := q4
  have HR3 : Hid _ := hr3
  have HU3 : Hid _ := hu3
  have HU2 : Hid _ := u2
  clear S4 hr4 hu4 hx4 q4 hr3 hu3 u2 q2 hx3 hr2 e0 q3
  go_wp2_with fail
  go_region_held3 (fun w' => w'.cell? ⟨bx, 0, none⟩ = some (.pointer (some ⟨bm, 0, none⟩)) ∧ w'.cell? ⟨q, 2, none⟩ = some (.int .i64 (m.lf k).fr) ∧ w'.rangeAt bm (1 + (m.lf k).fr.toNat * 16) cs ∧ w'.there bm (1 + j * 16) 16) (first | exact ⟨gp, g2, hrg, hth⟩ | exact HS4.out) (fail)
  clear hrg hth e1 e2 hi hu g0 g2 gp HS4
  have hr4 := HR4.out
  have hx4 := HX4.out
  have q4 := HQ4.out
  have hu4 : Upd (fun k => k = bm ∨ k = bx) w' (w3.drew.setCells bm (1 + j * 16) cs) := (((HU2.out.wide (T := fun k => k = bm ∨ k = bx) (fun _ f => f.elim)).trans HU3.out (fun _ _ e => Or.inl e)).drew).trans HU4.out (fun _ _ e => Or.inl e)
  clear HR4 HX4 HQ4 HU4 HR3 HU3 HU2
  revert hr4 hx4 q4 hu4
  generalize w3.drew.setCells bm (1 + j * 16) cs = w4
  generalize hs4 : ({ s with refs := setAt s.refs j 1, byt := setAt (setAt s.byt j fun _ => 0) j (setAt s.byt j (fun _ => 0) (m.lf k).fr.toNat) } : Pl) = s4
  have hm4 : ∀ k, k < s4.n → s4.refs k ≤ 1000000 := by
    rw [← hs4]
    intro i hi
    exact setAt_le (n := s.n) (fun f hf => by have := hm f hf; omega) (by omega) i hi
  have HE : Hid _ := hs4
  clear hs4
  intro hr4 hx4 q4 hu4
  have g0 := hx4.pool
  have g2 := q4.c2
  go_wp2_with fail
  go_region_held3 (fun w' => w'.cell? ⟨bx, 0, none⟩ = some (.pointer (some ⟨bm, 0, none⟩)) ∧ w'.cell? ⟨q, 2, none⟩ = some (.int .i64 (m.lf k).fr)) (first | exact ⟨g0, g2⟩ | exact h5c)
    ((go_at_call 67; refine (rShare_any _ _ _ _ s4 (by first | exact hr4 | exact hr4.drew) hm4 (by omega) (by omega)).mono ?_; rintro e w5 ⟨rfl, hr5, hu5⟩; have h5c : w5.cell? ⟨bx, 0, none⟩ = some (.pointer (some ⟨bm, 0, none⟩)) ∧ w5.cell? ⟨q, 2, none⟩ = some (.int .i64 (m.lf k).fr) := ⟨hu5.cell (by exact g0) HNE.out, hu5.cell (by exact g2) (by show ¬ q = bm; omega)⟩))
  have hx5 := hx4.drew.upd hu5 HNE.out
  have q5 := q4.upd ((Upd.refl (fun k => k = bm) w4).drew.trans hu5 (fun _ _ e => e)) (by omega)
  have x1 := hx5.th k hk
  have x2 := hx5.wr k hk
  have x3 := hx5.fr k hk
  have x4 := hx5.fz (17 + k * 3)
  have x5 := hx5.fz (17 + k * 3 + 1)
  have x6 := hx5.fz (17 + k * 3 + 2)
  have hx6 := hx5.setLf hk ⟨true, true, j⟩
  have hr6 := hr5.upd (Upd.three w5 bx (17 + k * 3) (17 + k * 3 + 1) (17 + k * 3 + 2) (.bool true) (.bool true) (.int .i64 j)) (Ne.symm HNE.out)
  have hu6 : Upd (fun k => k = bm ∨ k = bx) w' _ := (hu4.drew.trans hu5 (fun _ _ e => Or.inl e)).trans (Upd.three w5 bx (17 + k * 3) (17 + k * 3 + 1) (17 + k * 3 + 2) (.bool true) (.bool true) (.int .i64 j)) (fun _ _ e => Or.inr e)
  have q6 := q5.upd (Upd.three w5 bx (17 + k * 3) (17 + k * 3 + 1) (17 + k * 3 + 2) (.bool true) (.bool true) (.int .i64 j)) (by omega)
  have x7 := q6.c0
  have HX6 : Hid _ := hx6
  have HR6 : Hid _ := hr6
  have HU6 : Hid _ := hu6
  clear hx6 hr6 hu6 hx5 hr5 hu5 q5 q6 h5c g0 g2 hr4 hx4 q4 hu4
  go_wp2_with fail
  go_quiet (fail)
  go_wp2_with fail
  go_ret3
  refine ⟨rfl, ?_, HX6.out.drewN _, HU6.out.drewN _⟩
  rw [HE.out]
  exact HR6.out.drewN _
end Go.Proofs.YtadpibcgjgcjhabGreatDoor
