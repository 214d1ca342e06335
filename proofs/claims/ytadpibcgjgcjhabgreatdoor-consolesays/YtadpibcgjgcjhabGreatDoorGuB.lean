/- The document's answer for chapter 4: At. -/
import Derived.Test.YtadpibcgjgcjhabGreatDoorGuA
namespace Go.Proofs.YtadpibcgjgcjhabGreatDoor
open Go.ChangeShapes Go.WideShapes Go.ChangeAt Go.RowKit
set_option maxRecDepth 100000
attribute [local go_sem ↓] Go.wp_at_zero Go.wp_at_succ

theorem gAt_out (w : World) (bg : Nat) (addr : Int) (wt : Bool) (ho : addr < 0 ∨ 255 < addr) :
    Calls Tryz.prog 68 #[.pointer (some ⟨bg, 0, none⟩), .int .i64 addr, .bool wt] w fun e w' => e = .returned (.tuple #[.int .i64 0, .int .i64 1]) ∧ w' = w := by
  by_cases h1 : addr < 0
  · have d1 : decide (addr < 0) = true := by simp; exact h1
    go_enter Tryz.func68, Tryz.ntmps68
    go_wp2_with fail
    go_ret2
    exact ⟨rfl, rfl⟩
  · have d1 : decide (addr < 0) = false := by simp; omega
    have d2 : decide (255 < addr) = true := by simp; omega
    go_enter Tryz.func68, Tryz.ntmps68
    go_wp2_with fail
    go_ret2
    exact ⟨rfl, rfl⟩
/-- Touch, as part of a guest. -/
theorem gTouch_any (w : World) (bg bm base : Nat) (v : Value) (g : Gs) (s : Pl) (b : Mp) (n : Int) (wt : Bool) (h : RGu w bg bm base v g) (hr : RefAt w bm s) (hne : bg ≠ bm) (hi : Inv s g.m b) :
    Calls Tryz.prog 98 #[.pointer (some ⟨bg, 0, none⟩), .int .i64 n, .bool wt] w fun e w' =>
      e = .returned (.tuple #[.int .i64 (gTouch s g n wt).1.1, .bool (touchR s g.m n wt).1.2.1, .int .i64 (gTouch s g n wt).1.2]) ∧ RefAt w' bm (gTouch s g n wt).2.1 ∧ RGu w' bg bm base v (gTouch s g n wt).2.2 ∧ Upd (fun k => k = bm ∨ k = bg) w w' := by
  have hle := hi.le
  have := rTouch_any w bg bm n wt _ s h.mp hr hne (fun f hf => by have := hle f hf; omega) (fun k hk ht => hi.ok k hk ht)
  rw [touch_rest] at this
  refine this.mono ?_
  rintro e w' ⟨he, h1, h2, hu⟩
  exact ⟨he, h1, h.map hu h2, hu⟩
theorem gAt_off (w : World) (bg bm base : Nat) (v : Value) (g : Gs) (s : Pl) (b : Mp) (k : Nat) (wt : Bool) (h : RGu w bg bm base v g) (hr : RefAt w bm s) (hne : bg ≠ bm) (hi : Inv s g.m b) (hk : k ≤ 255) (hroot : g.root = -1) :
    Calls Tryz.prog 68 #[.pointer (some ⟨bg, 0, none⟩), .int .i64 (k : Int), .bool wt] w fun e w' =>
      e = .returned (.tuple #[.int .i64 (gTouch s g ((k : Int) / 16) wt).1.1, .int .i64 (gTouch s g ((k : Int) / 16) wt).1.2]) ∧ RefAt w' bm (gTouch s g ((k : Int) / 16) wt).2.1 ∧ RGu w' bg bm base v (gTouch s g ((k : Int) / 16) wt).2.2 ∧ Upd (fun k => k = bm ∨ k = bg) w w' := by
  have c66 := h.c66
  rw [hroot] at c66
  have HH : Hid _ := h
  have HR : Hid _ := hr
  have HI : Hid _ := hi
  have d1 : decide ((k : Int) < 0) = false := by simp
  have d2 : decide ((255 : Int) < (k : Int)) = false := by simp; omega
  clear h hr hi
  go_enter Tryz.func68, Tryz.ntmps68
  go_wp2_with fail
  refine (gTouch_any w bg bm base v g s b _ wt HH.out HR.out hne HI.out).mono ?_
  rintro e w1 ⟨rfl, hr1, hg1, hu1⟩
  generalize hq : gTouch s g ((k : Int) / 16) wt = q at *
  have HQ : Hid _ := hq
  have H1 : Hid _ := hr1
  have H2 : Hid _ := hg1
  have H3 : Hid _ := hu1
  clear hr1 hg1 hu1 hq HH HR HI
  go_wp2_with fail
  go_ret2
  rw [HQ.out]
  exact ⟨rfl, H1.out, H2.out, H3.out⟩
set_option maxHeartbeats 4000000 in
theorem gAt_found (w : World) (bg bm base : Nat) (v : Value) (g : Gs) (s : Pl) (b : Mp) (k : Nat) (wt : Bool) (h : RGu w bg bm base v g) (hr : RefAt w bm s) (hne : bg ≠ bm) (hi : Inv s g.m b) (hk : k ≤ 255) (hroot : g.root ≠ -1) (j : Nat) (hj : j < g.c.length) (hf : fndI g.c g.root ((k : Int) / 16) = j) (hl : g.c.length ≤ 4) :
    Calls Tryz.prog 68 #[.pointer (some ⟨bg, 0, none⟩), .int .i64 (k : Int), .bool wt] w fun e w' =>
      e = .returned (.tuple #[.int .i64 (gStep s g (atE g.c j) true wt).1.1, .int .i64 (gStep s g (atE g.c j) true wt).1.2]) ∧ RefAt w' bm (gStep s g (atE g.c j) true wt).2.1 ∧ RGu w' bg bm base v (gStep s g (atE g.c j) true wt).2.2 ∧ Upd (fun k => k = bm ∨ k = bg) w w' := by
  have c65 := h.c65
  have c66 := h.c66
  have HH : Hid _ := h
  have HR : Hid _ := hr
  have HI : Hid _ := hi
  have HF : Hid _ := hf
  have d1 : decide ((k : Int) < 0) = false := by simp
  have d2 : decide ((255 : Int) < (k : Int)) = false := by simp; omega
  have d3 : (g.root == -1) = false := beq_eq_false_iff_ne.2 hroot
  clear h hr hi hf hroot
  go_enter Tryz.func68, Tryz.ntmps68
  go_wp2_with fail
  go_region_held3 (fun w' => w'.cell? ⟨bg, 65, none⟩ = some v ∧ w'.cell? ⟨bg, 66, none⟩ = some (.int .i64 g.root)) (first | exact ⟨c65, c66⟩)
    (first
      | (go_at_call 71; refine (cFind_any _ base v g.c g.root _ (HH.out.sl.upd ((Upd.refl (fun _ => False) w).drew) (fun _ _ f => f)) (by omega)).mono ?_; rintro e w1 ⟨rfl, hw1⟩; subst hw1; rw [HF.out]))
  have hu0 := (Upd.refl (fun _ => False) w).drew
  have HH1 : Hid _ := HH.out.upd hu0 (fun f => f) (fun _ _ f => f)
  have HR1 : Hid _ := HR.out.upd hu0 (fun f => f)
  have HU1 : Hid _ := hu0
  have c65' : w.drew.cell? ⟨bg, 65, none⟩ = some v := c65
  clear c65 c66 HH HR hu0 HF
  revert HU1
  revert HR1
  revert HH1
  revert c65'
  generalize w.drew = w1
  intro c65 HH1 HR1 HU1
  obtain ⟨va, vcap, rfl, hform⟩ := HH1.out.sl.form
  obtain ⟨gb, rfl, _, hglt, hcell⟩ := hform j hj
  have e0 : w1.cell? ⟨gb, j * 7, none⟩ = some (.int .i64 (atE g.c j).root) := hcell 0 (by omega)
  have e1 : w1.cell? ⟨gb, j * 7 + 1, none⟩ = some (.int .i64 (atE g.c j).page) := hcell 1 (by omega)
  have e2 : w1.cell? ⟨gb, j * 7 + 2, none⟩ = some (.int .i64 (atE g.c j).dest) := hcell 2 (by omega)
  have e3 : w1.cell? ⟨gb, j * 7 + 3, none⟩ = some (.bool (atE g.c j).may) := hcell 3 (by omega)
  have e4 : w1.cell? ⟨gb, j * 7 + 4, none⟩ = some (.bool (atE g.c j).lf.there) := hcell 4 (by omega)
  have e5 : w1.cell? ⟨gb, j * 7 + 5, none⟩ = some (.bool (atE g.c j).lf.wr) := hcell 5 (by omega)
  have e6 : w1.cell? ⟨gb, j * 7 + 6, none⟩ = some (.int .i64 (atE g.c j).lf.fr) := hcell 6 (by omega)
  clear hcell hform
  have hua := (Upd.refl (fun _ => False) w1).alloc (.cells #[.int .i64 0, .int .i64 0, .int .i64 0, .bool false, .bool false, .bool false, .int .i64 0] 151)
  have c65a := hua.cell c65 (fun f => f)
  have e0 := hua.cell e0 (fun f => f)
  have e1 := hua.cell e1 (fun f => f)
  have e2 := hua.cell e2 (fun f => f)
  have e3 := hua.cell e3 (fun f => f)
  have e4 := hua.cell e4 (fun f => f)
  have e5 := hua.cell e5 (fun f => f)
  have e6 := hua.cell e6 (fun f => f)
  clear hua c65
  generalize hy : atE g.c j = y at *
  have HY : Hid _ := hy
  clear hy
  have j0 : (0 : Int) ≤ (j : Int) := by omega
  have j1 : (j : Int) < g.c.length := by omega
  have dj : decide ((j : Int) < 0) = false := by simp
  go_upto_region 19 with fail
  have hua := (Upd.refl (fun _ => False) w1).alloc (.cells #[.int .i64 y.root, .int .i64 y.page, .int .i64 y.dest, .bool y.may, .bool y.lf.there, .bool y.lf.wr, .int .i64 y.lf.fr] 151)
  have HH2 : Hid _ := HH1.out.upd hua (fun f => f) (fun _ _ f => f)
  have HR2 : Hid _ := HR1.out.upd hua (fun f => f)
  have HU2 : Hid _ := HU1.out.trans hua (fun _ _ f => f)
  have HX : Hid (∀ j, (w1.alloc (.cells #[.int .i64 y.root, .int .i64 y.page, .int .i64 y.dest, .bool y.may, .bool y.lf.there, .bool y.lf.wr, .int .i64 y.lf.fr] 151)).cell? ⟨w1.heap.size, j, none⟩ = (enCells y)[j]?) := by
    show ∀ j, _
    intro j
    rw [World.cell?_alloc_new]
    show (enCells y).toArray[j]? = _
    simp
  have hqg : bg < w1.heap.size := HH1.out.mp.lt
  have hqm : bm < w1.heap.size := World.block_lt_of_cell? w1 _ HR1.out.num
  have HZ2 : Hid ((w1.alloc (.cells #[.int .i64 y.root, .int .i64 y.page, .int .i64 y.dest, .bool y.may, .bool y.lf.there, .bool y.lf.wr, .int .i64 y.lf.fr] 151)).heap.size = w1.heap.size + 1) := by show _ = _; simp
  clear hua HH1 HR1 HU1 e0 e1 e2 e3 e4 e5 e6 c65a
  revert HZ2
  revert HX
  revert HU2
  revert HR2
  revert HH2
  generalize (w1.alloc (.cells #[.int .i64 y.root, .int .i64 y.page, .int .i64 y.dest, .bool y.may, .bool y.lf.there, .bool y.lf.wr, .int .i64 y.lf.fr] 151)) = w2
  generalize hqq : w1.heap.size = q at *
  clear hqq
  intro HH2 HR2 HU2 HX HZ2
  have x2 : w2.cell? ⟨q, 2, none⟩ = some (.int .i64 y.dest) := HX.out 2
  have x3 : w2.cell? ⟨q, 3, none⟩ = some (.bool y.may) := HX.out 3
  have hw3 := HX.out
  cases hwm : (wt && !y.may) with
  | true =>
    have hst : gStep s g y true wt = ((0, 5), s, g) := by unfold gStep; rw [hwm]; rfl
    have HST : Hid _ := hst
    obtain ⟨hw1, hw2⟩ : wt = true ∧ y.may = false := by simpa using hwm
    subst hw1
    rw [hw2] at x3
    clear hst hwm hw3
    go_wp2_with fail
    go_ret2
    rw [HY.out, HST.out]
    exact ⟨rfl, HR2.out, HH2.out, HU2.out.wide (fun _ f => f.elim)⟩
  | false =>
    have nq : ¬ (q = bm ∨ q = bg) := by omega
    have hst : gStep s g y true wt = if 0 < (gTouch s g y.dest wt).1.2 then ((0, (gTouch s g y.dest wt).1.2), (gTouch s g y.dest wt).2) else (((gTouch s g y.dest wt).1.1, 0), (gTouch s g y.dest wt).2.1, if true then (gTouch s g y.dest wt).2.2 else { (gTouch s g y.dest wt).2.2 with c := putC (gTouch s g y.dest wt).2.2.c y }) := by unfold gStep; rw [hwm]; rfl
    have HST : Hid _ := hst
    have hud := (Upd.refl (fun _ => False) w2).drew
    have HHd : Hid _ := HH2.out.upd hud (fun f => f) (fun _ _ f => f)
    have HRd : Hid _ := HR2.out.upd hud (fun f => f)
    have HUd : Hid _ := HU2.out.trans hud (fun _ _ f => f)
    clear hst hud HH2 HR2 HU2 hw3
    rcases (show wt = false ∨ (wt = true ∧ y.may = true) by cases wt <;> simp_all) with hwt | ⟨hwt, hmy⟩
    · subst hwt
      clear hwm x3
      go_wp2_with fail
      go_region_held3 (fun w' => w'.cell? ⟨q, 2, none⟩ = some (.int .i64 y.dest)) (first | exact x2 | exact x2t)
        (first
          | (go_at_call 98; refine (gTouch_any _ bg bm base _ g s b _ _ HHd.out HRd.out hne HI.out).mono ?_; rintro e w3 ⟨rfl, hr3, hg3, hu3⟩; have x2t := hu3.cell (by exact x2) nq))
      have H1 : Hid _ := hr3
      have H2 : Hid _ := hg3
      have H3 : Hid _ := (HUd.out.wide (T := fun k => k = bm ∨ k = bg) (fun _ f => f.elim)).trans hu3 (fun _ _ e => e)
      have hux := hu3
      clear hr3 hg3 HHd HRd HUd
      generalize hqt : gTouch s g y.dest _ = t at *
      clear hqt
      generalize (touchR s g.m y.dest _).1.2.1 = mv
      by_cases he : 0 < t.1.2
      · have d5 : decide (0 < t.1.2) = true := by simp; exact he
        rw [if_pos he] at HST
        clear hux
        go_wp2_with fail
        go_ret2
        rw [HY.out, HST.out]
        exact ⟨rfl, H1.out, H2.out, H3.out⟩
      · have d5 : decide (0 < t.1.2) = false := by simp; omega
        rw [if_neg he] at HST
        clear hux
        go_wp2_with fail
        go_ret2
        rw [HY.out, HST.out]
        exact ⟨rfl, H1.out, H2.out, H3.out⟩
    · subst hwt
      rw [hmy] at x3
      clear hwm hmy
      go_wp2_with fail
      go_region_held3 (fun w' => w'.cell? ⟨q, 2, none⟩ = some (.int .i64 y.dest)) (first | exact x2 | exact x2t)
        (first
          | (go_at_call 98; refine (gTouch_any _ bg bm base _ g s b _ _ HHd.out HRd.out hne HI.out).mono ?_; rintro e w3 ⟨rfl, hr3, hg3, hu3⟩; have x2t := hu3.cell (by exact x2) nq))
      have H1 : Hid _ := hr3
      have H2 : Hid _ := hg3
      have H3 : Hid _ := (HUd.out.wide (T := fun k => k = bm ∨ k = bg) (fun _ f => f.elim)).trans hu3 (fun _ _ e => e)
      have hux := hu3
      clear hr3 hg3 HHd HRd HUd
      generalize hqt : gTouch s g y.dest _ = t at *
      clear hqt
      generalize (touchR s g.m y.dest _).1.2.1 = mv
      by_cases he : 0 < t.1.2
      · have d5 : decide (0 < t.1.2) = true := by simp; exact he
        rw [if_pos he] at HST
        clear hux
        go_wp2_with fail
        go_ret2
        rw [HY.out, HST.out]
        exact ⟨rfl, H1.out, H2.out, H3.out⟩
      · have d5 : decide (0 < t.1.2) = false := by simp; omega
        rw [if_neg he] at HST
        clear hux
        go_wp2_with fail
        go_ret2
        rw [HY.out, HST.out]
        exact ⟨rfl, H1.out, H2.out, H3.out⟩
end Go.Proofs.YtadpibcgjgcjhabGreatDoor
