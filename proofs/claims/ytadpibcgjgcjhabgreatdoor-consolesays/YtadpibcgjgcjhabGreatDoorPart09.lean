/- The document's answer for chapter 4: At, where the table is read. -/
import Derived.Test.YtadpibcgjgcjhabGreatDoorPart08
import Derived.Test.YtadpibcgjgcjhabGreatDoorPart05
import Derived.Test.YtadpibcgjgcjhabGreatDoorPart07
namespace Go.Proofs.YtadpibcgjgcjhabGreatDoor
open Go.ChangeShapes Go.WideShapes Go.ChangeAt Go.RowKit
set_option maxRecDepth 100000
attribute [local go_sem ↓] Go.wp_at_zero Go.wp_at_succ

set_option maxHeartbeats 4000000 in
theorem gAt_walk (w : World) (bg bm base : Nat) (v : Value) (g : Gs) (s : Pl) (b : Mp) (k : Nat) (wt : Bool) (h : RGu w bg bm base v g) (hr : RefAt w bm s) (hne : bg ≠ bm) (hi : Inv s g.m b) (hk : k ≤ 255) (hroot : g.root ≠ -1) (hf : fndI g.c g.root ((k : Int) / 16) = -1) (hl : g.c.length ≤ 4) (hb : base ≤ w.heap.size) (hby : BytOk s) (hw0 : 0 ≤ g.walks) (hw1 : g.walks ≤ 1000000) :
    Calls Tryz.prog 68 #[.pointer (some ⟨bg, 0, none⟩), .int .i64 (k : Int), .bool wt] w fun e w' =>
      e = .returned (.tuple #[.int .i64 (gWalk s g ((k : Int) / 16) wt).1.1, .int .i64 (gWalk s g ((k : Int) / 16) wt).1.2]) ∧ RefAt w' bm (gWalk s g ((k : Int) / 16) wt).2.1 ∧ (∃ v', RGu w' bg bm base v' (gWalk s g ((k : Int) / 16) wt).2.2 ∧ Fr w v v') ∧ Upd (fun k => k = bm ∨ k = bg) w w' := by
  have c65 := h.c65
  have c66 := h.c66
  have HH : Hid _ := h
  have HR : Hid _ := hr
  have HI : Hid _ := hi
  have HF : Hid _ := hf
  have HBY : Hid (BytOk s) := hby
  have HB : Hid _ := hb
  have d1 : decide ((k : Int) < 0) = false := by simp
  have d2 : decide ((255 : Int) < (k : Int)) = false := by simp; omega
  have d3 : (g.root == -1) = false := beq_eq_false_iff_ne.2 hroot
  clear h hr hi hf hroot hby hb
  go_enter Tryz.func68, Tryz.ntmps68
  go_wp2_with fail
  go_region_held3 (fun w' => w'.cell? ⟨bg, 65, none⟩ = some v ∧ w'.cell? ⟨bg, 66, none⟩ = some (.int .i64 g.root)) (first | exact ⟨c65, c66⟩)
    (first
      | (go_at_call 71; refine (cFind_any _ base v g.c g.root _ (HH.out.sl.upd ((Upd.refl (fun _ => False) w).drew) (fun _ _ f => f)) (by omega)).mono ?_; rintro e w1 ⟨rfl, hw1⟩; subst hw1; rw [HF.out]))
  have hu0 := (Upd.refl (fun _ => False) w).drew
  have HH1 : Hid _ := HH.out.upd hu0 (fun f => f) (fun _ _ f => f)
  have HR1 : Hid _ := HR.out.upd hu0 (fun f => f)
  have HU1 : Hid _ := hu0
  have HB1 : Hid (base ≤ w.drew.heap.size) := HB.out
  clear c65 c66 HH HR hu0 HF HB
  revert HB1
  revert HU1
  revert HR1
  revert HH1
  generalize w.drew = w1
  intro HH1 HR1 HU1 HB1
  have hua := (Upd.refl (fun _ => False) w1).alloc (.cells #[.int .i64 0, .int .i64 0, .int .i64 0, .bool false, .bool false, .bool false, .int .i64 0] 151)
  have HH2 : Hid _ := HH1.out.upd hua (fun f => f) (fun _ _ f => f)
  have HR2 : Hid _ := HR1.out.upd hua (fun f => f)
  have HU2 : Hid _ := HU1.out.trans hua (fun _ _ f => f)
  have HX : Hid (∀ j, j < 7 → (w1.alloc (.cells #[.int .i64 0, .int .i64 0, .int .i64 0, .bool false, .bool false, .bool false, .int .i64 0] 151)).cell? ⟨w1.heap.size, j, none⟩ = (enCells en0)[j]?) := by
    show ∀ j, _ → _
    intro j _
    rw [World.cell?_alloc_new]
    show (enCells en0).toArray[j]? = _
    simp
  have HXF : Hid (∀ j, (w1.alloc (.cells #[.int .i64 0, .int .i64 0, .int .i64 0, .bool false, .bool false, .bool false, .int .i64 0] 151)).frozen? ⟨w1.heap.size, j, none⟩ = false) := fun j => World.frozen?_alloc_new _ _ _ _
  have HVQ : Hid (∀ k, v.ownBlock = some k → k < w1.heap.size) := fun k hk => (HH1.out.sl.ownLt hk).2
  have HXL : Hid (w1.heap.size < (w1.alloc (.cells #[.int .i64 0, .int .i64 0, .int .i64 0, .bool false, .bool false, .bool false, .int .i64 0] 151)).heap.size) := by show _ < _; simp
  have r66 : (w1.alloc (.cells #[.int .i64 0, .int .i64 0, .int .i64 0, .bool false, .bool false, .bool false, .int .i64 0] 151)).cell? ⟨bg, 66, none⟩ = some (.int .i64 g.root) := HH2.out.c66
  have HWQ : Hid (w.heap.size ≤ w1.heap.size) := HU1.out.size
  have hqg : bg < w1.heap.size := HH1.out.mp.lt
  have hqm : bm < w1.heap.size := World.block_lt_of_cell? w1 _ HR1.out.num
  clear hua HH1 HR1 HU1
  go_wp2_with fail
  revert r66
  revert HXL
  revert HVQ
  revert HXF
  revert HX
  revert HU2
  revert HR2
  revert HH2
  generalize w1.alloc (.cells #[.int .i64 0, .int .i64 0, .int .i64 0, .bool false, .bool false, .bool false, .int .i64 0] 151) = w2
  generalize hqq : w1.heap.size = q at *
  clear hqq
  intro HH2 HR2 HU2 HX HXF HVQ HXL r66
  have nq : ¬ (q = bm ∨ q = bg) := by omega
  have hud := (Upd.refl (fun _ => False) w2).drew
  have HHd : Hid _ := HH2.out.upd hud (fun f => f) (fun _ _ f => f)
  have HRd : Hid _ := HR2.out.upd hud (fun f => f)
  have HUd : Hid _ := HU2.out.trans hud (fun _ _ f => f)
  clear hud HH2 HR2 HU2
  have hcode := touch_code s g.m g.root false
  go_region_held3 (fun w' => w'.cell? ⟨bg, 66, none⟩ = some (.int .i64 g.root)) (first | exact r66 | exact r67)
    (first
      | (go_at_call 98; refine (gTouch_any _ bg bm base _ g s b _ _ HHd.out HRd.out hne HI.out).mono ?_; rintro e w3 ⟨rfl, hr3, hg3, hu3⟩; have r67 : w3.cell? ⟨bg, 66, none⟩ = some (.int .i64 g.root) := hg3.c66))
  have H1 : Hid _ := hr3
  have H2 : Hid (RGu w3 bg bm base v (gTouch s g g.root false).2.2) := hg3
  have H3 : Hid _ := (HUd.out.wide (T := fun k => k = bm ∨ k = bg) (fun _ f => f.elim)).trans hu3 (fun _ _ e => e)
  have HX3 : Hid (∀ j, j < 7 → w3.cell? ⟨q, j, none⟩ = (enCells en0)[j]?) := by
    show ∀ j, _ → _
    intro j hj
    obtain ⟨z, hz⟩ : ∃ z, (enCells en0)[j]? = some z := ⟨_, List.getElem?_eq_getElem (show j < (enCells en0).length from hj)⟩
    rw [hz]
    exact hu3.cell ((HX.out j hj).trans hz) nq
  have HXF3 : Hid (∀ j, w3.frozen? ⟨q, j, none⟩ = false) := by
    show ∀ j, _
    intro j
    rw [World.frozen?_of_block (w := w2.drew) (hu3.block q HXL.out nq)]
    exact HXF.out j
  have hwk : gWalk s g ((k : Int) / 16) wt = if 0 < (gTouch s g g.root false).1.2 then ((0, (gTouch s g g.root false).1.2), (gTouch s g g.root false).2) else if (gTouch s g g.root false).2.1.byt (gTouch s g g.root false).1.1.toNat ((k : Int) / 16).toNat < 128 then ((0, 5), (gTouch s g g.root false).2.1, { (gTouch s g g.root false).2.2 with walks := g.walks + 1 }) else gStep (gTouch s g g.root false).2.1 { (gTouch s g g.root false).2.2 with walks := g.walks + 1 } (gEn g.root ((k : Int) / 16) ((gTouch s g g.root false).2.1.byt (gTouch s g g.root false).1.1.toNat ((k : Int) / 16).toNat)) false wt := rfl
  have HWK : Hid _ := hwk
  have HTF : Hid ((gTouch s g g.root false).1.2 = 0 → 0 ≤ (gTouch s g g.root false).1.1 ∧ (gTouch s g g.root false).1.1 < (gTouch s g g.root false).2.1.n) := fun he => by have := touch_frame HI.out g.root false he; exact ⟨this.1, this.2.1⟩
  have HBT : Hid (BytOk (gTouch s g g.root false).2.1) := HBY.out.touch g.m g.root false
  have HIT : Hid (Inv (gTouch s g g.root false).2.1 (gTouch s g g.root false).2.2.m b) := HI.out.touch g.root false
  have hgw : (gTouch s g g.root false).2.2.walks = g.walks := rfl
  have hgr : (gTouch s g g.root false).2.2.root = g.root := rfl
  have hgc : (gTouch s g g.root false).2.2.c = g.c := rfl
  have hcode : 0 ≤ (gTouch s g g.root false).1.2 := hcode
  clear hr3 hg3 hu3 HHd HRd HUd hwk HX HXF HXL r66
  generalize hqt : gTouch s g g.root false = t at *
  clear hqt
  generalize (touchR s g.m g.root false).1.2.1 = mv
  by_cases he : 0 < t.1.2
  · have d5 : decide (0 < t.1.2) = true := by simp; exact he
    rw [if_pos he] at HWK
    go_wp2_with fail
    go_ret2
    rw [HWK.out]
    exact ⟨rfl, H1.out, ⟨v, H2.out, Fr.refl _ _⟩, H3.out⟩
  · have d5 : decide (0 < t.1.2) = false := by simp; omega
    rw [if_neg he] at HWK
    obtain ⟨f0, f1⟩ := HTF.out (by omega)
    obtain ⟨⟨⟨fi, te⟩, s1, g1⟩, ht⟩ : ∃ z, z = t := ⟨t, rfl⟩
    subst ht
    obtain ⟨f, rfl⟩ := Int.eq_ofNat_of_zero_le f0
    have f1 : (f : Int) < s1.n := f1
    have hfn : f < s1.n := by omega
    have HA1 : Hid (RefAt w3 bm s1) := H1
    have HA2 : Hid (RGu w3 bg bm base v g1) := H2
    have HB2 : Hid (BytOk s1) := HBT
    have HI2 : Hid (Inv s1 g1.m b) := HIT
    have kgw : g1.walks = g.walks := hgw
    have kgr : g1.root = g.root := hgr
    have kgc : g1.c = g.c := hgc
    have d7 : decide (0 < te) = false := d5
    have H3b : Hid (Upd (fun k => k = bm ∨ k = bg) w w3) := H3.out
    clear hgw hgr hgc d5 HBT HIT H1 H2 H3
    have hk16 : k / 16 < 16 := by omega
    have hkk : ((k : Int) / 16).toNat = k / 16 := by omega
    have p0 : w3.cell? ⟨bg, 0, none⟩ = some (.pointer (some ⟨bm, 0, none⟩)) := HA2.out.mp.pool
    have b0 := HA1.out.byt f (k / 16) hfn hk16
    have hle64 : s1.n ≤ 64 := HA1.out.le
    obtain ⟨bl, bh⟩ := HB2.out f (k / 16)
    have wk : w3.cell? ⟨bg, 67, none⟩ = some (.int .i64 g.walks) := by have := HA2.out.c67; rw [kgw] at this; exact this
    have wz : w3.frozen? ⟨bg, 67, none⟩ = false := HA2.out.mp.fz 67
    have i0 : (0 : Int) ≤ (f : Int) := by omega
    have i1 : (f : Int) < 64 := by omega
    have i2 : (0 : Int) ≤ (k : Int) / 16 := by omega
    have i3 : (k : Int) / 16 < 16 := by omega
    have HW2 : Hid (gWalk s g ((k : Int) / 16) wt = if s1.byt f (k / 16) < 128 then ((0, 5), s1, { g1 with walks := g.walks + 1 }) else gStep s1 { g1 with walks := g.walks + 1 } (gEn g.root ((k : Int) / 16) (s1.byt f (k / 16))) false wt) := by
      show _ = _
      have := HWK.out
      simp only [hkk, Int.toNat_natCast] at this
      exact this
    have hu4 := Upd.one w3 bg 67 (.int .i64 (g.walks + 1))
    have HH4 : Hid _ := HA2.out.setWalks (g.walks + 1)
    have HR4 : Hid _ := HA1.out.upd hu4 (fun e => hne e.symm)
    have HU4 : Hid _ := H3b.out.trans hu4 (fun _ _ e => Or.inr e)
    have HX4 : Hid (∀ j, j < 7 → (w3.setCell ⟨bg, 67, none⟩ (.int .i64 (g.walks + 1))).cell? ⟨q, j, none⟩ = (enCells en0)[j]?) := by
      show ∀ j, _ → _
      intro j hj
      rw [World.cell?_setCell_other _ _ _ _ (addr_ne (Or.inl (by omega)))]
      exact HX3.out j hj
    have HXF4 : Hid (∀ j, (w3.setCell ⟨bg, 67, none⟩ (.int .i64 (g.walks + 1))).frozen? ⟨q, j, none⟩ = false) := by
      show ∀ j, _
      intro j
      rw [World.frozen?_setCell]
      exact HXF3.out j
    have r4 : (w3.setCell ⟨bg, 67, none⟩ (.int .i64 (g.walks + 1))).cell? ⟨bg, 66, none⟩ = some (.int .i64 g.root) := by have := HH4.out.c66; rw [show ({ g1 with walks := g.walks + 1 } : Gs).root = g.root from kgr] at this; exact this
    clear hu4 HA1 HA2 H3b HX3 HXF3 HTF HBY HI he f0 hcode HWK
    generalize s1.byt f (k / 16) = bb at *
    by_cases h128 : bb < 128
    · have d6 : decide (bb < 128) = true := by simp; exact h128
      rw [if_pos h128] at HW2
      go_wp2_with fail
      go_ret2
      rw [HW2.out]
      exact ⟨rfl, HR4.out, ⟨v, HH4.out, Fr.refl _ _⟩, HU4.out⟩
    · have d6 : decide (bb < 128) = false := by simp; omega
      rw [if_neg h128] at HW2
      have z0 : (w3.setCell ⟨bg, 67, none⟩ (.int .i64 (g.walks + 1))).cell? ⟨q, 0, none⟩ = some (.int .i64 0) := HX4.out 0 (by omega)
      have z1 : (w3.setCell ⟨bg, 67, none⟩ (.int .i64 (g.walks + 1))).cell? ⟨q, 1, none⟩ = some (.int .i64 0) := HX4.out 1 (by omega)
      have z2 : (w3.setCell ⟨bg, 67, none⟩ (.int .i64 (g.walks + 1))).cell? ⟨q, 2, none⟩ = some (.int .i64 0) := HX4.out 2 (by omega)
      have z3 : (w3.setCell ⟨bg, 67, none⟩ (.int .i64 (g.walks + 1))).cell? ⟨q, 3, none⟩ = some (.bool false) := HX4.out 3 (by omega)
      have z4 : (w3.setCell ⟨bg, 67, none⟩ (.int .i64 (g.walks + 1))).cell? ⟨q, 4, none⟩ = some (.bool false) := HX4.out 4 (by omega)
      have z5 : (w3.setCell ⟨bg, 67, none⟩ (.int .i64 (g.walks + 1))).cell? ⟨q, 5, none⟩ = some (.bool false) := HX4.out 5 (by omega)
      have z6 : (w3.setCell ⟨bg, 67, none⟩ (.int .i64 (g.walks + 1))).cell? ⟨q, 6, none⟩ = some (.int .i64 0) := HX4.out 6 (by omega)
      have zf := HXF4.out
      go_upto_region 19 with fail
      obtain ⟨y, hy⟩ : ∃ y, y = gEn g.root ((k : Int) / 16) bb := ⟨_, rfl⟩
      have hx5 := World.rangeAt_setCells_same (w3.setCell ⟨bg, 67, none⟩ (.int .i64 (g.walks + 1))) q 0 (enCells (gEn g.root ((k : Int) / 16) bb)) (fun o ho => by
        have ho : o < 7 := ho
        rw [Nat.zero_add]
        refine ⟨?_, HXF4.out o⟩
        rw [HX4.out o ho, List.getElem?_eq_getElem (show o < (enCells en0).length from ho)]
        rfl)
      have hu5 := Upd.row (w3.setCell ⟨bg, 67, none⟩ (.int .i64 (g.walks + 1))) q 0 (enCells (gEn g.root ((k : Int) / 16) bb))
      have HH5 : Hid _ := HH4.out.upd hu5 (by omega) (fun k hk e => by have := HVQ.out k hk; omega)
      have HR5 : Hid _ := HR4.out.upd hu5 (by omega)
      have HX5 : Hid (∀ j v, (enCells y)[j]? = some v → ((w3.setCell ⟨bg, 67, none⟩ (.int .i64 (g.walks + 1))).setCells q 0 (enCells (gEn g.root ((k : Int) / 16) bb))).cell? ⟨q, j, none⟩ = some v) := by
        show ∀ j v, _ → _
        intro j v hj
        rw [hy] at hj
        have := hx5 j v hj
        rw [Nat.zero_add] at this
        exact this
      have HU5 : Hid (Upd (fun k => k = bm ∨ k = bg) w ((w3.setCell ⟨bg, 67, none⟩ (.int .i64 (g.walks + 1))).setCells q 0 (enCells (gEn g.root ((k : Int) / 16) bb)))) := HU4.out.trans hu5 (fun i hi e => by have := HWQ.out; omega)
      have hnest : ((((((((w3.setCell ⟨bg, 67, none⟩ (.int .i64 (g.walks + 1))).setCell ⟨q, 0, none⟩ (.int .i64 g.root)).setCell ⟨q, 1, none⟩ (.int .i64 ((k : Int) / 16))).setCell ⟨q, 2, none⟩ (.int .i64 (bb % 16))).setCell ⟨q, 3, none⟩ (.bool (bb / 64 % 2 == 1))).setCell ⟨q, 4, none⟩ (.bool false)).setCell ⟨q, 5, none⟩ (.bool false)).setCell ⟨q, 6, none⟩ (.int .i64 0)) = (w3.setCell ⟨bg, 67, none⟩ (.int .i64 (g.walks + 1))).setCells q 0 (enCells (gEn g.root ((k : Int) / 16) bb)) := rfl
      rw [hnest]
      clear hnest hx5 hu5 HH4 HR4 HU4 HX4 HXF4 z0 z1 z2 z3 z4 z5 z6 zf r4 wk wz b0 p0
      revert HU5
      revert HX5
      revert HR5
      revert HH5
      generalize (w3.setCell ⟨bg, 67, none⟩ (.int .i64 (g.walks + 1))).setCells q 0 (enCells (gEn g.root ((k : Int) / 16) bb)) = w5
      intro HH5 HR5 HX5 HU5
      rw [← hy] at HW2
      clear hy
      obtain ⟨g2, hg2⟩ : ∃ g2, g2 = ({ g1 with walks := g.walks + 1 } : Gs) := ⟨_, rfl⟩
      rw [← hg2] at HH5 HW2
      have HI2 : Hid (Inv s1 g2.m b) := by rw [hg2]; exact HI2.out
      have hl2 : g2.c.length ≤ 4 := by rw [hg2]; show g1.c.length ≤ 4; rw [kgc]; exact hl
      clear hg2 kgw kgr kgc
      have x2 : w5.cell? ⟨q, 2, none⟩ = some (.int .i64 y.dest) := HX5.out 2 _ rfl
      have x3 : w5.cell? ⟨q, 3, none⟩ = some (.bool y.may) := HX5.out 3 _ rfl
      cases hwm : (wt && !y.may) with
      | true =>
        have hst : gStep s1 g2 y false wt = ((0, 5), s1, g2) := by unfold gStep; rw [hwm]; rfl
        have HST : Hid _ := hst
        obtain ⟨hw1, hw2⟩ : wt = true ∧ y.may = false := by simpa using hwm
        subst hw1
        rw [hw2] at x3
        clear hst hwm
        go_wp2_with fail
        go_ret2
        rw [HW2.out, HST.out]
        exact ⟨rfl, HR5.out, ⟨v, HH5.out, Fr.refl _ _⟩, HU5.out⟩
      | false =>
        have hst : gStep s1 g2 y false wt = if 0 < (gTouch s1 g2 y.dest wt).1.2 then ((0, (gTouch s1 g2 y.dest wt).1.2), (gTouch s1 g2 y.dest wt).2) else (((gTouch s1 g2 y.dest wt).1.1, 0), (gTouch s1 g2 y.dest wt).2.1, { (gTouch s1 g2 y.dest wt).2.2 with c := putC (gTouch s1 g2 y.dest wt).2.2.c y }) := by unfold gStep; rw [hwm]; rfl
        have HST : Hid _ := hst
        have hud := (Upd.refl (fun _ => False) w5).drew
        have HHd : Hid _ := HH5.out.upd hud (fun f => f) (fun _ _ f => f)
        have HRd : Hid _ := HR5.out.upd hud (fun f => f)
        have HUd : Hid _ := HU5.out.trans hud (fun _ _ f => f.elim)
        clear hst hud HH5 HR5 HU5
        rcases (show wt = false ∨ (wt = true ∧ y.may = true) by cases wt <;> simp_all) with hwt | ⟨hwt, hmy⟩
        · subst hwt
          clear hwm x3
          go_wp2_with fail
          go_region_held3 (fun w' => w'.cell? ⟨q, 2, none⟩ = some (.int .i64 y.dest)) (first | exact x2 | exact x2t)
            (first
              | (go_at_call 98; refine (gTouch_any _ bg bm base _ g2 s1 b _ _ HHd.out HRd.out hne HI2.out).mono ?_; rintro e w6 ⟨rfl, hr6, hg6, hu6⟩; have x2t := hu6.cell (by exact x2) nq))
          have H1 : Hid _ := hr6
          have H2 : Hid (RGu w6 bg bm base v (gTouch s1 g2 y.dest false).2.2) := hg6
          have H3 : Hid _ := HUd.out.trans hu6 (fun _ _ e => e)
          have HX6 : Hid (∀ j v, (enCells y)[j]? = some v → w6.cell? ⟨q, j, none⟩ = some v) := by
            show ∀ j v, _ → _
            intro j v hj
            exact hu6.cell (show w5.drew.cell? ⟨q, j, none⟩ = some v from HX5.out j v hj) nq
          have hc6 : (gTouch s1 g2 y.dest false).2.2.c = g2.c := rfl
          clear hr6 hg6 hu6 HHd HRd HUd HX5
          generalize hqt : gTouch s1 g2 y.dest false = t2 at *
          clear hqt
          generalize (touchR s1 g2.m y.dest false).1.2.1 = mv2
          by_cases he2 : 0 < t2.1.2
          · have d8 : decide (0 < t2.1.2) = true := by simp; exact he2
            rw [if_pos he2] at HST
            go_wp2_with fail
            go_ret2
            rw [HW2.out, HST.out]
            exact ⟨rfl, H1.out, ⟨v, H2.out, Fr.refl _ _⟩, H3.out⟩
          · have d8 : decide (0 < t2.1.2) = false := by simp; omega
            rw [if_neg he2] at HST
            have c65 := H2.out.c65
            have y0 : w6.cell? ⟨q, 0, none⟩ = some (.int .i64 y.root) := HX6.out 0 _ rfl
            have y1 : w6.cell? ⟨q, 1, none⟩ = some (.int .i64 y.page) := HX6.out 1 _ rfl
            have y2 : w6.cell? ⟨q, 2, none⟩ = some (.int .i64 y.dest) := HX6.out 2 _ rfl
            have y3 : w6.cell? ⟨q, 3, none⟩ = some (.bool y.may) := HX6.out 3 _ rfl
            have y4 : w6.cell? ⟨q, 4, none⟩ = some (.bool y.lf.there) := HX6.out 4 _ rfl
            have y5 : w6.cell? ⟨q, 5, none⟩ = some (.bool y.lf.wr) := HX6.out 5 _ rfl
            have y6 : w6.cell? ⟨q, 6, none⟩ = some (.int .i64 y.lf.fr) := HX6.out 6 _ rfl
            have hud6 := (Upd.refl (fun _ => False) w6).drew
            have HSd : Hid (SlC w6.drew base v t2.2.2.c) := H2.out.sl.upd hud6 (fun _ _ f => f)
            have HGd : Hid _ := H2.out.upd hud6 (fun f => f) (fun _ _ f => f)
            have hlc : t2.2.2.c.length ≤ 4 := by rw [hc6]; exact hl2
            clear hc6
            clear x2 x2t hud6
            go_wp2_with fail
            go_region_with (go_at_call 99; refine (cPut_any _ base v t2.2.2.c y HSd.out (by omega)).mono ?_; rintro e w7 ⟨v7, rfl, hs7, hu7⟩; obtain ⟨a7, cap7, rfl, _⟩ := hs7.form; have HG7 : Hid _ := HGd.out.upd hu7 (fun f => f) (fun _ _ f => f); have c7 := HG7.out.c65; have f7 := HG7.out.mp.fz 65; have HS7 : Hid _ := hs7; have HU7 : Hid _ := hu7; clear hs7 hu7)
            all_goals
              have hq6 : q < w6.heap.size := World.block_lt_of_cell? w6 _ y0
              clear c65 y0 y1 y2 y3 y4 y5 y6
              go_wp2_with fail
              go_ret2
              rw [HW2.out, HST.out]
              have hz6 : w6.drew.heap.size = w6.heap.size := rfl
              refine ⟨rfl, (((H1.out.upd ((Upd.refl (fun _ => False) w6).drew) (fun f => f)).upd HU7.out (fun f => f)).upd (Upd.one _ bg 65 _) (fun e => hne e.symm)), ⟨_, HG7.out.setC HS7.out (by have := HB1.out; omega) (by omega) (by omega), Fr.of HS7.out (by have := H3.out.size; omega)⟩, ?_⟩
              exact (H3.out.trans ((Upd.refl (fun _ => False) w6).drew) (fun _ _ f => f.elim)).trans ((HU7.out.wide (T := fun k => k = bm ∨ k = bg) (fun _ f => f.elim)).trans (Upd.one _ bg 65 _) (fun _ _ e => Or.inr e)) (fun _ _ e => e)
        · subst hwt
          rw [hmy] at x3
          clear hwm hmy
          go_wp2_with fail
          go_region_held3 (fun w' => w'.cell? ⟨q, 2, none⟩ = some (.int .i64 y.dest)) (first | exact x2 | exact x2t)
            (first
              | (go_at_call 98; refine (gTouch_any _ bg bm base _ g2 s1 b _ _ HHd.out HRd.out hne HI2.out).mono ?_; rintro e w6 ⟨rfl, hr6, hg6, hu6⟩; have x2t := hu6.cell (by exact x2) nq))
          have H1 : Hid _ := hr6
          have H2 : Hid (RGu w6 bg bm base v (gTouch s1 g2 y.dest true).2.2) := hg6
          have H3 : Hid _ := HUd.out.trans hu6 (fun _ _ e => e)
          have HX6 : Hid (∀ j v, (enCells y)[j]? = some v → w6.cell? ⟨q, j, none⟩ = some v) := by
            show ∀ j v, _ → _
            intro j v hj
            exact hu6.cell (show w5.drew.cell? ⟨q, j, none⟩ = some v from HX5.out j v hj) nq
          have hc6 : (gTouch s1 g2 y.dest true).2.2.c = g2.c := rfl
          clear hr6 hg6 hu6 HHd HRd HUd HX5
          generalize hqt : gTouch s1 g2 y.dest true = t2 at *
          clear hqt
          generalize (touchR s1 g2.m y.dest true).1.2.1 = mv2
          by_cases he2 : 0 < t2.1.2
          · have d8 : decide (0 < t2.1.2) = true := by simp; exact he2
            rw [if_pos he2] at HST
            go_wp2_with fail
            go_ret2
            rw [HW2.out, HST.out]
            exact ⟨rfl, H1.out, ⟨v, H2.out, Fr.refl _ _⟩, H3.out⟩
          · have d8 : decide (0 < t2.1.2) = false := by simp; omega
            rw [if_neg he2] at HST
            have c65 := H2.out.c65
            have y0 : w6.cell? ⟨q, 0, none⟩ = some (.int .i64 y.root) := HX6.out 0 _ rfl
            have y1 : w6.cell? ⟨q, 1, none⟩ = some (.int .i64 y.page) := HX6.out 1 _ rfl
            have y2 : w6.cell? ⟨q, 2, none⟩ = some (.int .i64 y.dest) := HX6.out 2 _ rfl
            have y3 : w6.cell? ⟨q, 3, none⟩ = some (.bool y.may) := HX6.out 3 _ rfl
            have y4 : w6.cell? ⟨q, 4, none⟩ = some (.bool y.lf.there) := HX6.out 4 _ rfl
            have y5 : w6.cell? ⟨q, 5, none⟩ = some (.bool y.lf.wr) := HX6.out 5 _ rfl
            have y6 : w6.cell? ⟨q, 6, none⟩ = some (.int .i64 y.lf.fr) := HX6.out 6 _ rfl
            have hud6 := (Upd.refl (fun _ => False) w6).drew
            have HSd : Hid (SlC w6.drew base v t2.2.2.c) := H2.out.sl.upd hud6 (fun _ _ f => f)
            have HGd : Hid _ := H2.out.upd hud6 (fun f => f) (fun _ _ f => f)
            have hlc : t2.2.2.c.length ≤ 4 := by rw [hc6]; exact hl2
            clear hc6
            clear x2 x2t hud6
            go_wp2_with fail
            go_region_with (go_at_call 99; refine (cPut_any _ base v t2.2.2.c y HSd.out (by omega)).mono ?_; rintro e w7 ⟨v7, rfl, hs7, hu7⟩; obtain ⟨a7, cap7, rfl, _⟩ := hs7.form; have HG7 : Hid _ := HGd.out.upd hu7 (fun f => f) (fun _ _ f => f); have c7 := HG7.out.c65; have f7 := HG7.out.mp.fz 65; have HS7 : Hid _ := hs7; have HU7 : Hid _ := hu7; clear hs7 hu7)
            all_goals
              have hq6 : q < w6.heap.size := World.block_lt_of_cell? w6 _ y0
              clear c65 y0 y1 y2 y3 y4 y5 y6
              go_wp2_with fail
              go_ret2
              rw [HW2.out, HST.out]
              have hz6 : w6.drew.heap.size = w6.heap.size := rfl
              refine ⟨rfl, (((H1.out.upd ((Upd.refl (fun _ => False) w6).drew) (fun f => f)).upd HU7.out (fun f => f)).upd (Upd.one _ bg 65 _) (fun e => hne e.symm)), ⟨_, HG7.out.setC HS7.out (by have := HB1.out; omega) (by omega) (by omega), Fr.of HS7.out (by have := H3.out.size; omega)⟩, ?_⟩
              exact (H3.out.trans ((Upd.refl (fun _ => False) w6).drew) (fun _ _ f => f.elim)).trans ((HU7.out.wide (T := fun k => k = bm ∨ k = bg) (fun _ f => f.elim)).trans (Upd.one _ bg 65 _) (fun _ _ e => Or.inr e)) (fun _ _ e => e)
end Go.Proofs.YtadpibcgjgcjhabGreatDoor
/- The document's answer for chapter 4: At, Load, Store. -/
namespace Go.Proofs.YtadpibcgjgcjhabGreatDoor
open Go.ChangeShapes Go.WideShapes Go.ChangeAt Go.RowKit
set_option maxRecDepth 100000
attribute [local go_sem ↓] Go.wp_at_zero Go.wp_at_succ

theorem gAt_any (w : World) (bg bm base : Nat) (v : Value) (g : Gs) (s : Pl) (b : Mp) (addr : Int) (wt : Bool) (h : RGu w bg bm base v g) (hr : RefAt w bm s) (hne : bg ≠ bm) (hg : GInv s g b 1000000) (hb : base ≤ w.heap.size) :
    Calls Tryz.prog 68 #[.pointer (some ⟨bg, 0, none⟩), .int .i64 addr, .bool wt] w fun e w' =>
      e = .returned (.tuple #[.int .i64 (gAt s g addr wt).1.1, .int .i64 (gAt s g addr wt).1.2]) ∧ RefAt w' bm (gAt s g addr wt).2.1 ∧ (∃ v', RGu w' bg bm base v' (gAt s g addr wt).2.2 ∧ Fr w v v') ∧ Upd (fun k => k = bm ∨ k = bg) w w' := by
  by_cases ho : addr < 0 ∨ 255 < addr
  · have e : gAt s g addr wt = ((0, 1), s, g) := by unfold gAt; rw [if_pos ho]
    rw [e]
    refine (gAt_out w bg addr wt ho).mono ?_
    rintro e w' ⟨rfl, rfl⟩
    exact ⟨rfl, hr, ⟨v, h, Fr.refl _ _⟩, Upd.refl _ _⟩
  · obtain ⟨k, rfl⟩ := Int.eq_ofNat_of_zero_le (show 0 ≤ addr by omega)
    have hk : k ≤ 255 := by omega
    by_cases h1 : g.root = -1
    · have e : gAt s g (k : Int) wt = gTouch s g ((k : Int) / 16) wt := by unfold gAt; rw [if_neg ho, if_pos h1]
      rw [e]
      refine (gAt_off w bg bm base v g s b k wt h hr hne hg.inv hk h1).mono ?_
      rintro e w' ⟨he, h2, h3, h4⟩
      exact ⟨he, h2, ⟨v, h3, Fr.refl _ _⟩, h4⟩
    · rcases idx_or g.c g.root ((k : Int) / 16) with ⟨j, hj, hf⟩ | hf
      · have e : gAt s g (k : Int) wt = gStep s g (atE g.c j) true wt := by unfold gAt; rw [if_neg ho, if_neg h1, hf, if_pos (by omega), Int.toNat_natCast]
        rw [e]
        refine (gAt_found w bg bm base v g s b k wt h hr hne hg.inv hk h1 j hj hf hg.len).mono ?_
        rintro e w' ⟨he, h2, h3, h4⟩
        exact ⟨he, h2, ⟨v, h3, Fr.refl _ _⟩, h4⟩
      · have e : gAt s g (k : Int) wt = gWalk s g ((k : Int) / 16) wt := by unfold gAt; rw [if_neg ho, if_neg h1, hf, if_neg (by omega)]
        rw [e]
        exact gAt_walk w bg bm base v g s b k wt h hr hne hg.inv hk h1 hf hg.len hb hg.byt hg.w0 hg.w1
theorem gLoad_any (w : World) (bg bm base : Nat) (v : Value) (g : Gs) (s : Pl) (b : Mp) (addr : Int) (h : RGu w bg bm base v g) (hr : RefAt w bm s) (hne : bg ≠ bm) (hg : GInv s g b 1000000) (hb : base ≤ w.heap.size) :
    Calls Tryz.prog 44 #[.pointer (some ⟨bg, 0, none⟩), .int .i64 addr] w fun e w' =>
      e = .returned (.tuple #[.int .u8 (gLoad s g addr).1.1, .int .i64 (gLoad s g addr).1.2]) ∧ RefAt w' bm (gLoad s g addr).2.1 ∧ (∃ v', RGu w' bg bm base v' (gLoad s g addr).2.2 ∧ Fr w v v') ∧ Upd (fun k => k = bm ∨ k = bg) w w' := by
  have HF : Hid _ := gAt_frame hg addr false
  have hc := gAt_code s g addr false
  have hll : gLoad s g addr = if 0 < (gAt s g addr false).1.2 then ((0, (gAt s g addr false).1.2), (gAt s g addr false).2) else (((gAt s g addr false).2.1.byt (gAt s g addr false).1.1.toNat (addr % 16).toNat, 0), (gAt s g addr false).2) := rfl
  have HLL : Hid _ := hll
  have HC : Hid _ := gAt_any w bg bm base v g s b addr false h hr hne hg hb
  clear h hr hg hll
  go_enter Tryz.func44, Tryz.ntmps44
  go_wp2_with fail
  refine Calls.mono HC.out ?_
  rintro e w1 ⟨rfl, hr1, ⟨v1, hg1, hf1⟩, hu1⟩
  have H1 : Hid _ := hr1
  have H2 : Hid (RGu w1 bg bm base v1 (gAt s g addr false).2.2) := hg1
  have H3 : Hid _ := hu1
  have HFR : Hid (Fr w v v1) := hf1
  clear hr1 hg1 hu1 hf1 HC
  generalize hqt : gAt s g addr false = t at *
  clear hqt
  by_cases he : 0 < t.1.2
  · have d5 : decide (0 < t.1.2) = true := by simp; exact he
    rw [if_pos he] at HLL
    go_wp2_with fail
    go_ret2
    rw [HLL.out]
    exact ⟨rfl, H1.out, ⟨v1, H2.out, HFR.out⟩, H3.out⟩
  · have d5 : decide (0 < t.1.2) = false := by simp; omega
    rw [if_neg he] at HLL
    obtain ⟨⟨a0, a1⟩, f0, f1⟩ := HF.out (by omega)
    obtain ⟨k, rfl⟩ := Int.eq_ofNat_of_zero_le a0
    obtain ⟨⟨⟨fi, te⟩, s1, g1⟩, ht⟩ : ∃ z, z = t := ⟨t, rfl⟩
    subst ht
    obtain ⟨f, rfl⟩ := Int.eq_ofNat_of_zero_le f0
    have f1 : (f : Int) < s1.n := f1
    have HA1 : Hid (RefAt w1 bm s1) := H1
    have HA2 : Hid (RGu w1 bg bm base v1 g1) := H2
    have d7 : decide (0 < te) = false := d5
    have hfn : f < s1.n := by omega
    have hk16 : k % 16 < 16 := by omega
    have hkk : ((k : Int) % 16).toNat = k % 16 := by omega
    have p0 : w1.cell? ⟨bg, 0, none⟩ = some (.pointer (some ⟨bm, 0, none⟩)) := HA2.out.mp.pool
    have b0 := HA1.out.byt f (k % 16) hfn hk16
    have hle64 : s1.n ≤ 64 := HA1.out.le
    have i0 : (0 : Int) ≤ (f : Int) := by omega
    have i1 : (f : Int) < 64 := by omega
    have i2 : (0 : Int) ≤ (k : Int) % 16 := by omega
    have i3 : (k : Int) % 16 < 16 := by omega
    have HW2 : Hid (gLoad s g (k : Int) = ((s1.byt f (k % 16), 0), s1, g1)) := by
      show _ = _
      have := HLL.out
      simp only [hkk, Int.toNat_natCast] at this
      exact this
    clear HLL HF H1 H2 he d5 f0 hc a0 a1
    go_wp2_with fail
    go_ret2
    rw [HW2.out]
    exact ⟨rfl, HA1.out, ⟨v1, HA2.out, HFR.out⟩, H3.out⟩
theorem gStore_any (w : World) (bg bm base : Nat) (v : Value) (g : Gs) (s : Pl) (b : Mp) (addr x : Int) (h : RGu w bg bm base v g) (hr : RefAt w bm s) (hne : bg ≠ bm) (hg : GInv s g b 1000000) (hb : base ≤ w.heap.size) :
    Calls Tryz.prog 45 #[.pointer (some ⟨bg, 0, none⟩), .int .i64 addr, .int .u8 x] w fun e w' =>
      e = .returned (.int .i64 (gStore s g addr x).1) ∧ RefAt w' bm (gStore s g addr x).2.1 ∧ (∃ v', RGu w' bg bm base v' (gStore s g addr x).2.2 ∧ Fr w v v') ∧ Upd (fun k => k = bm ∨ k = bg) w w' := by
  have HF : Hid _ := gAt_frame hg addr true
  have hc := gAt_code s g addr true
  have hll : gStore s g addr x = if 0 < (gAt s g addr true).1.2 then ((gAt s g addr true).1.2, (gAt s g addr true).2) else (((gAt s g addr true).2.1.set (gAt s g addr true).1.1 (addr % 16) x).1, ((gAt s g addr true).2.1.set (gAt s g addr true).1.1 (addr % 16) x).2, (gAt s g addr true).2.2) := rfl
  have HLL : Hid _ := hll
  have HC : Hid _ := gAt_any w bg bm base v g s b addr true h hr hne hg hb
  clear h hr hg hll
  go_enter Tryz.func45, Tryz.ntmps45
  go_wp2_with fail
  refine Calls.mono HC.out ?_
  rintro e w1 ⟨rfl, hr1, ⟨v1, hg1, hf1⟩, hu1⟩
  have H1 : Hid _ := hr1
  have H2 : Hid (RGu w1 bg bm base v1 (gAt s g addr true).2.2) := hg1
  have H3 : Hid _ := hu1
  have HFR : Hid (Fr w v v1) := hf1
  have p0 : w1.cell? ⟨bg, 0, none⟩ = some (.pointer (some ⟨bm, 0, none⟩)) := hg1.mp.pool
  clear hr1 hg1 hu1 hf1 HC
  generalize hqt : gAt s g addr true = t at *
  clear hqt
  by_cases he : 0 < t.1.2
  · have d5 : decide (0 < t.1.2) = true := by simp; exact he
    rw [if_pos he] at HLL
    go_wp2_with fail
    go_ret
    rw [HLL.out]
    exact ⟨rfl, H1.out, ⟨v1, H2.out, HFR.out⟩, H3.out⟩
  · have d5 : decide (0 < t.1.2) = false := by simp; omega
    rw [if_neg he] at HLL
    obtain ⟨⟨a0, a1⟩, _, _⟩ := HF.out (by omega)
    obtain ⟨k, rfl⟩ := Int.eq_ofNat_of_zero_le a0
    clear HF
    go_wp2_with fail
    refine (rSet_any w1 bm t.1.1 ((k : Int) % 16) x t.2.1 H1.out).mono ?_
    rintro e w2 ⟨rfl, hr2, hu2⟩
    have HA1 : Hid _ := hr2
    have HA2 : Hid _ := H2.out.upd hu2 hne (fun k hk e => (H2.out.nb k hk).2 e)
    have HA3 : Hid _ := H3.out.trans hu2 (fun _ _ e => Or.inl e)
    clear hr2 hu2 p0
    generalize hqs : t.2.1.set t.1.1 ((k : Int) % 16) x = z at *
    clear hqs
    go_wp2_with fail
    go_ret
    rw [HLL.out]
    exact ⟨rfl, HA1.out, ⟨v1, HA2.out, HFR.out⟩, HA3.out⟩
end Go.Proofs.YtadpibcgjgcjhabGreatDoor
/- The document's answer for chapter 4: ForgetOne. -/
namespace Go.Proofs.YtadpibcgjgcjhabGreatDoor
open Go.ChangeShapes Go.WideShapes Go.ChangeAt Go.RowKit
set_option maxRecDepth 100000
attribute [local go_sem ↓] Go.wp_at_zero Go.wp_at_succ

set_option maxHeartbeats 4000000 in
theorem gForget_any (w : World) (bg bm base : Nat) (v : Value) (g : Gs) (addr : Int) (h : RGu w bg bm base v g) (hbm : bm < w.heap.size) (hb : base ≤ w.heap.size) (hl : g.c.length ≤ 4) :
    Calls Tryz.prog 47 #[.pointer (some ⟨bg, 0, none⟩), .int .i64 addr] w fun e w' => e = .returned (.int .i64 (gForget g addr).1) ∧ (∃ v', RGu w' bg bm base v' (gForget g addr).2 ∧ Fr w v v') ∧ Upd (fun k => k = bg) w w' := by
  by_cases ho : addr < 0 ∨ 255 < addr
  · have e : gForget g addr = (1, g) := by unfold gForget; rw [if_pos ho]
    rw [e]
    by_cases h1 : addr < 0
    · have d1 : decide (addr < 0) = true := by simp; exact h1
      go_enter Tryz.func47, Tryz.ntmps47
      go_wp2_with fail
      go_ret
      exact ⟨rfl, ⟨v, h, Fr.refl _ _⟩, Upd.refl _ _⟩
    · have d1 : decide (addr < 0) = false := by simp; omega
      have d2 : decide (255 < addr) = true := by simp; omega
      go_enter Tryz.func47, Tryz.ntmps47
      go_wp2_with fail
      go_ret
      exact ⟨rfl, ⟨v, h, Fr.refl _ _⟩, Upd.refl _ _⟩
  · obtain ⟨k, rfl⟩ := Int.eq_ofNat_of_zero_le (show 0 ≤ addr by omega)
    have hg : gForget g (k : Int) = (0, { g with c := keepTo (fun i => (i : Int) != fndI g.c g.root ((k : Int) / 16)) g.c g.c.length }) := by unfold gForget; rw [if_neg ho]
    rw [hg]
    have d1 : decide ((k : Int) < 0) = false := by simp
    have d2 : decide ((255 : Int) < (k : Int)) = false := by simp; omega
    have hwr : IntKind.i64.wrap ((k : Int) / 16) = (k : Int) / 16 := by rw [IntKind.wrap_i64]; omega
    have c65 := h.c65
    have c66 := h.c66
    have hlt := h.mp.lt
    have hud := (Upd.refl (fun _ => False) w).drew
    have HGd : Hid (RGu w.drew bg bm base v g) := h.upd hud (fun f => f) (fun _ _ f => f)
    have HUd : Hid _ := hud
    have HB : Hid _ := hb
    clear h hud hg hb
    go_enter Tryz.func47, Tryz.ntmps47
    go_wp2_with fail
    go_region_with (first
      | (go_at_call 71; refine (cFind_any _ base v g.c g.root _ HGd.out.sl (by omega)).mono ?_; rintro e w1 ⟨rfl, hw1⟩; subst hw1)
      | (go_at_call 70; refine (cWithout_any _ base v g.c _ HGd.out.sl (by omega)).mono ?_; rintro e w2 ⟨v2, rfl, hs2, hu2⟩; obtain ⟨a2, cap2, rfl, _⟩ := hs2.form; have HG2 : Hid _ := HGd.out.upd hu2 (fun f => f) (fun _ _ f => f); have d65 := HG2.out.c65; have fz := HG2.out.mp.fz 65; have HS2 : Hid _ := hs2; have HU2 : Hid _ := hu2; clear hs2 hu2))
    all_goals
      have hz : w.drew.heap.size = w.heap.size := rfl
      have HR : Hid _ := HG2.out.setC HS2.out (by have := HB.out; omega) (by omega) (by omega)
      have HV : Hid _ := ((HUd.out.trans HU2.out (fun _ _ f => f)).wide (T := fun k => k = bg) (fun _ f => f.elim)).trans (Upd.one _ bg 65 (.slice a2 (keepTo (fun i => (i : Int) != fndI g.c g.root ((k : Int) / 16)) g.c g.c.length).length cap2)) (fun _ _ e => e)
      have HFR : Hid (Fr w v _) := Fr.of HS2.out (Nat.le_of_eq hz.symm)
      clear HG2 HS2 HU2 c65 c66 d65 fz HUd HGd hz
      go_wp2_with fail
      go_ret
      exact ⟨rfl, ⟨_, HR.out, HFR.out⟩, HV.out⟩
end Go.Proofs.YtadpibcgjgcjhabGreatDoor
/- The document's answer for chapter 4: Cached. -/
namespace Go.Proofs.YtadpibcgjgcjhabGreatDoor
open Go.ChangeShapes Go.WideShapes Go.ChangeAt Go.RowKit
set_option maxRecDepth 100000
attribute [local go_sem ↓] Go.wp_at_zero Go.wp_at_succ

def showTo (m : Mp) (es : List En) (k : Nat) : List En := (es.take k).map (gShow m)
end Go.Proofs.YtadpibcgjgcjhabGreatDoor
/- The document's answer for chapter 4: each act of a guest in one form. -/
namespace Go.Proofs.YtadpibcgjgcjhabGreatDoor
open Go.ChangeShapes Go.WideShapes Go.ChangeAt Go.RowKit
set_option maxRecDepth 100000

/-- An act of a guest: what is told, the pool, the guest. -/
def gMap (g : Gs) (r : Int × Pl × Mp) : Int × Pl × Gs := (r.1, r.2.1, { g with m := r.2.2 })
def gPlug (s : Pl) (g : Gs) (n : Int) : Int × Pl × Gs := gMap g (plugR s g.m n)
def gUnplug (s : Pl) (g : Gs) (n : Int) : Int × Pl × Gs := gMap g (unplugR s g.m n)
def gGive (s : Pl) (g : Gs) (n : Int) (back : Bool) : Int × Pl × Gs := gMap g (giveR s g.m n back)
def gJoin (s : Pl) (g : Gs) (n f : Int) : Int × Pl × Gs := gMap g (joinR s g.m n f)
def gSeal (s : Pl) (g : Gs) (n : Int) : Int × Pl × Gs := ((sealR g.m n).1, s, { g with m := (sealR g.m n).2 })
def onS (s : Pl) (r : Int × Gs) : Int × Pl × Gs := (r.1, s, r.2)
theorem plug_rest (s : Pl) (m : Mp) (n : Int) (r : Nat → Option Value) : plugR s { m with rest := r } n = ((plugR s m n).1, (plugR s m n).2.1, { (plugR s m n).2.2 with rest := r }) := by
  unfold plugR
  repeat' split
  all_goals first | rfl | contradiction
theorem unplug_rest (s : Pl) (m : Mp) (n : Int) (r : Nat → Option Value) : unplugR s { m with rest := r } n = ((unplugR s m n).1, (unplugR s m n).2.1, { (unplugR s m n).2.2 with rest := r }) := by
  unfold unplugR
  repeat' split
  all_goals first | rfl | contradiction
theorem give_rest (s : Pl) (m : Mp) (n : Int) (b : Bool) (r : Nat → Option Value) : giveR s { m with rest := r } n b = ((giveR s m n b).1, (giveR s m n b).2.1, { (giveR s m n b).2.2 with rest := r }) := by
  unfold giveR
  repeat' split
  all_goals first | rfl | contradiction
theorem join_rest (s : Pl) (m : Mp) (n f : Int) (r : Nat → Option Value) : joinR s { m with rest := r } n f = ((joinR s m n f).1, (joinR s m n f).2.1, { (joinR s m n f).2.2 with rest := r }) := by
  unfold joinR
  repeat' split
  all_goals first | rfl | contradiction
theorem seal_rest (m : Mp) (n : Int) (r : Nat → Option Value) : sealR { m with rest := r } n = ((sealR m n).1, { (sealR m n).2 with rest := r }) := by
  unfold sealR
  repeat' split
  all_goals first | rfl | contradiction
/-- How an act of the document's guest ends. -/
def RPost (w : World) (bg bm base : Nat) (v : Value) (r : Int × Pl × Gs) (e : Ending) (w' : World) : Prop := e = .returned (.int .i64 r.1) ∧ RefAt w' bm r.2.1 ∧ (∃ v', RGu w' bg bm base v' r.2.2 ∧ Fr w v v') ∧ Upd (fun k => k = bm ∨ k = bg) w w'
/-- Where an act of the document's guest begins. -/
structure RPre (w : World) (bg bm base : Nat) (v : Value) (s : Pl) (g : Gs) (b : Mp) : Prop where
  gu : RGu w bg bm base v g
  ref : RefAt w bm s
  ne : bg ≠ bm
  inv : GInv s g b 1000000
  base : base ≤ w.heap.size
variable {w : World} {bg bm base : Nat} {v : Value} {s : Pl} {g : Gs} {b : Mp}
theorem RPre.m9 (h : RPre w bg bm base v s g b) : ∀ f, f < s.n → s.refs f ≤ 999999 := fun f hf => by have := h.inv.inv.le f hf; omega
theorem RPre.plug (h : RPre w bg bm base v s g b) (n : Int) : Calls Tryz.prog 38 #[.pointer (some ⟨bg, 0, none⟩), .int .i64 n] w (RPost w bg bm base v (gPlug s g n)) := by
  have hg := h.gu
  have := rPlug_any w bg bm n _ s hg.mp h.ref h.ne (fun f hf => by have := h.m9 f hf; omega)
  rw [plug_rest] at this
  refine this.mono ?_
  rintro e w' ⟨he, h1, h2, hu⟩
  exact ⟨he, h1, ⟨v, hg.map hu h2, Fr.refl _ _⟩, hu⟩
theorem RPre.unplug (h : RPre w bg bm base v s g b) (n : Int) : Calls Tryz.prog 37 #[.pointer (some ⟨bg, 0, none⟩), .int .i64 n] w (RPost w bg bm base v (gUnplug s g n)) := by
  have hg := h.gu
  have := rUnplug_any w bg bm n _ s hg.mp h.ref h.ne (fun f hf => by have := h.m9 f hf; omega)
  rw [unplug_rest] at this
  refine this.mono ?_
  rintro e w' ⟨he, h1, h2, hu⟩
  exact ⟨he, h1, ⟨v, hg.map hu h2, Fr.refl _ _⟩, hu⟩
theorem RPre.give (h : RPre w bg bm base v s g b) (n : Int) (back : Bool) : Calls Tryz.prog 40 #[.pointer (some ⟨bg, 0, none⟩), .int .i64 n, .bool back] w (RPost w bg bm base v (gGive s g n back)) := by
  have hg := h.gu
  have := rGive_any w bg bm n back _ s hg.mp h.ref h.ne (fun f hf => by have := h.m9 f hf; omega)
  rw [give_rest] at this
  refine this.mono ?_
  rintro e w' ⟨he, h1, h2, hu⟩
  exact ⟨he, h1, ⟨v, hg.map hu h2, Fr.refl _ _⟩, hu⟩
theorem RPre.join (h : RPre w bg bm base v s g b) (n f : Int) : Calls Tryz.prog 43 #[.pointer (some ⟨bg, 0, none⟩), .int .i64 n, .int .i64 f] w (RPost w bg bm base v (gJoin s g n f)) := by
  have hg := h.gu
  have := rJoin_any w bg bm n f _ s hg.mp h.ref h.ne h.m9
  rw [join_rest] at this
  refine this.mono ?_
  rintro e w' ⟨he, h1, h2, hu⟩
  exact ⟨he, h1, ⟨v, hg.map hu h2, Fr.refl _ _⟩, hu⟩
theorem RPre.seal (h : RPre w bg bm base v s g b) (n : Int) : Calls Tryz.prog 42 #[.pointer (some ⟨bg, 0, none⟩), .int .i64 n] w (RPost w bg bm base v (gSeal s g n)) := by
  have hg := h.gu
  have := rSeal_any w bg bm n _ hg.mp
  rw [seal_rest] at this
  refine this.mono ?_
  rintro e w' ⟨he, h2, hu⟩
  have hu' := hu.wide (T := fun k => k = bm ∨ k = bg) (fun _ e => Or.inr e)
  exact ⟨he, h.ref.upd hu (fun e => h.ne e.symm), ⟨v, hg.map hu' h2, Fr.refl _ _⟩, hu'⟩
theorem RPre.store (h : RPre w bg bm base v s g b) (addr x : Int) : Calls Tryz.prog 45 #[.pointer (some ⟨bg, 0, none⟩), .int .i64 addr, .int .u8 x] w (RPost w bg bm base v (gStore s g addr x)) := by
  have hg := h.gu
  exact gStore_any w bg bm base v g s b addr x hg h.ref h.ne h.inv h.base
theorem RPre.root (h : RPre w bg bm base v s g b) (n : Int) : Calls Tryz.prog 46 #[.pointer (some ⟨bg, 0, none⟩), .int .i64 n] w (RPost w bg bm base v (onS s (gRoot g n))) := by
  have hg := h.gu
  refine (gRoot_any w bg bm base v g n hg).mono ?_
  rintro e w' ⟨he, h2, hu⟩
  exact ⟨he, h.ref.upd hu (fun e => h.ne e.symm), ⟨v, h2, Fr.refl _ _⟩, hu.wide (fun _ e => Or.inr e)⟩
theorem RPre.forget (h : RPre w bg bm base v s g b) (addr : Int) : Calls Tryz.prog 47 #[.pointer (some ⟨bg, 0, none⟩), .int .i64 addr] w (RPost w bg bm base v (onS s (gForget g addr))) := by
  have hg := h.gu
  refine (gForget_any w bg bm base v g addr hg (World.block_lt_of_cell? w _ h.ref.num) h.base h.inv.len).mono ?_
  rintro e w' ⟨he, h2, hu⟩
  exact ⟨he, h.ref.upd hu (fun e => h.ne e.symm), h2, hu.wide (fun _ e => Or.inr e)⟩
theorem RPre.forgetAll (h : RPre w bg bm base v s g b) (n : Int) : Calls Tryz.prog 48 #[.pointer (some ⟨bg, 0, none⟩), .int .i64 n] w (RPost w bg bm base v (onS s (gForgetAll g n))) := by
  have hg := h.gu
  refine (gForgetAll_any w bg bm base v g n hg (World.block_lt_of_cell? w _ h.ref.num) h.base h.inv.len).mono ?_
  rintro e w' ⟨v', he, h2, hu, hf⟩
  exact ⟨he, h.ref.upd hu (fun e => h.ne e.symm), ⟨v', h2, hf⟩, hu.wide (fun _ e => Or.inr e)⟩
theorem RPre.load (h : RPre w bg bm base v s g b) (addr : Int) : Calls Tryz.prog 44 #[.pointer (some ⟨bg, 0, none⟩), .int .i64 addr] w fun e w' =>
    e = .returned (.tuple #[.int .u8 (gLoad s g addr).1.1, .int .i64 (gLoad s g addr).1.2]) ∧ RefAt w' bm (gLoad s g addr).2.1 ∧ (∃ v', RGu w' bg bm base v' (gLoad s g addr).2.2 ∧ Fr w v v') ∧ Upd (fun k => k = bm ∨ k = bg) w w' := by
  have hg := h.gu
  exact gLoad_any w bg bm base v g s b addr hg h.ref h.ne h.inv h.base
/-- What the map's acts keep. -/
theorem GInv.map {W : Int} (h : GInv s g b W) {r : Int × Pl × Mp} (hi : Inv r.2.1 r.2.2 b) (hb : BytOk r.2.1) : GInv (gMap g r).2.1 (gMap g r).2.2 b W := { h with inv := hi, byt := hb }
theorem share_byt (hb : BytOk s) (f d : Int) : BytOk (s.share f d).2 := fun a c => by rw [(share_same s f d).2]; exact hb a c
theorem turn_byt (hb : BytOk s) (m : Mp) (n : Nat) (z : Int) : BytOk (turnP s m n z) := by
  unfold turnP
  split
  · exact share_byt hb _ _
  · exact hb
theorem GInv.plug {W : Int} (h : GInv s g b W) (n : Int) : GInv (gPlug s g n).2.1 (gPlug s g n).2.2 b W := h.map (h.inv.plug n) (by
  unfold plugR
  repeat' split
  all_goals first | exact h.byt | exact turn_byt h.byt _ _ _)
theorem GInv.unplug {W : Int} (h : GInv s g b W) (n : Int) : GInv (gUnplug s g n).2.1 (gUnplug s g n).2.2 b W := h.map (h.inv.unplug n) (by
  unfold unplugR
  repeat' split
  all_goals first | exact h.byt | exact turn_byt h.byt _ _ _)
theorem GInv.give {W : Int} (h : GInv s g b W) (n : Int) (back : Bool) : GInv (gGive s g n back).2.1 (gGive s g n back).2.2 b W := h.map (h.inv.give n back) (by
  unfold giveR
  repeat' split
  all_goals first | exact h.byt | exact turn_byt h.byt _ _ _)
theorem GInv.join {W : Int} (h : GInv s g b W) (n f : Int) : GInv (gJoin s g n f).2.1 (gJoin s g n f).2.2 b W := h.map (h.inv.join n f) (by
  unfold joinR
  repeat' split
  all_goals first | exact h.byt | exact share_byt (share_byt h.byt _ _) _ _)
theorem GInv.seal {W : Int} (h : GInv s g b W) (n : Int) : GInv (gSeal s g n).2.1 (gSeal s g n).2.2 b W := { h with inv := h.inv.seal n }
end Go.Proofs.YtadpibcgjgcjhabGreatDoor
/- A page of a guest of a host turns to another state, plainly. -/
namespace Go.Proofs.YtadpibcgjgcjhabGreatDoor
open Go.RowKit
variable {h : Hs} {t : Nat → Nat → Int} {W W' : Int} {n : Nat} {x : Gs} {f : Fl}

/-- A page leaves its frame. -/
theorem RInv.drop {s : Pl} {L : Nat → Lf} {t : Nat → Nat → Int} (h : RInv s L t) (c : Cn s L) {p : Nat} (hp : p < 64) (ht : (L p).there = true) : RInv (s.share (L p).fr (-1)).2 (setAt L p lf0) (setAt t p fun _ => 0) := by
  rw [share_refs (c.used hp ht)]
  constructor
  · intro k hk
    by_cases e : k = p
    · subst e; rw [setAt_same]; intro t1; simp [lf0] at t1
    · rw [setAt_other _ _ _ _ e]
      intro t1 w1
      have h1 := h.one k hk t1 w1
      have h3 : (L k).fr.toNat ≠ (L p).fr.toNat := fun q => e (c.lone hk hp t1 ht h1 q.symm).symm
      simp only
      rw [setAt_other _ _ _ _ h3]
      exact h1
  · intro k hk t1 i hi
    by_cases e : k = p
    · subst e; rw [setAt_same]
    · rw [setAt_other _ _ _ _ e] at t1 ⊢
      exact h.out k hk t1 i hi
  · intro k hk
    by_cases e : k = p
    · subst e; rw [setAt_same]; intro t1; simp [lf0] at t1
    · rw [setAt_other _ _ _ _ e]
      intro t1 i hi
      rw [setAt_other _ _ _ _ e]
      exact h.byt k hk t1 i hi
/-- A page that is in no frame has noughts, whatever is said of it. -/
theorem RInv.zero {s : Pl} {L : Nat → Lf} {t : Nat → Nat → Int} (h : RInv s L t) {p : Nat} (ht : (L p).there = false) : RInv s L (setAt t p fun _ => 0) := by
  refine ⟨h.one, fun k hk t1 i hi => ?_, fun k hk t1 i hi => ?_⟩
  · by_cases e : k = p
    · subst e; rw [setAt_same]
    · rw [setAt_other _ _ _ _ e]; exact h.out k hk t1 i hi
  · by_cases e : k = p
    · subst e; rw [ht] at t1; simp at t1
    · rw [setAt_other _ _ _ _ e]; exact h.byt k hk t1 i hi
def fTurn (f : Fl) (k : Nat) (z : Int) : Fl := { f with st := setAt f.st k z, b := setAt f.b k fun _ => 0 }
/-- A guest's page turns. -/
def gTurn (s : Pl) (x : Gs) (k : Nat) (z : Int) : Pl × Gs := (turnP s x.m k z, { x with m := turnM x.m k z })
theorem turnP_n (s : Pl) (m : Mp) (k : Nat) (z : Int) : (turnP s m k z).n = s.n := by
  unfold turnP
  split
  · exact share_n _ _ _
  · rfl
theorem rowS_one {k : Nat} {y : Gs} {s' : Pl} {z : Int} (hx : h.g n = some x) (hk : k < 16) (hy : y.m.st = setAt x.m.st k z) : rowS (h.put n (s', y)) = setAt (rowS h) (16 * n + k) z := by
  funext i
  rw [rowS_put]
  by_cases e : i / 16 = n
  · rw [if_pos e]
    show y.m.st (i % 16) = _
    rw [hy]
    by_cases e2 : i = 16 * n + k
    · subst e2
      rw [setAt_same, show (16 * n + k) % 16 = k by omega, setAt_same]
    · rw [setAt_other _ _ _ _ e2, setAt_other _ _ _ _ (by omega)]
      have := rowS_at hx (j := i % 16) (by omega)
      rw [show 16 * n + i % 16 = i by omega] at this
      exact this.symm
  · rw [if_neg e, setAt_other _ _ _ _ (by omega)]
/-- What holds of a host's pages, but for how many are promised. -/
structure HQ (h : Hs) (t : Nat → Nat → Int) (W : Int) : Prop where
  inv : HInv h W
  ri : RInv h.s (rowL h) t
theorem HR.hq (hr : HR h t W) : HQ h t W := ⟨hr.inv, hr.ri⟩
theorem HQ.turn (hr : HQ h t W) (hx : h.g n = some x) {k : Nat} (hk : k < 16) {z : Int} (z0 : 0 ≤ z) (z2 : z ≤ 2) (hz : z = 1 → x.m.st k ≠ 1) :
    HQ (h.put n (gTurn h.s x k z)) (setAt t (16 * n + k) fun _ => 0) W ∧ rowS (h.put n (gTurn h.s x k z)) = setAt (rowS h) (16 * n + k) z ∧ (h.put n (gTurn h.s x k z)).s.n = h.s.n := by
  obtain ⟨hn, ok⟩ := hr.inv.gi n x hx
  have hgi := hr.inv.ginv hx
  have hL := rowL_at hx hk
  have hinv := hgi.inv.turn hk z z0 z2
  have hgt : GInv (gTurn h.s x k z).1 (gTurn h.s x k z).2 (oth h n) W := { hgi with inv := hinv, byt := turn_byt hgi.byt x.m k z }
  refine ⟨⟨hr.inv.put hx hgt ok.di (turnP_n _ _ _ _) (Int.le_refl _), ?_⟩, rowS_one hx hk rfl, turnP_n _ _ _ _⟩
  show RInv (turnP h.s x.m k z) (rowL (h.put n (gTurn h.s x k z))) _
  by_cases hc : ((x.m.lf k).there && !(z == 1)) = true
  · have hlf : (gTurn h.s x k z).2.m.lf = setAt x.m.lf k lf0 := by
      show (turnM x.m k z).lf = _
      unfold turnM
      simp only [hc, if_true]
    rw [show h.put n (gTurn h.s x k z) = h.put n ((gTurn h.s x k z).1, (gTurn h.s x k z).2) from rfl, row_one hx hk hlf]
    unfold turnP
    rw [if_pos hc, ← hL]
    exact hr.ri.drop hr.inv.cn (by omega) (by rw [hL]; simp at hc; exact hc.1)
  · have hlf : (gTurn h.s x k z).2.m.lf = x.m.lf := by
      show (turnM x.m k z).lf = _
      unfold turnM
      simp only [hc, Bool.false_eq_true, if_false]
    rw [show h.put n (gTurn h.s x k z) = h.put n ((gTurn h.s x k z).1, (gTurn h.s x k z).2) from rfl, row_same hx hlf]
    unfold turnP
    rw [if_neg hc]
    refine hr.ri.zero ?_
    rw [hL]
    cases ht : (x.m.lf k).there with
    | false => rfl
    | true =>
      exfalso
      have hp := ok.pg.plain hk ht
      rw [ht] at hc
      by_cases e : z = 1
      · exact hz e hp
      · simp [e] at hc
theorem FR.turn (hf : FR n x t f) (s : Pl) {k : Nat} (hk : k < 16) (z : Int) : FR n (gTurn s x k z).2 (setAt t (16 * n + k) fun _ => 0) (fTurn f k z) := by
  refine ⟨fun j hj => ?_, fun j i hj hi => ?_, hf.root, hf.c⟩
  · show setAt f.st k z j = setAt x.m.st k z j
    by_cases e : j = k
    · subst e; rw [setAt_same, setAt_same]
    · rw [setAt_other _ _ _ _ e, setAt_other _ _ _ _ e]; exact hf.st j hj
  · show setAt f.b k (fun _ => 0) j i = _
    by_cases e : j = k
    · subst e; rw [setAt_same, setAt_same]
    · rw [setAt_other _ _ _ _ e, setAt_other _ _ _ _ (by omega)]; exact hf.b j i hj hi
/-- Another guest's view is as it was. -/
theorem FR.other {m : Nat} {y : Gs} {t' : Nat → Nat → Int} (hf : FR m y t f) (ht : ∀ p, p / 16 = m → t' p = t p) : FR m y t' f :=
  ⟨hf.st, fun k i hk hi => by rw [ht (16 * m + k) (by omega)]; exact hf.b k i hk hi, hf.root, hf.c⟩
theorem pln_set (S : Nat → Int) (p : Nat) (z : Int) : ∀ K, p < K → pln (setAt S p z) K + (if S p = 1 then 1 else 0) = pln S K + (if z = 1 then 1 else 0)
  | 0, h => absurd h (by omega)
  | K + 1, h => by
    simp only [pln]
    by_cases e : K = p
    · subst e
      have : pln (setAt S K z) K = pln S K := by
        have aux : ∀ j, j ≤ K → pln (setAt S K z) j = pln S j := by
          intro j
          induction j with
          | zero => intro _; rfl
          | succ j ih => intro hj; simp only [pln]; rw [ih (by omega), setAt_other _ _ _ _ (by omega)]
        exact aux K (Nat.le_refl _)
      rw [this, setAt_same]
      omega
    · have := pln_set S p z K (by omega)
      rw [setAt_other _ _ _ _ e]
      omega
end Go.Proofs.YtadpibcgjgcjhabGreatDoor
/- A host's acts, plainly (chapter 5), and what its guests see of them. -/
namespace Go.Proofs.YtadpibcgjgcjhabGreatDoor
open Go.RowKit

/-- What is wrong with a guest's number. -/
def hWho (h : Hs) (n : Int) : Int := if n < 0 ∨ 3 < n then 1 else match h.g n.toNat with
  | none => 2
  | some _ => 0
def hAt (h : Hs) (n : Int) : Gs := (h.g n.toNat).getD gs0
/-- An act of a guest. -/
def hAct (h : Hs) (n : Int) (r : Pl → Gs → Int × Pl × Gs) : Int × Hs := if 0 < hWho h n then (hWho h n, h) else ((r h.s (hAt h n)).1, h.put n.toNat (r h.s (hAt h n)).2)
def hLoad (h : Hs) (n addr : Int) : (Int × Int) × Hs := if 0 < hWho h n then ((0, hWho h n), h) else ((gLoad h.s (hAt h n) addr).1, h.put n.toNat (gLoad h.s (hAt h n) addr).2)
def hStore (h : Hs) (n addr v : Int) : Int × Hs := hAct h n fun s x => gStore s x addr v
def hRoot (h : Hs) (n p : Int) : Int × Hs := hAct h n fun s x => onS s (gRoot x p)
def hForget (h : Hs) (n addr : Int) : Int × Hs := hAct h n fun s x => onS s (gForget x addr)
def hDrop (h : Hs) (n r : Int) : Int × Hs := hAct h n fun s x => onS s (gForgetAll x r)
/-- The lowest number that is free. -/
def hFree (h : Hs) : Option Nat := if h.g 0 = none then some 0 else if h.g 1 = none then some 1 else if h.g 2 = none then some 2 else if h.g 3 = none then some 3 else none
def hAdd (h : Hs) : (Int × Int) × Hs := match hFree h with
  | some i => (((i : Int), 0), ⟨h.s, setAt h.g i (some gs0)⟩)
  | none => ((0, 4), h)
/-- Pages are plugged and unplugged four at once. -/
def Blk (x : Gs) : Prop := ∀ b j, b < 4 → j < 4 → (x.m.st (4 * b) = 0 ↔ x.m.st (4 * b + j) = 0)
/-- A host, the bytes of its pages, and what each guest may see. -/
structure HF (h : Hs) (t : Nat → Nat → Int) (F : Nat → Option Fl) (W : Int) : Prop where
  hr : HR h t W
  blk : ∀ i x, h.g i = some x → Blk x
  non : ∀ i, h.g i = none ↔ F i = none
  fl : ∀ i x f, h.g i = some x → F i = some f → FR i x t f
variable {h : Hs} {t t' : Nat → Nat → Int} {F : Nat → Option Fl} {W W' : Int} {n : Nat} {x y : Gs} {f f' : Fl} {s' : Pl}
theorem hWho_some (hx : h.g n = some x) (hn : n < 4) : hWho h n = 0 ∧ hAt h n = x := by
  unfold hWho hAt
  rw [if_neg (by omega), Int.toNat_natCast, hx]
  exact ⟨rfl, rfl⟩
/-- A guest's number that may be used. -/
theorem hWho_zero {n : Int} (hw : hWho h n = 0) : ∃ (k : Nat) (x : Gs), n = (k : Int) ∧ k < 4 ∧ h.g k = some x ∧ hAt h n = x := by
  unfold hWho at hw
  split at hw
  · omega
  · next hn =>
    obtain ⟨k, rfl⟩ := Int.eq_ofNat_of_zero_le (show 0 ≤ n by omega)
    rw [Int.toNat_natCast] at hw
    cases hx : h.g k with
    | none => rw [hx] at hw; simp at hw
    | some x => exact ⟨k, x, rfl, by omega, hx, by unfold hAt; rw [Int.toNat_natCast, hx]; rfl⟩
theorem hWho_le (n : Int) : 0 ≤ hWho h n := by
  unfold hWho
  split
  · omega
  · split <;> omega
/-- One guest's act. -/
theorem HF.put (hf : HF h t F W) (hx : h.g n = some x) (hr : HR (h.put n (s', y)) t' W') (hb : Blk y) (hy : FR n y t' f') (ht : ∀ p, p / 16 ≠ n → t' p = t p) : HF (h.put n (s', y)) t' (setAt F n (some f')) W' := by
  refine ⟨hr, fun i z hz => ?_, fun i => ?_, fun i z q hz hq => ?_⟩
  · by_cases e : i = n
    · subst e; rw [put_at] at hz; cases hz; exact hb
    · have hz' : h.g i = some z := by rw [← hz]; exact (setAt_other _ _ _ _ e).symm
      exact hf.blk i z hz'
  · by_cases e : i = n
    · subst e; rw [put_at, setAt_same]; simp
    · rw [setAt_other _ _ _ _ e]
      show setAt h.g n (some y) i = none ↔ _
      rw [setAt_other _ _ _ _ e]
      exact hf.non i
  · by_cases e : i = n
    · subst e; rw [put_at] at hz; rw [setAt_same] at hq; cases hz; cases hq; exact hy
    · have hz' : h.g i = some z := by rw [← hz]; exact (setAt_other _ _ _ _ e).symm
      rw [setAt_other _ _ _ _ e] at hq
      exact (hf.fl i z q hz' hq).other (fun p hp => ht p (by omega))
theorem HF.view (hf : HF h t F W) (hx : h.g n = some x) : ∃ f, F n = some f ∧ FR n x t f := by
  cases hq : F n with
  | none => have := (hf.non n).2 hq; rw [hx] at this; cases this
  | some f => exact ⟨f, rfl, hf.fl n x f hx hq⟩
theorem blk_same (hb : Blk x) (hs : y.m.st = x.m.st) : Blk y := fun b j h1 h2 => by rw [hs]; exact hb b j h1 h2
theorem at_st (s : Pl) (x : Gs) (addr : Int) (wt : Bool) : (gAt s x addr wt).2.2.m.st = x.m.st := by
  have step : ∀ (s : Pl) (x : Gs) (y : En) (fd : Bool), (gStep s x y fd wt).2.2.m.st = x.m.st := by
    intro s x y fd
    have := touch_st s x.m y.dest wt
    unfold gStep
    repeat' split
    all_goals first | rfl | exact this
  unfold gAt
  have ht := touch_st s x.m (addr / 16) wt
  have hr := touch_st s x.m x.root false
  repeat' split
  · rfl
  · exact ht
  · exact step _ _ _ _
  · unfold gWalk
    repeat' split
    · exact hr
    · exact hr
    · rw [step]; exact hr
theorem HF.load (hf : HF h t F W) (hx : h.g n = some x) (hq : F n = some f) (addr : Int) : (gLoad h.s x addr).1 = (fLoad f addr).1 ∧ HF (h.put n (gLoad h.s x addr).2) t (setAt F n (some (fLoad f addr).2)) (W + 1) := by
  obtain ⟨e, h1, h2⟩ := load_ok hf.hr hx (hf.fl n x f hx hq) addr
  refine ⟨e, hf.put hx h1 (blk_same (hf.blk n x hx) ?_) h2 (fun _ _ => rfl)⟩
  unfold gLoad
  split <;> exact at_st _ _ _ _
theorem HF.store (hf : HF h t F W) (hx : h.g n = some x) (hq : F n = some f) (addr v : Int) (v0 : 0 ≤ v) (v1 : v ≤ 255) : (gStore h.s x addr v).1 = (fStore f addr v).1 ∧ ∃ t', HF (h.put n (gStore h.s x addr v).2) t' (setAt F n (some (fStore f addr v).2)) (W + 1) := by
  obtain ⟨e, t', h1, h2, h3⟩ := store_ok hf.hr hx (hf.fl n x f hx hq) addr v v0 v1
  refine ⟨e, t', hf.put hx h1 (blk_same (hf.blk n x hx) ?_) h2 h3⟩
  unfold gStore
  split <;> exact at_st _ _ _ _
def fRoot (f : Fl) (n : Int) : Int × Fl := if n < -1 ∨ 15 < n then (1, f) else (0, { f with root := n })
def fForget (f : Fl) (addr : Int) : Int × Fl := if addr < 0 ∨ 255 < addr then (1, f) else (0, { f with c := flt (isAt f.root (addr / 16)) f.c })
def fDrop (f : Fl) (n : Int) : Int × Fl := if onB n then (0, { f with c := flt (fun x => x.root == n) f.c }) else (1, f)
theorem HR.proc {y : Gs} (hr : HR h t W) (hx : h.g n = some x) (hm : y.m = x.m) (hg : GInv h.s y (oth h n) W) (hd : Dist y.c) : HR (h.put n (h.s, y)) t W := hr.own hx hm hg hd (Int.le_refl _)
theorem HF.root (hf : HF h t F W) (hx : h.g n = some x) (hq : F n = some f) (p : Int) : (gRoot x p).1 = (fRoot f p).1 ∧ HF (h.put n (h.s, (gRoot x p).2)) t (setAt F n (some (fRoot f p).2)) W := by
  have hv := hf.fl n x f hx hq
  have hg := (hf.hr.inv.ginv hx).root p
  have hd := (hf.hr.inv.gi n x hx).2.di
  have hm : (gRoot x p).2.m = x.m ∧ (gRoot x p).2.c = x.c := by unfold gRoot; split <;> exact ⟨rfl, rfl⟩
  refine ⟨?_, hf.put hx (hf.hr.proc hx hm.1 hg (by rw [hm.2]; exact hd)) (blk_same (hf.blk n x hx) (by rw [hm.1])) ?_ (fun _ _ => rfl)⟩
  · unfold gRoot fRoot; split <;> rfl
  · unfold gRoot fRoot
    split
    · exact hv
    · exact ⟨hv.st, hv.b, rfl, hv.c⟩
theorem HF.forget (hf : HF h t F W) (hx : h.g n = some x) (hq : F n = some f) (p : Int) : (gForget x p).1 = (fForget f p).1 ∧ HF (h.put n (h.s, (gForget x p).2)) t (setAt F n (some (fForget f p).2)) W := by
  have hv := hf.fl n x f hx hq
  have hg := (hf.hr.inv.ginv hx).forget p
  have hd := (hf.hr.inv.gi n x hx).2.di
  have hm : (gForget x p).2.m = x.m := by unfold gForget; split <;> rfl
  refine ⟨?_, hf.put hx (hf.hr.proc hx hm hg (forget_dist hd p)) (blk_same (hf.blk n x hx) (by rw [hm])) ?_ (fun _ _ => rfl)⟩
  · unfold gForget fForget; split <;> rfl
  · unfold gForget fForget
    split
    · exact hv
    · refine ⟨hv.st, hv.b, hv.root, ?_⟩
      show flt (isAt f.root (p / 16)) f.c = keepTo _ _ _
      rw [keep_drop hd, hv.root, hv.c]
theorem HF.drop (hf : HF h t F W) (hx : h.g n = some x) (hq : F n = some f) (p : Int) : (gForgetAll x p).1 = (fDrop f p).1 ∧ HF (h.put n (h.s, (gForgetAll x p).2)) t (setAt F n (some (fDrop f p).2)) W := by
  have hv := hf.fl n x f hx hq
  have hg := (hf.hr.inv.ginv hx).forgetAll p
  have hd := (hf.hr.inv.gi n x hx).2.di
  have hm : (gForgetAll x p).2.m = x.m := by unfold gForgetAll; split <;> rfl
  refine ⟨?_, hf.put hx (hf.hr.proc hx hm hg (forgetAll_dist hd p)) (blk_same (hf.blk n x hx) (by rw [hm])) ?_ (fun _ _ => rfl)⟩
  · unfold gForgetAll fDrop; split <;> rfl
  · unfold gForgetAll fDrop
    split
    · refine ⟨hv.st, hv.b, hv.root, ?_⟩
      show flt (fun x => x.root == p) f.c = keepTo _ _ _
      rw [keep_forget, hv.c]
    · exact hv
end Go.Proofs.YtadpibcgjgcjhabGreatDoor
