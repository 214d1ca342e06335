/- The document's answer for chapter 4: At, where the table is read. -/
import Derived.Test.YtadpibcgjgcjhabGreatDoorGuB
import Derived.Test.YtadpibcgjgcjhabGreatDoorGuP
namespace Go.Proofs.YtadpibcgjgcjhabGreatDoor
open Go.ChangeShapes Go.WideShapes Go.ChangeAt Go.RowKit
set_option maxRecDepth 100000
attribute [local go_sem ↓] Go.wp_at_zero Go.wp_at_succ

set_option maxHeartbeats 4000000 in
theorem gAt_walk (w : World) (bg bm base : Nat) (v : Value) (g : Gs) (s : Pl) (b : Mp) (k : Nat) (wt : Bool) (h : RGu w bg bm base v g) (hr : RefAt w bm s) (hne : bg ≠ bm) (hi : Inv s g.m b) (hk : k ≤ 255) (hroot : g.root ≠ -1) (hf : fndI g.c g.root ((k : Int) / 16) = -1) (hl : g.c.length ≤ 4) (hb : base ≤ w.heap.size) (hby : BytOk s) (hw0 : 0 ≤ g.walks) (hw1 : g.walks ≤ 1000000) :
    Calls Tryz.prog 68 #[.pointer (some ⟨bg, 0, none⟩), .int .i64 (k : Int), .bool wt] w fun e w' =>
      e = .returned (.tuple #[.int .i64 (gWalk s g ((k : Int) / 16) wt).1.1, .int .i64 (gWalk s g ((k : Int) / 16) wt).1.2]) ∧ RefAt w' bm (gWalk s g ((k : Int) / 16) wt).2.1 ∧ (∃ v', RGu w' bg bm base v' (gWalk s g ((k : Int) / 16) wt).2.2 ∧ Fr w v v') ∧ Upd (fun k => k = bm ∨ k = bg) w w' := by
  have c65 := h.c65
  have c66 := h.c66
  have HH : Hid _ := h
  have HR : Hid _ := hr
  have HI : Hid _ := hi
  have HF : Hid _ := hf
  have HBY : Hid (BytOk s) := hby
  have HB : Hid _ := hb
  have d1 : decide ((k : Int) < 0) = false := by simp
  have d2 : decide ((255 : Int) < (k : Int)) = false := by simp; omega
  have d3 : (g.root == -1) = false := beq_eq_false_iff_ne.2 hroot
  clear h hr hi hf hroot hby hb
  go_enter Tryz.func68, Tryz.ntmps68
  go_wp2_with fail
  go_region_held3 (fun w' => w'.cell? ⟨bg, 65, none⟩ = some v ∧ w'.cell? ⟨bg, 66, none⟩ = some (.int .i64 g.root)) (first | exact ⟨c65, c66⟩)
    (first
      | (go_at_call 71; refine (cFind_any _ base v g.c g.root _ (HH.out.sl.upd ((Upd.refl (fun _ => False) w).drew) (fun _ _ f => f)) (by omega)).mono ?_; rintro e w1 ⟨rfl, hw1⟩; subst hw1; rw [HF.out]))
  have hu0 := (Upd.refl (fun _ => False) w).drew
  have HH1 : Hid _ := HH.out.upd hu0 (fun f => f) (fun _ _ f => f)
  have HR1 : Hid _ := HR.out.upd hu0 (fun f => f)
  have HU1 : Hid _ := hu0
  have HB1 : Hid (base ≤ w.drew.heap.size) := HB.out
  clear c65 c66 HH HR hu0 HF HB
  revert HB1
  revert HU1
  revert HR1
  revert HH1
  generalize w.drew = w1
  intro HH1 HR1 HU1 HB1
  have hua := (Upd.refl (fun _ => False) w1).alloc (.cells #[.int .i64 0, .int .i64 0, .int .i64 0, .bool false, .bool false, .bool false, .int .i64 0] 151)
  have HH2 : Hid _ := HH1.out.upd hua (fun f => f) (fun _ _ f => f)
  have HR2 : Hid _ := HR1.out.upd hua (fun f => f)
  have HU2 : Hid _ := HU1.out.trans hua (fun _ _ f => f)
  have HX : Hid (∀ j, j < 7 → (w1.alloc (.cells #[.int .i64 0, .int .i64 0, .int .i64 0, .bool false, .bool false, .bool false, .int .i64 0] 151)).cell? ⟨w1.heap.size, j, none⟩ = (enCells en0)[j]?) := by
    show ∀ j, _ → _
    intro j _
    rw [World.cell?_alloc_new]
    show (enCells en0).toArray[j]? = _
    simp
  have HXF : Hid (∀ j, (w1.alloc (.cells #[.int .i64 0, .int .i64 0, .int .i64 0, .bool false, .bool false, .bool false, .int .i64 0] 151)).frozen? ⟨w1.heap.size, j, none⟩ = false) := fun j => World.frozen?_alloc_new _ _ _ _
  have HVQ : Hid (∀ k, v.ownBlock = some k → k < w1.heap.size) := fun k hk => (HH1.out.sl.ownLt hk).2
  have HXL : Hid (w1.heap.size < (w1.alloc (.cells #[.int .i64 0, .int .i64 0, .int .i64 0, .bool false, .bool false, .bool false, .int .i64 0] 151)).heap.size) := by show _ < _; simp
  have r66 : (w1.alloc (.cells #[.int .i64 0, .int .i64 0, .int .i64 0, .bool false, .bool false, .bool false, .int .i64 0] 151)).cell? ⟨bg, 66, none⟩ = some (.int .i64 g.root) := HH2.out.c66
  have HWQ : Hid (w.heap.size ≤ w1.heap.size) := HU1.out.size
  have hqg : bg < w1.heap.size := HH1.out.mp.lt
  have hqm : bm < w1.heap.size := World.block_lt_of_cell? w1 _ HR1.out.num
  clear hua HH1 HR1 HU1
  go_wp2_with fail
  revert r66
  revert HXL
  revert HVQ
  revert HXF
  revert HX
  revert HU2
  revert HR2
  revert HH2
  generalize w1.alloc (.cells #[.int .i64 0, .int .i64 0, .int .i64 0, .bool false, .bool false, .bool false, .int .i64 0] 151) = w2
  generalize hqq : w1.heap.size = q at *
  clear hqq
  intro HH2 HR2 HU2 HX HXF HVQ HXL r66
  have nq : ¬ (q = bm ∨ q = bg) := by omega
  have hud := (Upd.refl (fun _ => False) w2).drew
  have HHd : Hid _ := HH2.out.upd hud (fun f => f) (fun _ _ f => f)
  have HRd : Hid _ := HR2.out.upd hud (fun f => f)
  have HUd : Hid _ := HU2.out.trans hud (fun _ _ f => f)
  clear hud HH2 HR2 HU2
  have hcode := touch_code s g.m g.root false
  go_region_held3 (fun w' => w'.cell? ⟨bg, 66, none⟩ = some (.int .i64 g.root)) (first | exact r66 | exact r67)
    (first
      | (go_at_call 98; refine (gTouch_any _ bg bm base _ g s b _ _ HHd.out HRd.out hne HI.out).mono ?_; rintro e w3 ⟨rfl, hr3, hg3, hu3⟩; have r67 : w3.cell? ⟨bg, 66, none⟩ = some (.int .i64 g.root) := hg3.c66))
  have H1 : Hid _ := hr3
  have H2 : Hid (RGu w3 bg bm base v (gTouch s g g.root false).2.2) := hg3
  have H3 : Hid _ := (HUd.out.wide (T := fun k => k = bm ∨ k = bg) (fun _ f => f.elim)).trans hu3 (fun _ _ e => e)
  have HX3 : Hid (∀ j, j < 7 → w3.cell? ⟨q, j, none⟩ = (enCells en0)[j]?) := by
    show ∀ j, _ → _
    intro j hj
    obtain ⟨z, hz⟩ : ∃ z, (enCells en0)[j]? = some z := ⟨_, List.getElem?_eq_getElem (show j < (enCells en0).length from hj)⟩
    rw [hz]
    exact hu3.cell ((HX.out j hj).trans hz) nq
  have HXF3 : Hid (∀ j, w3.frozen? ⟨q, j, none⟩ = false) := by
    show ∀ j, _
    intro j
    rw [World.frozen?_of_block (w := w2.drew) (hu3.block q HXL.out nq)]
    exact HXF.out j
  have hwk : gWalk s g ((k : Int) / 16) wt = if 0 < (gTouch s g g.root false).1.2 then ((0, (gTouch s g g.root false).1.2), (gTouch s g g.root false).2) else if (gTouch s g g.root false).2.1.byt (gTouch s g g.root false).1.1.toNat ((k : Int) / 16).toNat < 128 then ((0, 5), (gTouch s g g.root false).2.1, { (gTouch s g g.root false).2.2 with walks := g.walks + 1 }) else gStep (gTouch s g g.root false).2.1 { (gTouch s g g.root false).2.2 with walks := g.walks + 1 } (gEn g.root ((k : Int) / 16) ((gTouch s g g.root false).2.1.byt (gTouch s g g.root false).1.1.toNat ((k : Int) / 16).toNat)) false wt := rfl
  have HWK : Hid _ := hwk
  have HTF : Hid ((gTouch s g g.root false).1.2 = 0 → 0 ≤ (gTouch s g g.root false).1.1 ∧ (gTouch s g g.root false).1.1 < (gTouch s g g.root false).2.1.n) := fun he => by have := touch_frame HI.out g.root false he; exact ⟨this.1, this.2.1⟩
  have HBT : Hid (BytOk (gTouch s g g.root false).2.1) := HBY.out.touch g.m g.root false
  have HIT : Hid (Inv (gTouch s g g.root false).2.1 (gTouch s g g.root false).2.2.m b) := HI.out.touch g.root false
  have hgw : (gTouch s g g.root false).2.2.walks = g.walks := rfl
  have hgr : (gTouch s g g.root false).2.2.root = g.root := rfl
  have hgc : (gTouch s g g.root false).2.2.c = g.c := rfl
  have hcode : 0 ≤ (gTouch s g g.root false).1.2 := hcode
  clear hr3 hg3 hu3 HHd HRd HUd hwk HX HXF HXL r66
  generalize hqt : gTouch s g g.root false = t at *
  clear hqt
  generalize (touchR s g.m g.root false).1.2.1 = mv
  by_cases he : 0 < t.1.2
  · have d5 : decide (0 < t.1.2) = true := by simp; exact he
    rw [if_pos he] at HWK
    go_wp2_with fail
    go_ret2
    rw [HWK.out]
    exact ⟨rfl, H1.out, ⟨v, H2.out, Fr.refl _ _⟩, H3.out⟩
  · have d5 : decide (0 < t.1.2) = false := by simp; omega
    rw [if_neg he] at HWK
    obtain ⟨f0, f1⟩ := HTF.out (by omega)
    obtain ⟨⟨⟨fi, te⟩, s1, g1⟩, ht⟩ : ∃ z, z = t := ⟨t, rfl⟩
    subst ht
    obtain ⟨f, rfl⟩ := Int.eq_ofNat_of_zero_le f0
    have f1 : (f : Int) < s1.n := f1
    have hfn : f < s1.n := by omega
    have HA1 : Hid (RefAt w3 bm s1) := H1
    have HA2 : Hid (RGu w3 bg bm base v g1) := H2
    have HB2 : Hid (BytOk s1) := HBT
    have HI2 : Hid (Inv s1 g1.m b) := HIT
    have kgw : g1.walks = g.walks := hgw
    have kgr : g1.root = g.root := hgr
    have kgc : g1.c = g.c := hgc
    have d7 : decide (0 < te) = false := d5
    have H3b : Hid (Upd (fun k => k = bm ∨ k = bg) w w3) := H3.out
    clear hgw hgr hgc d5 HBT HIT H1 H2 H3
    have hk16 : k / 16 < 16 := by omega
    have hkk : ((k : Int) / 16).toNat = k / 16 := by omega
    have p0 : w3.cell? ⟨bg, 0, none⟩ = some (.pointer (some ⟨bm, 0, none⟩)) := HA2.out.mp.pool
    have b0 := HA1.out.byt f (k / 16) hfn hk16
    have hle64 : s1.n ≤ 64 := HA1.out.le
    obtain ⟨bl, bh⟩ := HB2.out f (k / 16)
    have wk : w3.cell? ⟨bg, 67, none⟩ = some (.int .i64 g.walks) := by have := HA2.out.c67; rw [kgw] at this; exact this
    have wz : w3.frozen? ⟨bg, 67, none⟩ = false := HA2.out.mp.fz 67
    have i0 : (0 : Int) ≤ (f : Int) := by omega
    have i1 : (f : Int) < 64 := by omega
    have i2 : (0 : Int) ≤ (k : Int) / 16 := by omega
    have i3 : (k : Int) / 16 < 16 := by omega
    have HW2 : Hid (gWalk s g ((k : Int) / 16) wt = if s1.byt f (k / 16) < 128 then ((0, 5), s1, { g1 with walks := g.walks + 1 }) else gStep s1 { g1 with walks := g.walks + 1 } (gEn g.root ((k : Int) / 16) (s1.byt f (k / 16))) false wt) := by
      show _ = _
      have := HWK.out
      simp only [hkk, Int.toNat_natCast] at this
      exact this
    have hu4 := Upd.one w3 bg 67 (.int .i64 (g.walks + 1))
    have HH4 : Hid _ := HA2.out.setWalks (g.walks + 1)
    have HR4 : Hid _ := HA1.out.upd hu4 (fun e => hne e.symm)
    have HU4 : Hid _ := H3b.out.trans hu4 (fun _ _ e => Or.inr e)
    have HX4 : Hid (∀ j, j < 7 → (w3.setCell ⟨bg, 67, none⟩ (.int .i64 (g.walks + 1))).cell? ⟨q, j, none⟩ = (enCells en0)[j]?) := by
      show ∀ j, _ → _
      intro j hj
      rw [World.cell?_setCell_other _ _ _ _ (addr_ne (Or.inl (by omega)))]
      exact HX3.out j hj
    have HXF4 : Hid (∀ j, (w3.setCell ⟨bg, 67, none⟩ (.int .i64 (g.walks + 1))).frozen? ⟨q, j, none⟩ = false) := by
      show ∀ j, _
      intro j
      rw [World.frozen?_setCell]
      exact HXF3.out j
    have r4 : (w3.setCell ⟨bg, 67, none⟩ (.int .i64 (g.walks + 1))).cell? ⟨bg, 66, none⟩ = some (.int .i64 g.root) := by have := HH4.out.c66; rw [show ({ g1 with walks := g.walks + 1 } : Gs).root = g.root from kgr] at this; exact this
    clear hu4 HA1 HA2 H3b HX3 HXF3 HTF HBY HI he f0 hcode HWK
    generalize s1.byt f (k / 16) = bb at *
    by_cases h128 : bb < 128
    · have d6 : decide (bb < 128) = true := by simp; exact h128
      rw [if_pos h128] at HW2
      go_wp2_with fail
      go_ret2
      rw [HW2.out]
      exact ⟨rfl, HR4.out, ⟨v, HH4.out, Fr.refl _ _⟩, HU4.out⟩
    · have d6 : decide (bb < 128) = false := by simp; omega
      rw [if_neg h128] at HW2
      have z0 : (w3.setCell ⟨bg, 67, none⟩ (.int .i64 (g.walks + 1))).cell? ⟨q, 0, none⟩ = some (.int .i64 0) := HX4.out 0 (by omega)
      have z1 : (w3.setCell ⟨bg, 67, none⟩ (.int .i64 (g.walks + 1))).cell? ⟨q, 1, none⟩ = some (.int .i64 0) := HX4.out 1 (by omega)
      have z2 : (w3.setCell ⟨bg, 67, none⟩ (.int .i64 (g.walks + 1))).cell? ⟨q, 2, none⟩ = some (.int .i64 0) := HX4.out 2 (by omega)
      have z3 : (w3.setCell ⟨bg, 67, none⟩ (.int .i64 (g.walks + 1))).cell? ⟨q, 3, none⟩ = some (.bool false) := HX4.out 3 (by omega)
      have z4 : (w3.setCell ⟨bg, 67, none⟩ (.int .i64 (g.walks + 1))).cell? ⟨q, 4, none⟩ = some (.bool false) := HX4.out 4 (by omega)
      have z5 : (w3.setCell ⟨bg, 67, none⟩ (.int .i64 (g.walks + 1))).cell? ⟨q, 5, none⟩ = some (.bool false) := HX4.out 5 (by omega)
      have z6 : (w3.setCell ⟨bg, 67, none⟩ (.int .i64 (g.walks + 1))).cell? ⟨q, 6, none⟩ = some (.int .i64 0) := HX4.out 6 (by omega)
      have zf := HXF4.out
      go_upto_region 19 with fail
      obtain ⟨y, hy⟩ : ∃ y, y = gEn g.root ((k : Int) / 16) bb := ⟨_, rfl⟩
      have hx5 := World.rangeAt_setCells_same (w3.setCell ⟨bg, 67, none⟩ (.int .i64 (g.walks + 1))) q 0 (enCells (gEn g.root ((k : Int) / 16) bb)) (fun o ho => by
        have ho : o < 7 := ho
        rw [Nat.zero_add]
        refine ⟨?_, HXF4.out o⟩
        rw [HX4.out o ho, List.getElem?_eq_getElem (show o < (enCells en0).length from ho)]
        rfl)
      have hu5 := Upd.row (w3.setCell ⟨bg, 67, none⟩ (.int .i64 (g.walks + 1))) q 0 (enCells (gEn g.root ((k : Int) / 16) bb))
      have HH5 : Hid _ := HH4.out.upd hu5 (by omega) (fun k hk e => by have := HVQ.out k hk; omega)
      have HR5 : Hid _ := HR4.out.upd hu5 (by omega)
      have HX5 : Hid (∀ j v, (enCells y)[j]? = some v → ((w3.setCell ⟨bg, 67, none⟩ (.int .i64 (g.walks + 1))).setCells q 0 (enCells (gEn g.root ((k : Int) / 16) bb))).cell? ⟨q, j, none⟩ = some v) := by
        show ∀ j v, _ → _
        intro j v hj
        rw [hy] at hj
        have := hx5 j v hj
        rw [Nat.zero_add] at this
        exact this
      have HU5 : Hid (Upd (fun k => k = bm ∨ k = bg) w ((w3.setCell ⟨bg, 67, none⟩ (.int .i64 (g.walks + 1))).setCells q 0 (enCells (gEn g.root ((k : Int) / 16) bb)))) := HU4.out.trans hu5 (fun i hi e => by have := HWQ.out; omega)
      have hnest : ((((((((w3.setCell ⟨bg, 67, none⟩ (.int .i64 (g.walks + 1))).setCell ⟨q, 0, none⟩ (.int .i64 g.root)).setCell ⟨q, 1, none⟩ (.int .i64 ((k : Int) / 16))).setCell ⟨q, 2, none⟩ (.int .i64 (bb % 16))).setCell ⟨q, 3, none⟩ (.bool (bb / 64 % 2 == 1))).setCell ⟨q, 4, none⟩ (.bool false)).setCell ⟨q, 5, none⟩ (.bool false)).setCell ⟨q, 6, none⟩ (.int .i64 0)) = (w3.setCell ⟨bg, 67, none⟩ (.int .i64 (g.walks + 1))).setCells q 0 (enCells (gEn g.root ((k : Int) / 16) bb)) := rfl
      rw [hnest]
      clear hnest hx5 hu5 HH4 HR4 HU4 HX4 HXF4 z0 z1 z2 z3 z4 z5 z6 zf r4 wk wz b0 p0
      revert HU5
      revert HX5
      revert HR5
      revert HH5
      generalize (w3.setCell ⟨bg, 67, none⟩ (.int .i64 (g.walks + 1))).setCells q 0 (enCells (gEn g.root ((k : Int) / 16) bb)) = w5
      intro HH5 HR5 HX5 HU5
      rw [← hy] at HW2
      clear hy
      obtain ⟨g2, hg2⟩ : ∃ g2, g2 = ({ g1 with walks := g.walks + 1 } : Gs) := ⟨_, rfl⟩
      rw [← hg2] at HH5 HW2
      have HI2 : Hid (Inv s1 g2.m b) := by rw [hg2]; exact HI2.out
      have hl2 : g2.c.length ≤ 4 := by rw [hg2]; show g1.c.length ≤ 4; rw [kgc]; exact hl
      clear hg2 kgw kgr kgc
      have x2 : w5.cell? ⟨q, 2, none⟩ = some (.int .i64 y.dest) := HX5.out 2 _ rfl
      have x3 : w5.cell? ⟨q, 3, none⟩ = some (.bool y.may) := HX5.out 3 _ rfl
      cases hwm : (wt && !y.may) with
      | true =>
        have hst : gStep s1 g2 y false wt = ((0, 5), s1, g2) := by unfold gStep; rw [hwm]; rfl
        have HST : Hid _ := hst
        obtain ⟨hw1, hw2⟩ : wt = true ∧ y.may = false := by simpa using hwm
        subst hw1
        rw [hw2] at x3
        clear hst hwm
        go_wp2_with fail
        go_ret2
        rw [HW2.out, HST.out]
        exact ⟨rfl, HR5.out, ⟨v, HH5.out, Fr.refl _ _⟩, HU5.out⟩
      | false =>
        have hst : gStep s1 g2 y false wt = if 0 < (gTouch s1 g2 y.dest wt).1.2 then ((0, (gTouch s1 g2 y.dest wt).1.2), (gTouch s1 g2 y.dest wt).2) else (((gTouch s1 g2 y.dest wt).1.1, 0), (gTouch s1 g2 y.dest wt).2.1, { (gTouch s1 g2 y.dest wt).2.2 with c := putC (gTouch s1 g2 y.dest wt).2.2.c y }) := by unfold gStep; rw [hwm]; rfl
        have HST : Hid _ := hst
        have hud := (Upd.refl (fun _ => False) w5).drew
        have HHd : Hid _ := HH5.out.upd hud (fun f => f) (fun _ _ f => f)
        have HRd : Hid _ := HR5.out.upd hud (fun f => f)
        have HUd : Hid _ := HU5.out.trans hud (fun _ _ f => f.elim)
        clear hst hud HH5 HR5 HU5
        rcases (show wt = false ∨ (wt = true ∧ y.may = true) by cases wt <;> simp_all) with hwt | ⟨hwt, hmy⟩
        · subst hwt
          clear hwm x3
          go_wp2_with fail
          go_region_held3 (fun w' => w'.cell? ⟨q, 2, none⟩ = some (.int .i64 y.dest)) (first | exact x2 | exact x2t)
            (first
              | (go_at_call 98; refine (gTouch_any _ bg bm base _ g2 s1 b _ _ HHd.out HRd.out hne HI2.out).mono ?_; rintro e w6 ⟨rfl, hr6, hg6, hu6⟩; have x2t := hu6.cell (by exact x2) nq))
          have H1 : Hid _ := hr6
          have H2 : Hid (RGu w6 bg bm base v (gTouch s1 g2 y.dest false).2.2) := hg6
          have H3 : Hid _ := HUd.out.trans hu6 (fun _ _ e => e)
          have HX6 : Hid (∀ j v, (enCells y)[j]? = some v → w6.cell? ⟨q, j, none⟩ = some v) := by
            show ∀ j v, _ → _
            intro j v hj
            exact hu6.cell (show w5.drew.cell? ⟨q, j, none⟩ = some v from HX5.out j v hj) nq
          have hc6 : (gTouch s1 g2 y.dest false).2.2.c = g2.c := rfl
          clear hr6 hg6 hu6 HHd HRd HUd HX5
          generalize hqt : gTouch s1 g2 y.dest false = t2 at *
          clear hqt
          generalize (touchR s1 g2.m y.dest false).1.2.1 = mv2
          by_cases he2 : 0 < t2.1.2
          · have d8 : decide (0 < t2.1.2) = true := by simp; exact he2
            rw [if_pos he2] at HST
            go_wp2_with fail
            go_ret2
            rw [HW2.out, HST.out]
            exact ⟨rfl, H1.out, ⟨v, H2.out, Fr.refl _ _⟩, H3.out⟩
          · have d8 : decide (0 < t2.1.2) = false := by simp; omega
            rw [if_neg he2] at HST
            have c65 := H2.out.c65
            have y0 : w6.cell? ⟨q, 0, none⟩ = some (.int .i64 y.root) := HX6.out 0 _ rfl
            have y1 : w6.cell? ⟨q, 1, none⟩ = some (.int .i64 y.page) := HX6.out 1 _ rfl
            have y2 : w6.cell? ⟨q, 2, none⟩ = some (.int .i64 y.dest) := HX6.out 2 _ rfl
            have y3 : w6.cell? ⟨q, 3, none⟩ = some (.bool y.may) := HX6.out 3 _ rfl
            have y4 : w6.cell? ⟨q, 4, none⟩ = some (.bool y.lf.there) := HX6.out 4 _ rfl
            have y5 : w6.cell? ⟨q, 5, none⟩ = some (.bool y.lf.wr) := HX6.out 5 _ rfl
            have y6 : w6.cell? ⟨q, 6, none⟩ = some (.int .i64 y.lf.fr) := HX6.out 6 _ rfl
            have hud6 := (Upd.refl (fun _ => False) w6).drew
            have HSd : Hid (SlC w6.drew base v t2.2.2.c) := H2.out.sl.upd hud6 (fun _ _ f => f)
            have HGd : Hid _ := H2.out.upd hud6 (fun f => f) (fun _ _ f => f)
            have hlc : t2.2.2.c.length ≤ 4 := by rw [hc6]; exact hl2
            clear hc6
            clear x2 x2t hud6
            go_wp2_with fail
            go_region_with (go_at_call 99; refine (cPut_any _ base v t2.2.2.c y HSd.out (by omega)).mono ?_; rintro e w7 ⟨v7, rfl, hs7, hu7⟩; obtain ⟨a7, cap7, rfl, _⟩ := hs7.form; have HG7 : Hid _ := HGd.out.upd hu7 (fun f => f) (fun _ _ f => f); have c7 := HG7.out.c65; have f7 := HG7.out.mp.fz 65; have HS7 : Hid _ := hs7; have HU7 : Hid _ := hu7; clear hs7 hu7)
            all_goals
              have hq6 : q < w6.heap.size := World.block_lt_of_cell? w6 _ y0
              clear c65 y0 y1 y2 y3 y4 y5 y6
              go_wp2_with fail
              go_ret2
              rw [HW2.out, HST.out]
              have hz6 : w6.drew.heap.size = w6.heap.size := rfl
              refine ⟨rfl, (((H1.out.upd ((Upd.refl (fun _ => False) w6).drew) (fun f => f)).upd HU7.out (fun f => f)).upd (Upd.one _ bg 65 _) (fun e => hne e.symm)), ⟨_, HG7.out.setC HS7.out (by have := HB1.out; omega) (by omega) (by omega), Fr.of HS7.out (by have := H3.out.size; omega)⟩, ?_⟩
              exact (H3.out.trans ((Upd.refl (fun _ => False) w6).drew) (fun _ _ f => f.elim)).trans ((HU7.out.wide (T := fun k => k = bm ∨ k = bg) (fun _ f => f.elim)).trans (Upd.one _ bg 65 _) (fun _ _ e => Or.inr e)) (fun _ _ e => e)
        · subst hwt
          rw [hmy] at x3
          clear hwm hmy
          go_wp2_with fail
          go_region_held3 (fun w' => w'.cell? ⟨q, 2, none⟩ = some (.int .i64 y.dest)) (first | exact x2 | exact x2t)
            (first
              | (go_at_call 98; refine (gTouch_any _ bg bm base _ g2 s1 b _ _ HHd.out HRd.out hne HI2.out).mono ?_; rintro e w6 ⟨rfl, hr6, hg6, hu6⟩; have x2t := hu6.cell (by exact x2) nq))
          have H1 : Hid _ := hr6
          have H2 : Hid (RGu w6 bg bm base v (gTouch s1 g2 y.dest true).2.2) := hg6
          have H3 : Hid _ := HUd.out.trans hu6 (fun _ _ e => e)
          have HX6 : Hid (∀ j v, (enCells y)[j]? = some v → w6.cell? ⟨q, j, none⟩ = some v) := by
            show ∀ j v, _ → _
            intro j v hj
            exact hu6.cell (show w5.drew.cell? ⟨q, j, none⟩ = some v from HX5.out j v hj) nq
          have hc6 : (gTouch s1 g2 y.dest true).2.2.c = g2.c := rfl
          clear hr6 hg6 hu6 HHd HRd HUd HX5
          generalize hqt : gTouch s1 g2 y.dest true = t2 at *
          clear hqt
          generalize (touchR s1 g2.m y.dest true).1.2.1 = mv2
          by_cases he2 : 0 < t2.1.2
          · have d8 : decide (0 < t2.1.2) = true := by simp; exact he2
            rw [if_pos he2] at HST
            go_wp2_with fail
            go_ret2
            rw [HW2.out, HST.out]
            exact ⟨rfl, H1.out, ⟨v, H2.out, Fr.refl _ _⟩, H3.out⟩
          · have d8 : decide (0 < t2.1.2) = false := by simp; omega
            rw [if_neg he2] at HST
            have c65 := H2.out.c65
            have y0 : w6.cell? ⟨q, 0, none⟩ = some (.int .i64 y.root) := HX6.out 0 _ rfl
            have y1 : w6.cell? ⟨q, 1, none⟩ = some (.int .i64 y.page) := HX6.out 1 _ rfl
            have y2 : w6.cell? ⟨q, 2, none⟩ = some (.int .i64 y.dest) := HX6.out 2 _ rfl
            have y3 : w6.cell? ⟨q, 3, none⟩ = some (.bool y.may) := HX6.out 3 _ rfl
            have y4 : w6.cell? ⟨q, 4, none⟩ = some (.bool y.lf.there) := HX6.out 4 _ rfl
            have y5 : w6.cell? ⟨q, 5, none⟩ = some (.bool y.lf.wr) := HX6.out 5 _ rfl
            have y6 : w6.cell? ⟨q, 6, none⟩ = some (.int .i64 y.lf.fr) := HX6.out 6 _ rfl
            have hud6 := (Upd.refl (fun _ => False) w6).drew
            have HSd : Hid (SlC w6.drew base v t2.2.2.c) := H2.out.sl.upd hud6 (fun _ _ f => f)
            have HGd : Hid _ := H2.out.upd hud6 (fun f => f) (fun _ _ f => f)
            have hlc : t2.2.2.c.length ≤ 4 := by rw [hc6]; exact hl2
            clear hc6
            clear x2 x2t hud6
            go_wp2_with fail
            go_region_with (go_at_call 99; refine (cPut_any _ base v t2.2.2.c y HSd.out (by omega)).mono ?_; rintro e w7 ⟨v7, rfl, hs7, hu7⟩; obtain ⟨a7, cap7, rfl, _⟩ := hs7.form; have HG7 : Hid _ := HGd.out.upd hu7 (fun f => f) (fun _ _ f => f); have c7 := HG7.out.c65; have f7 := HG7.out.mp.fz 65; have HS7 : Hid _ := hs7; have HU7 : Hid _ := hu7; clear hs7 hu7)
            all_goals
              have hq6 : q < w6.heap.size := World.block_lt_of_cell? w6 _ y0
              clear c65 y0 y1 y2 y3 y4 y5 y6
              go_wp2_with fail
              go_ret2
              rw [HW2.out, HST.out]
              have hz6 : w6.drew.heap.size = w6.heap.size := rfl
              refine ⟨rfl, (((H1.out.upd ((Upd.refl (fun _ => False) w6).drew) (fun f => f)).upd HU7.out (fun f => f)).upd (Upd.one _ bg 65 _) (fun e => hne e.symm)), ⟨_, HG7.out.setC HS7.out (by have := HB1.out; omega) (by omega) (by omega), Fr.of HS7.out (by have := H3.out.size; omega)⟩, ?_⟩
              exact (H3.out.trans ((Upd.refl (fun _ => False) w6).drew) (fun _ _ f => f.elim)).trans ((HU7.out.wide (T := fun k => k = bm ∨ k = bg) (fun _ f => f.elim)).trans (Upd.one _ bg 65 _) (fun _ _ e => Or.inr e)) (fun _ _ e => e)
end Go.Proofs.YtadpibcgjgcjhabGreatDoor
