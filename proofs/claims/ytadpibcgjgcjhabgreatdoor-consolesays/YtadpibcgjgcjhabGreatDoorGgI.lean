/- Package guest: follow, where the table is read. -/
import Derived.Test.YtadpibcgjgcjhabGreatDoorGgH
namespace Go.Proofs.YtadpibcgjgcjhabGreatDoor
open Go.ChangeShapes Go.WideShapes Go.ChangeAt Go.RowKit
set_option maxRecDepth 1000000
attribute [local go_sem ↓] Go.wp_at_zero Go.wp_at_succ
variable {w w' : World} {bg bp bf bl bc : Nat} {s : Pl} {g : Gs} {b : Mp} {W : Int}

set_option maxHeartbeats 1000000 in
theorem GG.unknown_stop (h : GG w bg bp bf bl bc s g b W) (k : Nat) (hf : fndI g.c g.root (k : Int) < 0) {s1 : Pl} {g1 : Gs} {W1 : Int} (y : En) (wt : Bool) (code : Int) (hc : code ≠ 0)
    (hw : ∀ w1, GG w1 bg bp bf bl bc s g b W → Calls Tryz.prog 175 #[.pointer (some ⟨bg, 0, none⟩), .int .i64 k] w1 fun e w' => e = .returned (.tuple #[.agg #[.int .i64 y.root, .int .i64 y.page, .int .i64 y.dest, .bool y.may, .bool y.lf.there, .bool y.lf.wr, .int .i64 y.lf.fr], .iface 37 (.int .i64 code)]) ∧ GG w' bg bp bf bl bc s1 g1 b W1 ∧ Upd (GFt bg bf bl bc) w1 w') :
    Calls Tryz.prog 140 #[.pointer (some ⟨bg, 0, none⟩), .int .i64 k, .bool wt] w (FPost w bg bp bf bl bc ((0, code), s1, g1) b W1) := by
  have HH : Hid (GG w bg bp bf bl bc s g b W) := h
  have HF : Hid (∀ w1, Upd (fun _ => False) w w1 → Calls Tryz.prog 174 #[.pointer (some ⟨bc, 0, none⟩), .int .i64 g.root, .int .i64 k] w1 fun e w' => e = .returned (.tuple #[.agg #[.int .i64 en0.root, .int .i64 en0.page, .int .i64 en0.dest, .bool en0.may, .bool en0.lf.there, .bool en0.lf.wr, .int .i64 en0.lf.fr], .bool false]) ∧ Upd (fun _ => False) w1 w') := fun w1 u => (HH.out.same u).find_no k hf
  have c2 := h.ce.c2
  have c3 := h.ce.c3
  have l1 := h.ce.lt
  have l2 := h.lv.lt
  have l3 := h.ca.lt
  have l4 := h.pool.lt h.hn
  have l5 : bp < w.heap.size := by obtain ⟨cap, hc⟩ := h.pool.hd; exact World.block_lt_of_cell? w _ hc
  have HW : Hid _ := hw
  clear h hf hw
  unfold FPost
  simp only
  rw [errV_no hc]
  go_enter Tryz.func140, Tryz.ntmps140
  go_upto_region 1 with fail
  refine fol_rg1 w bg bc k g.root wt false en0 c2 c3 HF.out ?_
  intro v13 v14 v15 v16 v17 v18 v19 v20 v21 v22 v23 v24 v25 w1 qx hE hz hu hq
  have HWK : Hid _ := HW.out w1 (HH.out.same hu)
  have hqg : ¬ GFt bg bf bl bc qx := by unfold GFt; omega
  have HE : Hid (EnAt w1 qx en0) := hE
  have HZ : Hid _ := hz
  have HU : Hid _ := hu
  have HQ : Hid _ := hq
  clear hE hz hu HF HW c2 c3
  go_wp2_with fail
  refine Calls.mono HWK.out ?_
  rintro e w2 ⟨rfl, hg2, hu2⟩
  have hE2 : EnAt w2 qx en0 := HE.out.upd hu2 hqg
  have lq1 : qx < w1.heap.size := World.block_lt_of_cell? w1 _ (show w1.cell? ⟨qx, 0, none⟩ = some (.int .i64 0) from HE.out 0 (by omega))
  have hz2 := frozen_keep hu2 lq1 hqg HZ.out
  have y0 : w2.cell? ⟨qx, 0, none⟩ = some (.int .i64 0) := hE2 0 (by omega)
  have y1 : w2.cell? ⟨qx, 1, none⟩ = some (.int .i64 0) := hE2 1 (by omega)
  have y2 : w2.cell? ⟨qx, 2, none⟩ = some (.int .i64 0) := hE2 2 (by omega)
  have y3 : w2.cell? ⟨qx, 3, none⟩ = some (.bool false) := hE2 3 (by omega)
  have y4 : w2.cell? ⟨qx, 4, none⟩ = some (.bool false) := hE2 4 (by omega)
  have y5 : w2.cell? ⟨qx, 5, none⟩ = some (.bool false) := hE2 5 (by omega)
  have y6 : w2.cell? ⟨qx, 6, none⟩ = some (.int .i64 0) := hE2 6 (by omega)
  have z0 := hz2 0
  have z1 := hz2 1
  have z2 := hz2 2
  have z3 := hz2 3
  have z4 := hz2 4
  have z5 := hz2 5
  have z6 := hz2 6
  have HUn : Hid (Upd (fun k => k = qx) w2 (((((((w2.setCell ⟨qx, 0, none⟩ (.int .i64 y.root)).setCell ⟨qx, 1, none⟩ (.int .i64 y.page)).setCell ⟨qx, 2, none⟩ (.int .i64 y.dest)).setCell ⟨qx, 3, none⟩ (.bool y.may)).setCell ⟨qx, 4, none⟩ (.bool y.lf.there)).setCell ⟨qx, 5, none⟩ (.bool y.lf.wr)).setCell ⟨qx, 6, none⟩ (.int .i64 y.lf.fr))) := Upd.seven' w2 qx y
  have HEn : Hid (EnAt (((((((w2.setCell ⟨qx, 0, none⟩ (.int .i64 y.root)).setCell ⟨qx, 1, none⟩ (.int .i64 y.page)).setCell ⟨qx, 2, none⟩ (.int .i64 y.dest)).setCell ⟨qx, 3, none⟩ (.bool y.may)).setCell ⟨qx, 4, none⟩ (.bool y.lf.there)).setCell ⟨qx, 5, none⟩ (.bool y.lf.wr)).setCell ⟨qx, 6, none⟩ (.int .i64 y.lf.fr)) qx y) := EnAt.seven' hE2 hz2 y
  have hzn := frozen_seven' hz2 y
  have HGn : Hid (GG (((((((w2.setCell ⟨qx, 0, none⟩ (.int .i64 y.root)).setCell ⟨qx, 1, none⟩ (.int .i64 y.page)).setCell ⟨qx, 2, none⟩ (.int .i64 y.dest)).setCell ⟨qx, 3, none⟩ (.bool y.may)).setCell ⟨qx, 4, none⟩ (.bool y.lf.there)).setCell ⟨qx, 5, none⟩ (.bool y.lf.wr)).setCell ⟨qx, 6, none⟩ (.int .i64 y.lf.fr)) bg bp bf bl bc s1 g1 b W1) := hg2.upd HUn.out (by omega) (by omega) (by omega) (by omega) (by omega)
  have HU2 : Hid (Upd (GFt bg bf bl bc) w w2) := (HU.out.wide (T := GFt bg bf bl bc) (fun _ f => f.elim)).trans hu2 (fun _ _ e => e)
  have HG2 : Hid (GG w2 bg bp bf bl bc s1 g1 b W1) := hg2
  clear hg2 hu2 hE2 hz2 hzn HWK HE HZ
  go_wp2_with fail
  go_ret2
  exact ⟨rfl, HGn.out, HU2.out.trans HUn.out (fun i hi e => by have := HQ.out; omega)⟩
set_option maxHeartbeats 1000000 in
theorem GG.unknown_fault (h : GG w bg bp bf bl bc s g b W) (k : Nat) (hf : fndI g.c g.root (k : Int) < 0) {s1 : Pl} {g1 : Gs} {W1 : Int} (y : En) (hm : y.may = false)
    (hw : ∀ w1, GG w1 bg bp bf bl bc s g b W → Calls Tryz.prog 175 #[.pointer (some ⟨bg, 0, none⟩), .int .i64 k] w1 fun e w' => e = .returned (.tuple #[.agg #[.int .i64 y.root, .int .i64 y.page, .int .i64 y.dest, .bool y.may, .bool y.lf.there, .bool y.lf.wr, .int .i64 y.lf.fr], .nilIface]) ∧ GG w' bg bp bf bl bc s1 g1 b W1 ∧ Upd (GFt bg bf bl bc) w1 w') :
    Calls Tryz.prog 140 #[.pointer (some ⟨bg, 0, none⟩), .int .i64 k, .bool true] w (FPost w bg bp bf bl bc ((0, 5), s1, g1) b W1) := by
  have HH : Hid (GG w bg bp bf bl bc s g b W) := h
  have HF : Hid (∀ w1, Upd (fun _ => False) w w1 → Calls Tryz.prog 174 #[.pointer (some ⟨bc, 0, none⟩), .int .i64 g.root, .int .i64 k] w1 fun e w' => e = .returned (.tuple #[.agg #[.int .i64 en0.root, .int .i64 en0.page, .int .i64 en0.dest, .bool en0.may, .bool en0.lf.there, .bool en0.lf.wr, .int .i64 en0.lf.fr], .bool false]) ∧ Upd (fun _ => False) w1 w') := fun w1 u => (HH.out.same u).find_no k hf
  have c2 := h.ce.c2
  have c3 := h.ce.c3
  have l1 := h.ce.lt
  have l2 := h.lv.lt
  have l3 := h.ca.lt
  have l4 := h.pool.lt h.hn
  have l5 : bp < w.heap.size := by obtain ⟨cap, hc⟩ := h.pool.hd; exact World.block_lt_of_cell? w _ hc
  have HW : Hid _ := hw
  clear h hf hw
  unfold FPost
  have HM : Hid _ := hm
  clear hm
  simp only
  rw [errV_no (show (5 : Int) ≠ 0 by omega)]
  go_enter Tryz.func140, Tryz.ntmps140
  go_upto_region 1 with fail
  refine fol_rg1 w bg bc k g.root true false en0 c2 c3 HF.out ?_
  intro v13 v14 v15 v16 v17 v18 v19 v20 v21 v22 v23 v24 v25 w1 qx hE hz hu hq
  have HWK : Hid _ := HW.out w1 (HH.out.same hu)
  have hqg : ¬ GFt bg bf bl bc qx := by unfold GFt; omega
  have HE : Hid (EnAt w1 qx en0) := hE
  have HZ : Hid _ := hz
  have HU : Hid _ := hu
  have HQ : Hid _ := hq
  clear hE hz hu HF HW c2 c3
  go_wp2_with fail
  refine Calls.mono HWK.out ?_
  rintro e w2 ⟨rfl, hg2, hu2⟩
  have hE2 : EnAt w2 qx en0 := HE.out.upd hu2 hqg
  have lq1 : qx < w1.heap.size := World.block_lt_of_cell? w1 _ (show w1.cell? ⟨qx, 0, none⟩ = some (.int .i64 0) from HE.out 0 (by omega))
  have hz2 := frozen_keep hu2 lq1 hqg HZ.out
  have y0 : w2.cell? ⟨qx, 0, none⟩ = some (.int .i64 0) := hE2 0 (by omega)
  have y1 : w2.cell? ⟨qx, 1, none⟩ = some (.int .i64 0) := hE2 1 (by omega)
  have y2 : w2.cell? ⟨qx, 2, none⟩ = some (.int .i64 0) := hE2 2 (by omega)
  have y3 : w2.cell? ⟨qx, 3, none⟩ = some (.bool false) := hE2 3 (by omega)
  have y4 : w2.cell? ⟨qx, 4, none⟩ = some (.bool false) := hE2 4 (by omega)
  have y5 : w2.cell? ⟨qx, 5, none⟩ = some (.bool false) := hE2 5 (by omega)
  have y6 : w2.cell? ⟨qx, 6, none⟩ = some (.int .i64 0) := hE2 6 (by omega)
  have z0 := hz2 0
  have z1 := hz2 1
  have z2 := hz2 2
  have z3 := hz2 3
  have z4 := hz2 4
  have z5 := hz2 5
  have z6 := hz2 6
  have HUn : Hid (Upd (fun k => k = qx) w2 (((((((w2.setCell ⟨qx, 0, none⟩ (.int .i64 y.root)).setCell ⟨qx, 1, none⟩ (.int .i64 y.page)).setCell ⟨qx, 2, none⟩ (.int .i64 y.dest)).setCell ⟨qx, 3, none⟩ (.bool y.may)).setCell ⟨qx, 4, none⟩ (.bool y.lf.there)).setCell ⟨qx, 5, none⟩ (.bool y.lf.wr)).setCell ⟨qx, 6, none⟩ (.int .i64 y.lf.fr))) := Upd.seven' w2 qx y
  have HEn : Hid (EnAt (((((((w2.setCell ⟨qx, 0, none⟩ (.int .i64 y.root)).setCell ⟨qx, 1, none⟩ (.int .i64 y.page)).setCell ⟨qx, 2, none⟩ (.int .i64 y.dest)).setCell ⟨qx, 3, none⟩ (.bool y.may)).setCell ⟨qx, 4, none⟩ (.bool y.lf.there)).setCell ⟨qx, 5, none⟩ (.bool y.lf.wr)).setCell ⟨qx, 6, none⟩ (.int .i64 y.lf.fr)) qx y) := EnAt.seven' hE2 hz2 y
  have hzn := frozen_seven' hz2 y
  have HGn : Hid (GG (((((((w2.setCell ⟨qx, 0, none⟩ (.int .i64 y.root)).setCell ⟨qx, 1, none⟩ (.int .i64 y.page)).setCell ⟨qx, 2, none⟩ (.int .i64 y.dest)).setCell ⟨qx, 3, none⟩ (.bool y.may)).setCell ⟨qx, 4, none⟩ (.bool y.lf.there)).setCell ⟨qx, 5, none⟩ (.bool y.lf.wr)).setCell ⟨qx, 6, none⟩ (.int .i64 y.lf.fr)) bg bp bf bl bc s1 g1 b W1) := hg2.upd HUn.out (by omega) (by omega) (by omega) (by omega) (by omega)
  have HU2 : Hid (Upd (GFt bg bf bl bc) w w2) := (HU.out.wide (T := GFt bg bf bl bc) (fun _ f => f.elim)).trans hu2 (fun _ _ e => e)
  have e3 : (((((((w2.setCell ⟨qx, 0, none⟩ (.int .i64 y.root)).setCell ⟨qx, 1, none⟩ (.int .i64 y.page)).setCell ⟨qx, 2, none⟩ (.int .i64 y.dest)).setCell ⟨qx, 3, none⟩ (.bool y.may)).setCell ⟨qx, 4, none⟩ (.bool y.lf.there)).setCell ⟨qx, 5, none⟩ (.bool y.lf.wr)).setCell ⟨qx, 6, none⟩ (.int .i64 y.lf.fr)).cell? ⟨qx, 3, none⟩ = some (.bool y.may) := HEn.out 3 (by omega)
  simp only [HM.out] at e3 HEn HUn HGn
  clear hg2 hu2 hE2 hz2 hzn HWK HE HZ
  rw [HM.out]
  go_wp2_with fail
  go_ret2
  exact ⟨rfl, HGn.out, HU2.out.trans HUn.out (fun i hi e => by have := HQ.out; omega)⟩
set_option maxHeartbeats 1000000 in
theorem GG.unknown_r_err (h : GG w bg bp bf bl bc s g b W) (k : Nat) (hf : fndI g.c g.root (k : Int) < 0) {s1 : Pl} {g1 : Gs} {W1 : Int} (y : En) (hy : 0 ≤ y.dest ∧ y.dest < 16) (he : (gTouch s1 g1 y.dest false).1.2 ≠ 0)
    (hw : ∀ w1, GG w1 bg bp bf bl bc s g b W → Calls Tryz.prog 175 #[.pointer (some ⟨bg, 0, none⟩), .int .i64 k] w1 fun e w' => e = .returned (.tuple #[.agg #[.int .i64 y.root, .int .i64 y.page, .int .i64 y.dest, .bool y.may, .bool y.lf.there, .bool y.lf.wr, .int .i64 y.lf.fr], .nilIface]) ∧ GG w' bg bp bf bl bc s1 g1 b W1 ∧ Upd (GFt bg bf bl bc) w1 w') :
    Calls Tryz.prog 140 #[.pointer (some ⟨bg, 0, none⟩), .int .i64 k, .bool false] w (FPost w bg bp bf bl bc ((0, (gTouch s1 g1 y.dest false).1.2), (gTouch s1 g1 y.dest false).2) b W1) := by
  have HH : Hid (GG w bg bp bf bl bc s g b W) := h
  have HF : Hid (∀ w1, Upd (fun _ => False) w w1 → Calls Tryz.prog 174 #[.pointer (some ⟨bc, 0, none⟩), .int .i64 g.root, .int .i64 k] w1 fun e w' => e = .returned (.tuple #[.agg #[.int .i64 en0.root, .int .i64 en0.page, .int .i64 en0.dest, .bool en0.may, .bool en0.lf.there, .bool en0.lf.wr, .int .i64 en0.lf.fr], .bool false]) ∧ Upd (fun _ => False) w1 w') := fun w1 u => (HH.out.same u).find_no k hf
  have c2 := h.ce.c2
  have c3 := h.ce.c3
  have l1 := h.ce.lt
  have l2 := h.lv.lt
  have l3 := h.ca.lt
  have l4 := h.pool.lt h.hn
  have l5 : bp < w.heap.size := by obtain ⟨cap, hc⟩ := h.pool.hd; exact World.block_lt_of_cell? w _ hc
  have HW : Hid _ := hw
  clear h hf hw
  unfold FPost
  have HE0 : Hid _ := he
  have HY : Hid (0 ≤ y.dest ∧ y.dest < 16) := hy
  clear he hy
  simp only
  rw [errV_no HE0.out]
  go_enter Tryz.func140, Tryz.ntmps140
  go_upto_region 1 with fail
  refine fol_rg1 w bg bc k g.root false false en0 c2 c3 HF.out ?_
  intro v13 v14 v15 v16 v17 v18 v19 v20 v21 v22 v23 v24 v25 w1 qx hE hz hu hq
  have HWK : Hid _ := HW.out w1 (HH.out.same hu)
  have hqg : ¬ GFt bg bf bl bc qx := by unfold GFt; omega
  have HE : Hid (EnAt w1 qx en0) := hE
  have HZ : Hid _ := hz
  have HU : Hid _ := hu
  have HQ : Hid _ := hq
  clear hE hz hu HF HW c2 c3
  go_wp2_with fail
  refine Calls.mono HWK.out ?_
  rintro e w2 ⟨rfl, hg2, hu2⟩
  have hE2 : EnAt w2 qx en0 := HE.out.upd hu2 hqg
  have lq1 : qx < w1.heap.size := World.block_lt_of_cell? w1 _ (show w1.cell? ⟨qx, 0, none⟩ = some (.int .i64 0) from HE.out 0 (by omega))
  have hz2 := frozen_keep hu2 lq1 hqg HZ.out
  have y0 : w2.cell? ⟨qx, 0, none⟩ = some (.int .i64 0) := hE2 0 (by omega)
  have y1 : w2.cell? ⟨qx, 1, none⟩ = some (.int .i64 0) := hE2 1 (by omega)
  have y2 : w2.cell? ⟨qx, 2, none⟩ = some (.int .i64 0) := hE2 2 (by omega)
  have y3 : w2.cell? ⟨qx, 3, none⟩ = some (.bool false) := hE2 3 (by omega)
  have y4 : w2.cell? ⟨qx, 4, none⟩ = some (.bool false) := hE2 4 (by omega)
  have y5 : w2.cell? ⟨qx, 5, none⟩ = some (.bool false) := hE2 5 (by omega)
  have y6 : w2.cell? ⟨qx, 6, none⟩ = some (.int .i64 0) := hE2 6 (by omega)
  have z0 := hz2 0
  have z1 := hz2 1
  have z2 := hz2 2
  have z3 := hz2 3
  have z4 := hz2 4
  have z5 := hz2 5
  have z6 := hz2 6
  have HUn : Hid (Upd (fun k => k = qx) w2 (((((((w2.setCell ⟨qx, 0, none⟩ (.int .i64 y.root)).setCell ⟨qx, 1, none⟩ (.int .i64 y.page)).setCell ⟨qx, 2, none⟩ (.int .i64 y.dest)).setCell ⟨qx, 3, none⟩ (.bool y.may)).setCell ⟨qx, 4, none⟩ (.bool y.lf.there)).setCell ⟨qx, 5, none⟩ (.bool y.lf.wr)).setCell ⟨qx, 6, none⟩ (.int .i64 y.lf.fr))) := Upd.seven' w2 qx y
  have HEn : Hid (EnAt (((((((w2.setCell ⟨qx, 0, none⟩ (.int .i64 y.root)).setCell ⟨qx, 1, none⟩ (.int .i64 y.page)).setCell ⟨qx, 2, none⟩ (.int .i64 y.dest)).setCell ⟨qx, 3, none⟩ (.bool y.may)).setCell ⟨qx, 4, none⟩ (.bool y.lf.there)).setCell ⟨qx, 5, none⟩ (.bool y.lf.wr)).setCell ⟨qx, 6, none⟩ (.int .i64 y.lf.fr)) qx y) := EnAt.seven' hE2 hz2 y
  have hzn := frozen_seven' hz2 y
  have HGn : Hid (GG (((((((w2.setCell ⟨qx, 0, none⟩ (.int .i64 y.root)).setCell ⟨qx, 1, none⟩ (.int .i64 y.page)).setCell ⟨qx, 2, none⟩ (.int .i64 y.dest)).setCell ⟨qx, 3, none⟩ (.bool y.may)).setCell ⟨qx, 4, none⟩ (.bool y.lf.there)).setCell ⟨qx, 5, none⟩ (.bool y.lf.wr)).setCell ⟨qx, 6, none⟩ (.int .i64 y.lf.fr)) bg bp bf bl bc s1 g1 b W1) := hg2.upd HUn.out (by omega) (by omega) (by omega) (by omega) (by omega)
  have HU2 : Hid (Upd (GFt bg bf bl bc) w w2) := (HU.out.wide (T := GFt bg bf bl bc) (fun _ f => f.elim)).trans hu2 (fun _ _ e => e)
  have e2 : (((((((w2.setCell ⟨qx, 0, none⟩ (.int .i64 y.root)).setCell ⟨qx, 1, none⟩ (.int .i64 y.page)).setCell ⟨qx, 2, none⟩ (.int .i64 y.dest)).setCell ⟨qx, 3, none⟩ (.bool y.may)).setCell ⟨qx, 4, none⟩ (.bool y.lf.there)).setCell ⟨qx, 5, none⟩ (.bool y.lf.wr)).setCell ⟨qx, 6, none⟩ (.int .i64 y.lf.fr)).cell? ⟨qx, 2, none⟩ = some (.int .i64 y.dest) := HEn.out 2 (by omega)
  have ht := HGn.out.touch y.dest false
  rw [errV_no HE0.out] at ht
  have HT : Hid _ := ht
  have HZn : Hid _ := hzn
  have HG1 : Hid (GG w2 bg bp bf bl bc s1 g1 b W1) := hg2
  clear hg2 hu2 hE2 hz2 hzn HWK HE HZ ht
  go_wp2_with fail
  revert HT e2 HGn HZn HEn HUn
  generalize (((((((w2.setCell ⟨qx, 0, none⟩ (.int .i64 y.root)).setCell ⟨qx, 1, none⟩ (.int .i64 y.page)).setCell ⟨qx, 2, none⟩ (.int .i64 y.dest)).setCell ⟨qx, 3, none⟩ (.bool y.may)).setCell ⟨qx, 4, none⟩ (.bool y.lf.there)).setCell ⟨qx, 5, none⟩ (.bool y.lf.wr)).setCell ⟨qx, 6, none⟩ (.int .i64 y.lf.fr)) = w3
  intro HUn HEn HGn e2 HT HZn
  refine Calls.mono HT.out ?_
  rintro e w4 ⟨rfl, hg4, hu4⟩
  have HG4 : Hid (GG w4 bg bp bf bl bc (gTouch s1 g1 y.dest false).2.1 (gTouch s1 g1 y.dest false).2.2 b W1) := hg4
  have HU4 : Hid (Upd (GFt bg bf bl bc) w w4) := (HU2.out.trans HUn.out (fun i hi e => by have := HQ.out; omega)).trans hu4 (fun _ _ e => e)
  clear hg4 hu4 HT
  go_wp2_with fail
  go_ret2
  exact ⟨rfl, HG4.out, HU4.out⟩
set_option maxHeartbeats 1000000 in
theorem GG.unknown_w_err (h : GG w bg bp bf bl bc s g b W) (k : Nat) (hf : fndI g.c g.root (k : Int) < 0) {s1 : Pl} {g1 : Gs} {W1 : Int} (y : En) (hm : y.may = true) (hy : 0 ≤ y.dest ∧ y.dest < 16) (he : (gTouch s1 g1 y.dest true).1.2 ≠ 0)
    (hw : ∀ w1, GG w1 bg bp bf bl bc s g b W → Calls Tryz.prog 175 #[.pointer (some ⟨bg, 0, none⟩), .int .i64 k] w1 fun e w' => e = .returned (.tuple #[.agg #[.int .i64 y.root, .int .i64 y.page, .int .i64 y.dest, .bool y.may, .bool y.lf.there, .bool y.lf.wr, .int .i64 y.lf.fr], .nilIface]) ∧ GG w' bg bp bf bl bc s1 g1 b W1 ∧ Upd (GFt bg bf bl bc) w1 w') :
    Calls Tryz.prog 140 #[.pointer (some ⟨bg, 0, none⟩), .int .i64 k, .bool true] w (FPost w bg bp bf bl bc ((0, (gTouch s1 g1 y.dest true).1.2), (gTouch s1 g1 y.dest true).2) b W1) := by
  have HH : Hid (GG w bg bp bf bl bc s g b W) := h
  have HF : Hid (∀ w1, Upd (fun _ => False) w w1 → Calls Tryz.prog 174 #[.pointer (some ⟨bc, 0, none⟩), .int .i64 g.root, .int .i64 k] w1 fun e w' => e = .returned (.tuple #[.agg #[.int .i64 en0.root, .int .i64 en0.page, .int .i64 en0.dest, .bool en0.may, .bool en0.lf.there, .bool en0.lf.wr, .int .i64 en0.lf.fr], .bool false]) ∧ Upd (fun _ => False) w1 w') := fun w1 u => (HH.out.same u).find_no k hf
  have c2 := h.ce.c2
  have c3 := h.ce.c3
  have l1 := h.ce.lt
  have l2 := h.lv.lt
  have l3 := h.ca.lt
  have l4 := h.pool.lt h.hn
  have l5 : bp < w.heap.size := by obtain ⟨cap, hc⟩ := h.pool.hd; exact World.block_lt_of_cell? w _ hc
  have HW : Hid _ := hw
  clear h hf hw
  unfold FPost
  have HE0 : Hid _ := he
  have HY : Hid (0 ≤ y.dest ∧ y.dest < 16) := hy
  have HM : Hid _ := hm
  clear he hy hm
  simp only
  rw [errV_no HE0.out]
  go_enter Tryz.func140, Tryz.ntmps140
  go_upto_region 1 with fail
  refine fol_rg1 w bg bc k g.root true false en0 c2 c3 HF.out ?_
  intro v13 v14 v15 v16 v17 v18 v19 v20 v21 v22 v23 v24 v25 w1 qx hE hz hu hq
  have HWK : Hid _ := HW.out w1 (HH.out.same hu)
  have hqg : ¬ GFt bg bf bl bc qx := by unfold GFt; omega
  have HE : Hid (EnAt w1 qx en0) := hE
  have HZ : Hid _ := hz
  have HU : Hid _ := hu
  have HQ : Hid _ := hq
  clear hE hz hu HF HW c2 c3
  go_wp2_with fail
  refine Calls.mono HWK.out ?_
  rintro e w2 ⟨rfl, hg2, hu2⟩
  have hE2 : EnAt w2 qx en0 := HE.out.upd hu2 hqg
  have lq1 : qx < w1.heap.size := World.block_lt_of_cell? w1 _ (show w1.cell? ⟨qx, 0, none⟩ = some (.int .i64 0) from HE.out 0 (by omega))
  have hz2 := frozen_keep hu2 lq1 hqg HZ.out
  have y0 : w2.cell? ⟨qx, 0, none⟩ = some (.int .i64 0) := hE2 0 (by omega)
  have y1 : w2.cell? ⟨qx, 1, none⟩ = some (.int .i64 0) := hE2 1 (by omega)
  have y2 : w2.cell? ⟨qx, 2, none⟩ = some (.int .i64 0) := hE2 2 (by omega)
  have y3 : w2.cell? ⟨qx, 3, none⟩ = some (.bool false) := hE2 3 (by omega)
  have y4 : w2.cell? ⟨qx, 4, none⟩ = some (.bool false) := hE2 4 (by omega)
  have y5 : w2.cell? ⟨qx, 5, none⟩ = some (.bool false) := hE2 5 (by omega)
  have y6 : w2.cell? ⟨qx, 6, none⟩ = some (.int .i64 0) := hE2 6 (by omega)
  have z0 := hz2 0
  have z1 := hz2 1
  have z2 := hz2 2
  have z3 := hz2 3
  have z4 := hz2 4
  have z5 := hz2 5
  have z6 := hz2 6
  have HUn : Hid (Upd (fun k => k = qx) w2 (((((((w2.setCell ⟨qx, 0, none⟩ (.int .i64 y.root)).setCell ⟨qx, 1, none⟩ (.int .i64 y.page)).setCell ⟨qx, 2, none⟩ (.int .i64 y.dest)).setCell ⟨qx, 3, none⟩ (.bool y.may)).setCell ⟨qx, 4, none⟩ (.bool y.lf.there)).setCell ⟨qx, 5, none⟩ (.bool y.lf.wr)).setCell ⟨qx, 6, none⟩ (.int .i64 y.lf.fr))) := Upd.seven' w2 qx y
  have HEn : Hid (EnAt (((((((w2.setCell ⟨qx, 0, none⟩ (.int .i64 y.root)).setCell ⟨qx, 1, none⟩ (.int .i64 y.page)).setCell ⟨qx, 2, none⟩ (.int .i64 y.dest)).setCell ⟨qx, 3, none⟩ (.bool y.may)).setCell ⟨qx, 4, none⟩ (.bool y.lf.there)).setCell ⟨qx, 5, none⟩ (.bool y.lf.wr)).setCell ⟨qx, 6, none⟩ (.int .i64 y.lf.fr)) qx y) := EnAt.seven' hE2 hz2 y
  have hzn := frozen_seven' hz2 y
  have HGn : Hid (GG (((((((w2.setCell ⟨qx, 0, none⟩ (.int .i64 y.root)).setCell ⟨qx, 1, none⟩ (.int .i64 y.page)).setCell ⟨qx, 2, none⟩ (.int .i64 y.dest)).setCell ⟨qx, 3, none⟩ (.bool y.may)).setCell ⟨qx, 4, none⟩ (.bool y.lf.there)).setCell ⟨qx, 5, none⟩ (.bool y.lf.wr)).setCell ⟨qx, 6, none⟩ (.int .i64 y.lf.fr)) bg bp bf bl bc s1 g1 b W1) := hg2.upd HUn.out (by omega) (by omega) (by omega) (by omega) (by omega)
  have HU2 : Hid (Upd (GFt bg bf bl bc) w w2) := (HU.out.wide (T := GFt bg bf bl bc) (fun _ f => f.elim)).trans hu2 (fun _ _ e => e)
  have e3 : (((((((w2.setCell ⟨qx, 0, none⟩ (.int .i64 y.root)).setCell ⟨qx, 1, none⟩ (.int .i64 y.page)).setCell ⟨qx, 2, none⟩ (.int .i64 y.dest)).setCell ⟨qx, 3, none⟩ (.bool y.may)).setCell ⟨qx, 4, none⟩ (.bool y.lf.there)).setCell ⟨qx, 5, none⟩ (.bool y.lf.wr)).setCell ⟨qx, 6, none⟩ (.int .i64 y.lf.fr)).cell? ⟨qx, 3, none⟩ = some (.bool true) := by rw [← HM.out]; exact HEn.out 3 (by omega)
  have e2 : (((((((w2.setCell ⟨qx, 0, none⟩ (.int .i64 y.root)).setCell ⟨qx, 1, none⟩ (.int .i64 y.page)).setCell ⟨qx, 2, none⟩ (.int .i64 y.dest)).setCell ⟨qx, 3, none⟩ (.bool y.may)).setCell ⟨qx, 4, none⟩ (.bool y.lf.there)).setCell ⟨qx, 5, none⟩ (.bool y.lf.wr)).setCell ⟨qx, 6, none⟩ (.int .i64 y.lf.fr)).cell? ⟨qx, 2, none⟩ = some (.int .i64 y.dest) := HEn.out 2 (by omega)
  have ht := HGn.out.touch y.dest true
  rw [errV_no HE0.out] at ht
  have HT : Hid _ := ht
  have HZn : Hid _ := hzn
  have HG1 : Hid (GG w2 bg bp bf bl bc s1 g1 b W1) := hg2
  clear hg2 hu2 hE2 hz2 hzn HWK HE HZ ht
  go_wp2_with fail
  revert HT e2 HGn HZn HEn HUn e3
  generalize (((((((w2.setCell ⟨qx, 0, none⟩ (.int .i64 y.root)).setCell ⟨qx, 1, none⟩ (.int .i64 y.page)).setCell ⟨qx, 2, none⟩ (.int .i64 y.dest)).setCell ⟨qx, 3, none⟩ (.bool y.may)).setCell ⟨qx, 4, none⟩ (.bool y.lf.there)).setCell ⟨qx, 5, none⟩ (.bool y.lf.wr)).setCell ⟨qx, 6, none⟩ (.int .i64 y.lf.fr)) = w3
  intro HUn HEn HGn e3 e2 HT HZn
  refine Calls.mono HT.out ?_
  rintro e w4 ⟨rfl, hg4, hu4⟩
  have HG4 : Hid (GG w4 bg bp bf bl bc (gTouch s1 g1 y.dest true).2.1 (gTouch s1 g1 y.dest true).2.2 b W1) := hg4
  have HU4 : Hid (Upd (GFt bg bf bl bc) w w4) := (HU2.out.trans HUn.out (fun i hi e => by have := HQ.out; omega)).trans hu4 (fun _ _ e => e)
  clear hg4 hu4 HT
  go_wp2_with fail
  go_ret2
  exact ⟨rfl, HG4.out, HU4.out⟩
set_option maxHeartbeats 1000000 in
theorem GG.unknown_r_ok (h : GG w bg bp bf bl bc s g b W) (k : Nat) (hf : fndI g.c g.root (k : Int) < 0) {s1 : Pl} {g1 : Gs} {W1 : Int} (y : En) (hy : 0 ≤ y.dest ∧ y.dest < 16) (he : (gTouch s1 g1 y.dest false).1.2 = 0)
    (hw : ∀ w1, GG w1 bg bp bf bl bc s g b W → Calls Tryz.prog 175 #[.pointer (some ⟨bg, 0, none⟩), .int .i64 k] w1 fun e w' => e = .returned (.tuple #[.agg #[.int .i64 y.root, .int .i64 y.page, .int .i64 y.dest, .bool y.may, .bool y.lf.there, .bool y.lf.wr, .int .i64 y.lf.fr], .nilIface]) ∧ GG w' bg bp bf bl bc s1 g1 b W1 ∧ Upd (GFt bg bf bl bc) w1 w') :
    Calls Tryz.prog 140 #[.pointer (some ⟨bg, 0, none⟩), .int .i64 k, .bool false] w (FPost w bg bp bf bl bc (((gTouch s1 g1 y.dest false).1.1, 0), (gTouch s1 g1 y.dest false).2.1, { (gTouch s1 g1 y.dest false).2.2 with c := putC (gTouch s1 g1 y.dest false).2.2.c y }) b W1) := by
  have HH : Hid (GG w bg bp bf bl bc s g b W) := h
  have HF : Hid (∀ w1, Upd (fun _ => False) w w1 → Calls Tryz.prog 174 #[.pointer (some ⟨bc, 0, none⟩), .int .i64 g.root, .int .i64 k] w1 fun e w' => e = .returned (.tuple #[.agg #[.int .i64 en0.root, .int .i64 en0.page, .int .i64 en0.dest, .bool en0.may, .bool en0.lf.there, .bool en0.lf.wr, .int .i64 en0.lf.fr], .bool false]) ∧ Upd (fun _ => False) w1 w') := fun w1 u => (HH.out.same u).find_no k hf
  have c2 := h.ce.c2
  have c3 := h.ce.c3
  have l1 := h.ce.lt
  have l2 := h.lv.lt
  have l3 := h.ca.lt
  have l4 := h.pool.lt h.hn
  have l5 : bp < w.heap.size := by obtain ⟨cap, hc⟩ := h.pool.hd; exact World.block_lt_of_cell? w _ hc
  have HW : Hid _ := hw
  clear h hf hw
  unfold FPost
  have HE0 : Hid _ := he
  have HY : Hid (0 ≤ y.dest ∧ y.dest < 16) := hy
  clear he hy
  simp only
  rw [errV_zero]
  go_enter Tryz.func140, Tryz.ntmps140
  go_upto_region 1 with fail
  refine fol_rg1 w bg bc k g.root false false en0 c2 c3 HF.out ?_
  intro v13 v14 v15 v16 v17 v18 v19 v20 v21 v22 v23 v24 v25 w1 qx hE hz hu hq
  have HWK : Hid _ := HW.out w1 (HH.out.same hu)
  have hqg : ¬ GFt bg bf bl bc qx := by unfold GFt; omega
  have HE : Hid (EnAt w1 qx en0) := hE
  have HZ : Hid _ := hz
  have HU : Hid _ := hu
  have HQ : Hid _ := hq
  clear hE hz hu HF HW c2 c3
  go_wp2_with fail
  refine Calls.mono HWK.out ?_
  rintro e w2 ⟨rfl, hg2, hu2⟩
  have hE2 : EnAt w2 qx en0 := HE.out.upd hu2 hqg
  have lq1 : qx < w1.heap.size := World.block_lt_of_cell? w1 _ (show w1.cell? ⟨qx, 0, none⟩ = some (.int .i64 0) from HE.out 0 (by omega))
  have hz2 := frozen_keep hu2 lq1 hqg HZ.out
  have y0 : w2.cell? ⟨qx, 0, none⟩ = some (.int .i64 0) := hE2 0 (by omega)
  have y1 : w2.cell? ⟨qx, 1, none⟩ = some (.int .i64 0) := hE2 1 (by omega)
  have y2 : w2.cell? ⟨qx, 2, none⟩ = some (.int .i64 0) := hE2 2 (by omega)
  have y3 : w2.cell? ⟨qx, 3, none⟩ = some (.bool false) := hE2 3 (by omega)
  have y4 : w2.cell? ⟨qx, 4, none⟩ = some (.bool false) := hE2 4 (by omega)
  have y5 : w2.cell? ⟨qx, 5, none⟩ = some (.bool false) := hE2 5 (by omega)
  have y6 : w2.cell? ⟨qx, 6, none⟩ = some (.int .i64 0) := hE2 6 (by omega)
  have z0 := hz2 0
  have z1 := hz2 1
  have z2 := hz2 2
  have z3 := hz2 3
  have z4 := hz2 4
  have z5 := hz2 5
  have z6 := hz2 6
  have HUn : Hid (Upd (fun k => k = qx) w2 (((((((w2.setCell ⟨qx, 0, none⟩ (.int .i64 y.root)).setCell ⟨qx, 1, none⟩ (.int .i64 y.page)).setCell ⟨qx, 2, none⟩ (.int .i64 y.dest)).setCell ⟨qx, 3, none⟩ (.bool y.may)).setCell ⟨qx, 4, none⟩ (.bool y.lf.there)).setCell ⟨qx, 5, none⟩ (.bool y.lf.wr)).setCell ⟨qx, 6, none⟩ (.int .i64 y.lf.fr))) := Upd.seven' w2 qx y
  have HEn : Hid (EnAt (((((((w2.setCell ⟨qx, 0, none⟩ (.int .i64 y.root)).setCell ⟨qx, 1, none⟩ (.int .i64 y.page)).setCell ⟨qx, 2, none⟩ (.int .i64 y.dest)).setCell ⟨qx, 3, none⟩ (.bool y.may)).setCell ⟨qx, 4, none⟩ (.bool y.lf.there)).setCell ⟨qx, 5, none⟩ (.bool y.lf.wr)).setCell ⟨qx, 6, none⟩ (.int .i64 y.lf.fr)) qx y) := EnAt.seven' hE2 hz2 y
  have hzn := frozen_seven' hz2 y
  have HGn : Hid (GG (((((((w2.setCell ⟨qx, 0, none⟩ (.int .i64 y.root)).setCell ⟨qx, 1, none⟩ (.int .i64 y.page)).setCell ⟨qx, 2, none⟩ (.int .i64 y.dest)).setCell ⟨qx, 3, none⟩ (.bool y.may)).setCell ⟨qx, 4, none⟩ (.bool y.lf.there)).setCell ⟨qx, 5, none⟩ (.bool y.lf.wr)).setCell ⟨qx, 6, none⟩ (.int .i64 y.lf.fr)) bg bp bf bl bc s1 g1 b W1) := hg2.upd HUn.out (by omega) (by omega) (by omega) (by omega) (by omega)
  have HU2 : Hid (Upd (GFt bg bf bl bc) w w2) := (HU.out.wide (T := GFt bg bf bl bc) (fun _ f => f.elim)).trans hu2 (fun _ _ e => e)
  have e2 : (((((((w2.setCell ⟨qx, 0, none⟩ (.int .i64 y.root)).setCell ⟨qx, 1, none⟩ (.int .i64 y.page)).setCell ⟨qx, 2, none⟩ (.int .i64 y.dest)).setCell ⟨qx, 3, none⟩ (.bool y.may)).setCell ⟨qx, 4, none⟩ (.bool y.lf.there)).setCell ⟨qx, 5, none⟩ (.bool y.lf.wr)).setCell ⟨qx, 6, none⟩ (.int .i64 y.lf.fr)).cell? ⟨qx, 2, none⟩ = some (.int .i64 y.dest) := HEn.out 2 (by omega)
  have ht := HGn.out.touch y.dest false
  rw [HE0.out, errV_zero] at ht
  have HT : Hid _ := ht
  have HZn : Hid _ := hzn
  have HG1 : Hid (GG w2 bg bp bf bl bc s1 g1 b W1) := hg2
  clear hg2 hu2 hE2 hz2 hzn HWK HE HZ ht
  go_wp2_with fail
  revert HT e2 HGn HZn HEn HUn
  generalize (((((((w2.setCell ⟨qx, 0, none⟩ (.int .i64 y.root)).setCell ⟨qx, 1, none⟩ (.int .i64 y.page)).setCell ⟨qx, 2, none⟩ (.int .i64 y.dest)).setCell ⟨qx, 3, none⟩ (.bool y.may)).setCell ⟨qx, 4, none⟩ (.bool y.lf.there)).setCell ⟨qx, 5, none⟩ (.bool y.lf.wr)).setCell ⟨qx, 6, none⟩ (.int .i64 y.lf.fr)) = w3
  intro HUn HEn HGn e2 HT HZn
  refine Calls.mono HT.out ?_
  rintro e w4 ⟨rfl, hg4, hu4⟩
  have HG4 : Hid (GG w4 bg bp bf bl bc (gTouch s1 g1 y.dest false).2.1 (gTouch s1 g1 y.dest false).2.2 b W1) := hg4
  have HU4 : Hid (Upd (GFt bg bf bl bc) w w4) := (HU2.out.trans HUn.out (fun i hi e => by have := HQ.out; omega)).trans hu4 (fun _ _ e => e)
  have hE4 : EnAt w4 qx y := HEn.out.upd hu4 hqg
  have x0 : w4.cell? ⟨qx, 0, none⟩ = some (.int .i64 y.root) := hE4 0 (by omega)
  have x1 : w4.cell? ⟨qx, 1, none⟩ = some (.int .i64 y.page) := hE4 1 (by omega)
  have x2 : w4.cell? ⟨qx, 2, none⟩ = some (.int .i64 y.dest) := hE4 2 (by omega)
  have x3 : w4.cell? ⟨qx, 3, none⟩ = some (.bool y.may) := hE4 3 (by omega)
  have x4 : w4.cell? ⟨qx, 4, none⟩ = some (.bool y.lf.there) := hE4 4 (by omega)
  have x5 : w4.cell? ⟨qx, 5, none⟩ = some (.bool y.lf.wr) := hE4 5 (by omega)
  have x6 : w4.cell? ⟨qx, 6, none⟩ = some (.int .i64 y.lf.fr) := hE4 6 (by omega)
  obtain ⟨j, hj⟩ := Int.eq_ofNat_of_zero_le HY.out.1
  have hrem := remember_any w4 bg bp bl bc j _ _ y _ _ hg4.ce hg4.lv hg4.ca hj (by have := HY.out; omega) _ rfl
  have HREM : Hid _ := hrem
  have HJ : Hid (y.dest = (j : Int)) := hj
  have HI5 : Hid (GInv (gStep s1 g1 y false false).2.1 (gStep s1 g1 y false false).2.2 b W1) := HG1.out.inv.step y HY.out false false
  have HD5 : Hid (Dist (gStep s1 g1 y false false).2.2.c) := step_dist HG1.out.di HG1.out.inv.len y false false
  clear hg4 hu4 HT hrem hj hE4 e2
  go_wp2_with fail
  refine Calls.mono HREM.out ?_
  rintro e w5 ⟨rfl, hc5, hu5⟩
  have HC5 : Hid _ := hc5
  have HU5 : Hid _ := hu5
  clear hc5 hu5 HREM x0 x1 x2 x3 x4 x5 x6
  go_wp2_with fail
  go_ret2
  have hst : gStep s1 g1 y false false = (((gTouch s1 g1 y.dest false).1.1, 0), (gTouch s1 g1 y.dest false).2.1, { (gTouch s1 g1 y.dest false).2.2 with c := putC (gTouch s1 g1 y.dest false).2.2.c y }) := by
    unfold gStep
    rw [if_neg (by simp), if_neg (by rw [HE0.out]; omega)]
    rfl
  have hI5 := HI5.out
  have hD5 := HD5.out
  rw [hst] at hI5 hD5
  have hps := put_same HG4.out.di HG4.out.inv.len y
  have hsh := shows_put (gTouch s1 g1 y.dest false).2.2.m (gTouch s1 g1 y.dest false).2.2.c y
  have hgs : gShow (gTouch s1 g1 y.dest false).2.2.m y = { y with lf := (gTouch s1 g1 y.dest false).2.2.m.lf j } := by unfold gShow; rw [HJ.out]; rfl
  refine ⟨rfl, HG4.out.setC HU5.out ?_ hI5 hD5, HU4.out.trans HU5.out (fun i hi e => by unfold GFt; omega)⟩
  rw [hps, ← hsh, hgs]
  exact HC5.out
set_option maxHeartbeats 1000000 in
theorem GG.unknown_w_ok (h : GG w bg bp bf bl bc s g b W) (k : Nat) (hf : fndI g.c g.root (k : Int) < 0) {s1 : Pl} {g1 : Gs} {W1 : Int} (y : En) (hm : y.may = true) (hy : 0 ≤ y.dest ∧ y.dest < 16) (he : (gTouch s1 g1 y.dest true).1.2 = 0)
    (hw : ∀ w1, GG w1 bg bp bf bl bc s g b W → Calls Tryz.prog 175 #[.pointer (some ⟨bg, 0, none⟩), .int .i64 k] w1 fun e w' => e = .returned (.tuple #[.agg #[.int .i64 y.root, .int .i64 y.page, .int .i64 y.dest, .bool y.may, .bool y.lf.there, .bool y.lf.wr, .int .i64 y.lf.fr], .nilIface]) ∧ GG w' bg bp bf bl bc s1 g1 b W1 ∧ Upd (GFt bg bf bl bc) w1 w') :
    Calls Tryz.prog 140 #[.pointer (some ⟨bg, 0, none⟩), .int .i64 k, .bool true] w (FPost w bg bp bf bl bc (((gTouch s1 g1 y.dest true).1.1, 0), (gTouch s1 g1 y.dest true).2.1, { (gTouch s1 g1 y.dest true).2.2 with c := putC (gTouch s1 g1 y.dest true).2.2.c y }) b W1) := by
  have HH : Hid (GG w bg bp bf bl bc s g b W) := h
  have HF : Hid (∀ w1, Upd (fun _ => False) w w1 → Calls Tryz.prog 174 #[.pointer (some ⟨bc, 0, none⟩), .int .i64 g.root, .int .i64 k] w1 fun e w' => e = .returned (.tuple #[.agg #[.int .i64 en0.root, .int .i64 en0.page, .int .i64 en0.dest, .bool en0.may, .bool en0.lf.there, .bool en0.lf.wr, .int .i64 en0.lf.fr], .bool false]) ∧ Upd (fun _ => False) w1 w') := fun w1 u => (HH.out.same u).find_no k hf
  have c2 := h.ce.c2
  have c3 := h.ce.c3
  have l1 := h.ce.lt
  have l2 := h.lv.lt
  have l3 := h.ca.lt
  have l4 := h.pool.lt h.hn
  have l5 : bp < w.heap.size := by obtain ⟨cap, hc⟩ := h.pool.hd; exact World.block_lt_of_cell? w _ hc
  have HW : Hid _ := hw
  clear h hf hw
  unfold FPost
  have HE0 : Hid _ := he
  have HY : Hid (0 ≤ y.dest ∧ y.dest < 16) := hy
  have HM : Hid _ := hm
  clear he hy hm
  simp only
  rw [errV_zero]
  go_enter Tryz.func140, Tryz.ntmps140
  go_upto_region 1 with fail
  refine fol_rg1 w bg bc k g.root true false en0 c2 c3 HF.out ?_
  intro v13 v14 v15 v16 v17 v18 v19 v20 v21 v22 v23 v24 v25 w1 qx hE hz hu hq
  have HWK : Hid _ := HW.out w1 (HH.out.same hu)
  have hqg : ¬ GFt bg bf bl bc qx := by unfold GFt; omega
  have HE : Hid (EnAt w1 qx en0) := hE
  have HZ : Hid _ := hz
  have HU : Hid _ := hu
  have HQ : Hid _ := hq
  clear hE hz hu HF HW c2 c3
  go_wp2_with fail
  refine Calls.mono HWK.out ?_
  rintro e w2 ⟨rfl, hg2, hu2⟩
  have hE2 : EnAt w2 qx en0 := HE.out.upd hu2 hqg
  have lq1 : qx < w1.heap.size := World.block_lt_of_cell? w1 _ (show w1.cell? ⟨qx, 0, none⟩ = some (.int .i64 0) from HE.out 0 (by omega))
  have hz2 := frozen_keep hu2 lq1 hqg HZ.out
  have y0 : w2.cell? ⟨qx, 0, none⟩ = some (.int .i64 0) := hE2 0 (by omega)
  have y1 : w2.cell? ⟨qx, 1, none⟩ = some (.int .i64 0) := hE2 1 (by omega)
  have y2 : w2.cell? ⟨qx, 2, none⟩ = some (.int .i64 0) := hE2 2 (by omega)
  have y3 : w2.cell? ⟨qx, 3, none⟩ = some (.bool false) := hE2 3 (by omega)
  have y4 : w2.cell? ⟨qx, 4, none⟩ = some (.bool false) := hE2 4 (by omega)
  have y5 : w2.cell? ⟨qx, 5, none⟩ = some (.bool false) := hE2 5 (by omega)
  have y6 : w2.cell? ⟨qx, 6, none⟩ = some (.int .i64 0) := hE2 6 (by omega)
  have z0 := hz2 0
  have z1 := hz2 1
  have z2 := hz2 2
  have z3 := hz2 3
  have z4 := hz2 4
  have z5 := hz2 5
  have z6 := hz2 6
  have HUn : Hid (Upd (fun k => k = qx) w2 (((((((w2.setCell ⟨qx, 0, none⟩ (.int .i64 y.root)).setCell ⟨qx, 1, none⟩ (.int .i64 y.page)).setCell ⟨qx, 2, none⟩ (.int .i64 y.dest)).setCell ⟨qx, 3, none⟩ (.bool y.may)).setCell ⟨qx, 4, none⟩ (.bool y.lf.there)).setCell ⟨qx, 5, none⟩ (.bool y.lf.wr)).setCell ⟨qx, 6, none⟩ (.int .i64 y.lf.fr))) := Upd.seven' w2 qx y
  have HEn : Hid (EnAt (((((((w2.setCell ⟨qx, 0, none⟩ (.int .i64 y.root)).setCell ⟨qx, 1, none⟩ (.int .i64 y.page)).setCell ⟨qx, 2, none⟩ (.int .i64 y.dest)).setCell ⟨qx, 3, none⟩ (.bool y.may)).setCell ⟨qx, 4, none⟩ (.bool y.lf.there)).setCell ⟨qx, 5, none⟩ (.bool y.lf.wr)).setCell ⟨qx, 6, none⟩ (.int .i64 y.lf.fr)) qx y) := EnAt.seven' hE2 hz2 y
  have hzn := frozen_seven' hz2 y
  have HGn : Hid (GG (((((((w2.setCell ⟨qx, 0, none⟩ (.int .i64 y.root)).setCell ⟨qx, 1, none⟩ (.int .i64 y.page)).setCell ⟨qx, 2, none⟩ (.int .i64 y.dest)).setCell ⟨qx, 3, none⟩ (.bool y.may)).setCell ⟨qx, 4, none⟩ (.bool y.lf.there)).setCell ⟨qx, 5, none⟩ (.bool y.lf.wr)).setCell ⟨qx, 6, none⟩ (.int .i64 y.lf.fr)) bg bp bf bl bc s1 g1 b W1) := hg2.upd HUn.out (by omega) (by omega) (by omega) (by omega) (by omega)
  have HU2 : Hid (Upd (GFt bg bf bl bc) w w2) := (HU.out.wide (T := GFt bg bf bl bc) (fun _ f => f.elim)).trans hu2 (fun _ _ e => e)
  have e3 : (((((((w2.setCell ⟨qx, 0, none⟩ (.int .i64 y.root)).setCell ⟨qx, 1, none⟩ (.int .i64 y.page)).setCell ⟨qx, 2, none⟩ (.int .i64 y.dest)).setCell ⟨qx, 3, none⟩ (.bool y.may)).setCell ⟨qx, 4, none⟩ (.bool y.lf.there)).setCell ⟨qx, 5, none⟩ (.bool y.lf.wr)).setCell ⟨qx, 6, none⟩ (.int .i64 y.lf.fr)).cell? ⟨qx, 3, none⟩ = some (.bool true) := by rw [← HM.out]; exact HEn.out 3 (by omega)
  have e2 : (((((((w2.setCell ⟨qx, 0, none⟩ (.int .i64 y.root)).setCell ⟨qx, 1, none⟩ (.int .i64 y.page)).setCell ⟨qx, 2, none⟩ (.int .i64 y.dest)).setCell ⟨qx, 3, none⟩ (.bool y.may)).setCell ⟨qx, 4, none⟩ (.bool y.lf.there)).setCell ⟨qx, 5, none⟩ (.bool y.lf.wr)).setCell ⟨qx, 6, none⟩ (.int .i64 y.lf.fr)).cell? ⟨qx, 2, none⟩ = some (.int .i64 y.dest) := HEn.out 2 (by omega)
  have ht := HGn.out.touch y.dest true
  rw [HE0.out, errV_zero] at ht
  have HT : Hid _ := ht
  have HZn : Hid _ := hzn
  have HG1 : Hid (GG w2 bg bp bf bl bc s1 g1 b W1) := hg2
  clear hg2 hu2 hE2 hz2 hzn HWK HE HZ ht
  go_wp2_with fail
  revert HT e2 HGn HZn HEn HUn e3
  generalize (((((((w2.setCell ⟨qx, 0, none⟩ (.int .i64 y.root)).setCell ⟨qx, 1, none⟩ (.int .i64 y.page)).setCell ⟨qx, 2, none⟩ (.int .i64 y.dest)).setCell ⟨qx, 3, none⟩ (.bool y.may)).setCell ⟨qx, 4, none⟩ (.bool y.lf.there)).setCell ⟨qx, 5, none⟩ (.bool y.lf.wr)).setCell ⟨qx, 6, none⟩ (.int .i64 y.lf.fr)) = w3
  intro HUn HEn HGn e3 e2 HT HZn
  refine Calls.mono HT.out ?_
  rintro e w4 ⟨rfl, hg4, hu4⟩
  have HG4 : Hid (GG w4 bg bp bf bl bc (gTouch s1 g1 y.dest true).2.1 (gTouch s1 g1 y.dest true).2.2 b W1) := hg4
  have HU4 : Hid (Upd (GFt bg bf bl bc) w w4) := (HU2.out.trans HUn.out (fun i hi e => by have := HQ.out; omega)).trans hu4 (fun _ _ e => e)
  have hE4 : EnAt w4 qx y := HEn.out.upd hu4 hqg
  have x0 : w4.cell? ⟨qx, 0, none⟩ = some (.int .i64 y.root) := hE4 0 (by omega)
  have x1 : w4.cell? ⟨qx, 1, none⟩ = some (.int .i64 y.page) := hE4 1 (by omega)
  have x2 : w4.cell? ⟨qx, 2, none⟩ = some (.int .i64 y.dest) := hE4 2 (by omega)
  have x3 : w4.cell? ⟨qx, 3, none⟩ = some (.bool y.may) := hE4 3 (by omega)
  have x4 : w4.cell? ⟨qx, 4, none⟩ = some (.bool y.lf.there) := hE4 4 (by omega)
  have x5 : w4.cell? ⟨qx, 5, none⟩ = some (.bool y.lf.wr) := hE4 5 (by omega)
  have x6 : w4.cell? ⟨qx, 6, none⟩ = some (.int .i64 y.lf.fr) := hE4 6 (by omega)
  obtain ⟨j, hj⟩ := Int.eq_ofNat_of_zero_le HY.out.1
  have hrem := remember_any w4 bg bp bl bc j _ _ y _ _ hg4.ce hg4.lv hg4.ca hj (by have := HY.out; omega) _ rfl
  have HREM : Hid _ := hrem
  have HJ : Hid (y.dest = (j : Int)) := hj
  have HI5 : Hid (GInv (gStep s1 g1 y false true).2.1 (gStep s1 g1 y false true).2.2 b W1) := HG1.out.inv.step y HY.out false true
  have HD5 : Hid (Dist (gStep s1 g1 y false true).2.2.c) := step_dist HG1.out.di HG1.out.inv.len y false true
  clear hg4 hu4 HT hrem hj hE4 e2 e3
  go_wp2_with fail
  refine Calls.mono HREM.out ?_
  rintro e w5 ⟨rfl, hc5, hu5⟩
  have HC5 : Hid _ := hc5
  have HU5 : Hid _ := hu5
  clear hc5 hu5 HREM x0 x1 x2 x3 x4 x5 x6
  go_wp2_with fail
  go_ret2
  have hst : gStep s1 g1 y false true = (((gTouch s1 g1 y.dest true).1.1, 0), (gTouch s1 g1 y.dest true).2.1, { (gTouch s1 g1 y.dest true).2.2 with c := putC (gTouch s1 g1 y.dest true).2.2.c y }) := by
    unfold gStep
    rw [if_neg (by simp [HM.out]), if_neg (by rw [HE0.out]; omega)]
    rfl
  have hI5 := HI5.out
  have hD5 := HD5.out
  rw [hst] at hI5 hD5
  have hps := put_same HG4.out.di HG4.out.inv.len y
  have hsh := shows_put (gTouch s1 g1 y.dest true).2.2.m (gTouch s1 g1 y.dest true).2.2.c y
  have hgs : gShow (gTouch s1 g1 y.dest true).2.2.m y = { y with lf := (gTouch s1 g1 y.dest true).2.2.m.lf j } := by unfold gShow; rw [HJ.out]; rfl
  refine ⟨rfl, HG4.out.setC HU5.out ?_ hI5 hD5, HU4.out.trans HU5.out (fun i hi e => by unfold GFt; omega)⟩
  rw [hps, ← hsh, hgs]
  exact HC5.out
end Go.Proofs.YtadpibcgjgcjhabGreatDoor
