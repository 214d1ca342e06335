/- Package guest: follow, where the table is read. -/
import Derived.Test.YtadpibcgjgcjhabGreatDoorPart13
import Derived.Test.YtadpibcgjgcjhabGreatDoorPart03
import Derived.RangeFuncNested
import Derived.RangeFuncBound
import Derived.RangeFuncCalls
import Derived.RangeFuncLeaves
import Derived.Test.YtadpibcgjgcjhabGreatDoorPart06
import Derived.Shelf.RegionOpen
import Derived.OwnWalkIn
import Derived.TacticsInMore
import Derived.LoopNIn
import Derived.LoopIn
import Derived.Deep.Slices
import Derived.ShutString
import Derived.ChangeOld
import Derived.Below
import Derived.Test.YtadpibcgjgcjhabGreatDoorPart07
namespace Go.Proofs.YtadpibcgjgcjhabGreatDoor
open Go.ChangeShapes Go.WideShapes Go.ChangeAt Go.RowKit
set_option maxRecDepth 1000000
attribute [local go_sem ↓] Go.wp_at_zero Go.wp_at_succ
variable {w w' : World} {bg bp bf bl bc : Nat} {s : Pl} {g : Gs} {b : Mp} {W : Int}

set_option maxHeartbeats 1000000 in
theorem GG.unknown_stop (h : GG w bg bp bf bl bc s g b W) (k : Nat) (hf : fndI g.c g.root (k : Int) < 0) {s1 : Pl} {g1 : Gs} {W1 : Int} (y : En) (wt : Bool) (code : Int) (hc : code ≠ 0)
    (hw : ∀ w1, GG w1 bg bp bf bl bc s g b W → Calls Tryz.prog 175 #[.pointer (some ⟨bg, 0, none⟩), .int .i64 k] w1 fun e w' => e = .returned (.tuple #[.agg #[.int .i64 y.root, .int .i64 y.page, .int .i64 y.dest, .bool y.may, .bool y.lf.there, .bool y.lf.wr, .int .i64 y.lf.fr], .iface 37 (.int .i64 code)]) ∧ GG w' bg bp bf bl bc s1 g1 b W1 ∧ Upd (GFt bg bf bl bc) w1 w') :
    Calls Tryz.prog 140 #[.pointer (some ⟨bg, 0, none⟩), .int .i64 k, .bool wt] w (FPost w bg bp bf bl bc ((0, code), s1, g1) b W1) := by
  have HH : Hid (GG w bg bp bf bl bc s g b W) := h
  have HF : Hid (∀ w1, Upd (fun _ => False) w w1 → Calls Tryz.prog 174 #[.pointer (some ⟨bc, 0, none⟩), .int .i64 g.root, .int .i64 k] w1 fun e w' => e = .returned (.tuple #[.agg #[.int .i64 en0.root, .int .i64 en0.page, .int .i64 en0.dest, .bool en0.may, .bool en0.lf.there, .bool en0.lf.wr, .int .i64 en0.lf.fr], .bool false]) ∧ Upd (fun _ => False) w1 w') := fun w1 u => (HH.out.same u).find_no k hf
  have c2 := h.ce.c2
  have c3 := h.ce.c3
  have l1 := h.ce.lt
  have l2 := h.lv.lt
  have l3 := h.ca.lt
  have l4 := h.pool.lt h.hn
  have l5 : bp < w.heap.size := by obtain ⟨cap, hc⟩ := h.pool.hd; exact World.block_lt_of_cell? w _ hc
  have HW : Hid _ := hw
  clear h hf hw
  unfold FPost
  simp only
  rw [errV_no hc]
  go_enter Tryz.func140, Tryz.ntmps140
  go_upto_region 1 with fail
  refine fol_rg1 w bg bc k g.root wt false en0 c2 c3 HF.out ?_
  intro v13 v14 v15 v16 v17 v18 v19 v20 v21 v22 v23 v24 v25 w1 qx hE hz hu hq
  have HWK : Hid _ := HW.out w1 (HH.out.same hu)
  have hqg : ¬ GFt bg bf bl bc qx := by unfold GFt; omega
  have HE : Hid (EnAt w1 qx en0) := hE
  have HZ : Hid _ := hz
  have HU : Hid _ := hu
  have HQ : Hid _ := hq
  clear hE hz hu HF HW c2 c3
  go_wp2_with fail
  refine Calls.mono HWK.out ?_
  rintro e w2 ⟨rfl, hg2, hu2⟩
  have hE2 : EnAt w2 qx en0 := HE.out.upd hu2 hqg
  have lq1 : qx < w1.heap.size := World.block_lt_of_cell? w1 _ (show w1.cell? ⟨qx, 0, none⟩ = some (.int .i64 0) from HE.out 0 (by omega))
  have hz2 := frozen_keep hu2 lq1 hqg HZ.out
  have y0 : w2.cell? ⟨qx, 0, none⟩ = some (.int .i64 0) := hE2 0 (by omega)
  have y1 : w2.cell? ⟨qx, 1, none⟩ = some (.int .i64 0) := hE2 1 (by omega)
  have y2 : w2.cell? ⟨qx, 2, none⟩ = some (.int .i64 0) := hE2 2 (by omega)
  have y3 : w2.cell? ⟨qx, 3, none⟩ = some (.bool false) := hE2 3 (by omega)
  have y4 : w2.cell? ⟨qx, 4, none⟩ = some (.bool false) := hE2 4 (by omega)
  have y5 : w2.cell? ⟨qx, 5, none⟩ = some (.bool false) := hE2 5 (by omega)
  have y6 : w2.cell? ⟨qx, 6, none⟩ = some (.int .i64 0) := hE2 6 (by omega)
  have z0 := hz2 0
  have z1 := hz2 1
  have z2 := hz2 2
  have z3 := hz2 3
  have z4 := hz2 4
  have z5 := hz2 5
  have z6 := hz2 6
  have HUn : Hid (Upd (fun k => k = qx) w2 (((((((w2.setCell ⟨qx, 0, none⟩ (.int .i64 y.root)).setCell ⟨qx, 1, none⟩ (.int .i64 y.page)).setCell ⟨qx, 2, none⟩ (.int .i64 y.dest)).setCell ⟨qx, 3, none⟩ (.bool y.may)).setCell ⟨qx, 4, none⟩ (.bool y.lf.there)).setCell ⟨qx, 5, none⟩ (.bool y.lf.wr)).setCell ⟨qx, 6, none⟩ (.int .i64 y.lf.fr))) := Upd.seven' w2 qx y
  have HEn : Hid (EnAt (((((((w2.setCell ⟨qx, 0, none⟩ (.int .i64 y.root)).setCell ⟨qx, 1, none⟩ (.int .i64 y.page)).setCell ⟨qx, 2, none⟩ (.int .i64 y.dest)).setCell ⟨qx, 3, none⟩ (.bool y.may)).setCell ⟨qx, 4, none⟩ (.bool y.lf.there)).setCell ⟨qx, 5, none⟩ (.bool y.lf.wr)).setCell ⟨qx, 6, none⟩ (.int .i64 y.lf.fr)) qx y) := EnAt.seven' hE2 hz2 y
  have hzn := frozen_seven' hz2 y
  have HGn : Hid (GG (((((((w2.setCell ⟨qx, 0, none⟩ (.int .i64 y.root)).setCell ⟨qx, 1, none⟩ (.int .i64 y.page)).setCell ⟨qx, 2, none⟩ (.int .i64 y.dest)).setCell ⟨qx, 3, none⟩ (.bool y.may)).setCell ⟨qx, 4, none⟩ (.bool y.lf.there)).setCell ⟨qx, 5, none⟩ (.bool y.lf.wr)).setCell ⟨qx, 6, none⟩ (.int .i64 y.lf.fr)) bg bp bf bl bc s1 g1 b W1) := hg2.upd HUn.out (by omega) (by omega) (by omega) (by omega) (by omega)
  have HU2 : Hid (Upd (GFt bg bf bl bc) w w2) := (HU.out.wide (T := GFt bg bf bl bc) (fun _ f => f.elim)).trans hu2 (fun _ _ e => e)
  have HG2 : Hid (GG w2 bg bp bf bl bc s1 g1 b W1) := hg2
  clear hg2 hu2 hE2 hz2 hzn HWK HE HZ
  go_wp2_with fail
  go_ret2
  exact ⟨rfl, HGn.out, HU2.out.trans HUn.out (fun i hi e => by have := HQ.out; omega)⟩
set_option maxHeartbeats 1000000 in
theorem GG.unknown_fault (h : GG w bg bp bf bl bc s g b W) (k : Nat) (hf : fndI g.c g.root (k : Int) < 0) {s1 : Pl} {g1 : Gs} {W1 : Int} (y : En) (hm : y.may = false)
    (hw : ∀ w1, GG w1 bg bp bf bl bc s g b W → Calls Tryz.prog 175 #[.pointer (some ⟨bg, 0, none⟩), .int .i64 k] w1 fun e w' => e = .returned (.tuple #[.agg #[.int .i64 y.root, .int .i64 y.page, .int .i64 y.dest, .bool y.may, .bool y.lf.there, .bool y.lf.wr, .int .i64 y.lf.fr], .nilIface]) ∧ GG w' bg bp bf bl bc s1 g1 b W1 ∧ Upd (GFt bg bf bl bc) w1 w') :
    Calls Tryz.prog 140 #[.pointer (some ⟨bg, 0, none⟩), .int .i64 k, .bool true] w (FPost w bg bp bf bl bc ((0, 5), s1, g1) b W1) := by
  have HH : Hid (GG w bg bp bf bl bc s g b W) := h
  have HF : Hid (∀ w1, Upd (fun _ => False) w w1 → Calls Tryz.prog 174 #[.pointer (some ⟨bc, 0, none⟩), .int .i64 g.root, .int .i64 k] w1 fun e w' => e = .returned (.tuple #[.agg #[.int .i64 en0.root, .int .i64 en0.page, .int .i64 en0.dest, .bool en0.may, .bool en0.lf.there, .bool en0.lf.wr, .int .i64 en0.lf.fr], .bool false]) ∧ Upd (fun _ => False) w1 w') := fun w1 u => (HH.out.same u).find_no k hf
  have c2 := h.ce.c2
  have c3 := h.ce.c3
  have l1 := h.ce.lt
  have l2 := h.lv.lt
  have l3 := h.ca.lt
  have l4 := h.pool.lt h.hn
  have l5 : bp < w.heap.size := by obtain ⟨cap, hc⟩ := h.pool.hd; exact World.block_lt_of_cell? w _ hc
  have HW : Hid _ := hw
  clear h hf hw
  unfold FPost
  have HM : Hid _ := hm
  clear hm
  simp only
  rw [errV_no (show (5 : Int) ≠ 0 by omega)]
  go_enter Tryz.func140, Tryz.ntmps140
  go_upto_region 1 with fail
  refine fol_rg1 w bg bc k g.root true false en0 c2 c3 HF.out ?_
  intro v13 v14 v15 v16 v17 v18 v19 v20 v21 v22 v23 v24 v25 w1 qx hE hz hu hq
  have HWK : Hid _ := HW.out w1 (HH.out.same hu)
  have hqg : ¬ GFt bg bf bl bc qx := by unfold GFt; omega
  have HE : Hid (EnAt w1 qx en0) := hE
  have HZ : Hid _ := hz
  have HU : Hid _ := hu
  have HQ : Hid _ := hq
  clear hE hz hu HF HW c2 c3
  go_wp2_with fail
  refine Calls.mono HWK.out ?_
  rintro e w2 ⟨rfl, hg2, hu2⟩
  have hE2 : EnAt w2 qx en0 := HE.out.upd hu2 hqg
  have lq1 : qx < w1.heap.size := World.block_lt_of_cell? w1 _ (show w1.cell? ⟨qx, 0, none⟩ = some (.int .i64 0) from HE.out 0 (by omega))
  have hz2 := frozen_keep hu2 lq1 hqg HZ.out
  have y0 : w2.cell? ⟨qx, 0, none⟩ = some (.int .i64 0) := hE2 0 (by omega)
  have y1 : w2.cell? ⟨qx, 1, none⟩ = some (.int .i64 0) := hE2 1 (by omega)
  have y2 : w2.cell? ⟨qx, 2, none⟩ = some (.int .i64 0) := hE2 2 (by omega)
  have y3 : w2.cell? ⟨qx, 3, none⟩ = some (.bool false) := hE2 3 (by omega)
  have y4 : w2.cell? ⟨qx, 4, none⟩ = some (.bool false) := hE2 4 (by omega)
  have y5 : w2.cell? ⟨qx, 5, none⟩ = some (.bool false) := hE2 5 (by omega)
  have y6 : w2.cell? ⟨qx, 6, none⟩ = some (.int .i64 0) := hE2 6 (by omega)
  have z0 := hz2 0
  have z1 := hz2 1
  have z2 := hz2 2
  have z3 := hz2 3
  have z4 := hz2 4
  have z5 := hz2 5
  have z6 := hz2 6
  have HUn : Hid (Upd (fun k => k = qx) w2 (((((((w2.setCell ⟨qx, 0, none⟩ (.int .i64 y.root)).setCell ⟨qx, 1, none⟩ (.int .i64 y.page)).setCell ⟨qx, 2, none⟩ (.int .i64 y.dest)).setCell ⟨qx, 3, none⟩ (.bool y.may)).setCell ⟨qx, 4, none⟩ (.bool y.lf.there)).setCell ⟨qx, 5, none⟩ (.bool y.lf.wr)).setCell ⟨qx, 6, none⟩ (.int .i64 y.lf.fr))) := Upd.seven' w2 qx y
  have HEn : Hid (EnAt (((((((w2.setCell ⟨qx, 0, none⟩ (.int .i64 y.root)).setCell ⟨qx, 1, none⟩ (.int .i64 y.page)).setCell ⟨qx, 2, none⟩ (.int .i64 y.dest)).setCell ⟨qx, 3, none⟩ (.bool y.may)).setCell ⟨qx, 4, none⟩ (.bool y.lf.there)).setCell ⟨qx, 5, none⟩ (.bool y.lf.wr)).setCell ⟨qx, 6, none⟩ (.int .i64 y.lf.fr)) qx y) := EnAt.seven' hE2 hz2 y
  have hzn := frozen_seven' hz2 y
  have HGn : Hid (GG (((((((w2.setCell ⟨qx, 0, none⟩ (.int .i64 y.root)).setCell ⟨qx, 1, none⟩ (.int .i64 y.page)).setCell ⟨qx, 2, none⟩ (.int .i64 y.dest)).setCell ⟨qx, 3, none⟩ (.bool y.may)).setCell ⟨qx, 4, none⟩ (.bool y.lf.there)).setCell ⟨qx, 5, none⟩ (.bool y.lf.wr)).setCell ⟨qx, 6, none⟩ (.int .i64 y.lf.fr)) bg bp bf bl bc s1 g1 b W1) := hg2.upd HUn.out (by omega) (by omega) (by omega) (by omega) (by omega)
  have HU2 : Hid (Upd (GFt bg bf bl bc) w w2) := (HU.out.wide (T := GFt bg bf bl bc) (fun _ f => f.elim)).trans hu2 (fun _ _ e => e)
  have e3 : (((((((w2.setCell ⟨qx, 0, none⟩ (.int .i64 y.root)).setCell ⟨qx, 1, none⟩ (.int .i64 y.page)).setCell ⟨qx, 2, none⟩ (.int .i64 y.dest)).setCell ⟨qx, 3, none⟩ (.bool y.may)).setCell ⟨qx, 4, none⟩ (.bool y.lf.there)).setCell ⟨qx, 5, none⟩ (.bool y.lf.wr)).setCell ⟨qx, 6, none⟩ (.int .i64 y.lf.fr)).cell? ⟨qx, 3, none⟩ = some (.bool y.may) := HEn.out 3 (by omega)
  simp only [HM.out] at e3 HEn HUn HGn
  clear hg2 hu2 hE2 hz2 hzn HWK HE HZ
  rw [HM.out]
  go_wp2_with fail
  go_ret2
  exact ⟨rfl, HGn.out, HU2.out.trans HUn.out (fun i hi e => by have := HQ.out; omega)⟩
set_option maxHeartbeats 1000000 in
theorem GG.unknown_r_err (h : GG w bg bp bf bl bc s g b W) (k : Nat) (hf : fndI g.c g.root (k : Int) < 0) {s1 : Pl} {g1 : Gs} {W1 : Int} (y : En) (hy : 0 ≤ y.dest ∧ y.dest < 16) (he : (gTouch s1 g1 y.dest false).1.2 ≠ 0)
    (hw : ∀ w1, GG w1 bg bp bf bl bc s g b W → Calls Tryz.prog 175 #[.pointer (some ⟨bg, 0, none⟩), .int .i64 k] w1 fun e w' => e = .returned (.tuple #[.agg #[.int .i64 y.root, .int .i64 y.page, .int .i64 y.dest, .bool y.may, .bool y.lf.there, .bool y.lf.wr, .int .i64 y.lf.fr], .nilIface]) ∧ GG w' bg bp bf bl bc s1 g1 b W1 ∧ Upd (GFt bg bf bl bc) w1 w') :
    Calls Tryz.prog 140 #[.pointer (some ⟨bg, 0, none⟩), .int .i64 k, .bool false] w (FPost w bg bp bf bl bc ((0, (gTouch s1 g1 y.dest false).1.2), (gTouch s1 g1 y.dest false).2) b W1) := by
  have HH : Hid (GG w bg bp bf bl bc s g b W) := h
  have HF : Hid (∀ w1, Upd (fun _ => False) w w1 → Calls Tryz.prog 174 #[.pointer (some ⟨bc, 0, none⟩), .int .i64 g.root, .int .i64 k] w1 fun e w' => e = .returned (.tuple #[.agg #[.int .i64 en0.root, .int .i64 en0.page, .int .i64 en0.dest, .bool en0.may, .bool en0.lf.there, .bool en0.lf.wr, .int .i64 en0.lf.fr], .bool false]) ∧ Upd (fun _ => False) w1 w') := fun w1 u => (HH.out.same u).find_no k hf
  have c2 := h.ce.c2
  have c3 := h.ce.c3
  have l1 := h.ce.lt
  have l2 := h.lv.lt
  have l3 := h.ca.lt
  have l4 := h.pool.lt h.hn
  have l5 : bp < w.heap.size := by obtain ⟨cap, hc⟩ := h.pool.hd; exact World.block_lt_of_cell? w _ hc
  have HW : Hid _ := hw
  clear h hf hw
  unfold FPost
  have HE0 : Hid _ := he
  have HY : Hid (0 ≤ y.dest ∧ y.dest < 16) := hy
  clear he hy
  simp only
  rw [errV_no HE0.out]
  go_enter Tryz.func140, Tryz.ntmps140
  go_upto_region 1 with fail
  refine fol_rg1 w bg bc k g.root false false en0 c2 c3 HF.out ?_
  intro v13 v14 v15 v16 v17 v18 v19 v20 v21 v22 v23 v24 v25 w1 qx hE hz hu hq
  have HWK : Hid _ := HW.out w1 (HH.out.same hu)
  have hqg : ¬ GFt bg bf bl bc qx := by unfold GFt; omega
  have HE : Hid (EnAt w1 qx en0) := hE
  have HZ : Hid _ := hz
  have HU : Hid _ := hu
  have HQ : Hid _ := hq
  clear hE hz hu HF HW c2 c3
  go_wp2_with fail
  refine Calls.mono HWK.out ?_
  rintro e w2 ⟨rfl, hg2, hu2⟩
  have hE2 : EnAt w2 qx en0 := HE.out.upd hu2 hqg
  have lq1 : qx < w1.heap.size := World.block_lt_of_cell? w1 _ (show w1.cell? ⟨qx, 0, none⟩ = some (.int .i64 0) from HE.out 0 (by omega))
  have hz2 := frozen_keep hu2 lq1 hqg HZ.out
  have y0 : w2.cell? ⟨qx, 0, none⟩ = some (.int .i64 0) := hE2 0 (by omega)
  have y1 : w2.cell? ⟨qx, 1, none⟩ = some (.int .i64 0) := hE2 1 (by omega)
  have y2 : w2.cell? ⟨qx, 2, none⟩ = some (.int .i64 0) := hE2 2 (by omega)
  have y3 : w2.cell? ⟨qx, 3, none⟩ = some (.bool false) := hE2 3 (by omega)
  have y4 : w2.cell? ⟨qx, 4, none⟩ = some (.bool false) := hE2 4 (by omega)
  have y5 : w2.cell? ⟨qx, 5, none⟩ = some (.bool false) := hE2 5 (by omega)
  have y6 : w2.cell? ⟨qx, 6, none⟩ = some (.int .i64 0) := hE2 6 (by omega)
  have z0 := hz2 0
  have z1 := hz2 1
  have z2 := hz2 2
  have z3 := hz2 3
  have z4 := hz2 4
  have z5 := hz2 5
  have z6 := hz2 6
  have HUn : Hid (Upd (fun k => k = qx) w2 (((((((w2.setCell ⟨qx, 0, none⟩ (.int .i64 y.root)).setCell ⟨qx, 1, none⟩ (.int .i64 y.page)).setCell ⟨qx, 2, none⟩ (.int .i64 y.dest)).setCell ⟨qx, 3, none⟩ (.bool y.may)).setCell ⟨qx, 4, none⟩ (.bool y.lf.there)).setCell ⟨qx, 5, none⟩ (.bool y.lf.wr)).setCell ⟨qx, 6, none⟩ (.int .i64 y.lf.fr))) := Upd.seven' w2 qx y
  have HEn : Hid (EnAt (((((((w2.setCell ⟨qx, 0, none⟩ (.int .i64 y.root)).setCell ⟨qx, 1, none⟩ (.int .i64 y.page)).setCell ⟨qx, 2, none⟩ (.int .i64 y.dest)).setCell ⟨qx, 3, none⟩ (.bool y.may)).setCell ⟨qx, 4, none⟩ (.bool y.lf.there)).setCell ⟨qx, 5, none⟩ (.bool y.lf.wr)).setCell ⟨qx, 6, none⟩ (.int .i64 y.lf.fr)) qx y) := EnAt.seven' hE2 hz2 y
  have hzn := frozen_seven' hz2 y
  have HGn : Hid (GG (((((((w2.setCell ⟨qx, 0, none⟩ (.int .i64 y.root)).setCell ⟨qx, 1, none⟩ (.int .i64 y.page)).setCell ⟨qx, 2, none⟩ (.int .i64 y.dest)).setCell ⟨qx, 3, none⟩ (.bool y.may)).setCell ⟨qx, 4, none⟩ (.bool y.lf.there)).setCell ⟨qx, 5, none⟩ (.bool y.lf.wr)).setCell ⟨qx, 6, none⟩ (.int .i64 y.lf.fr)) bg bp bf bl bc s1 g1 b W1) := hg2.upd HUn.out (by omega) (by omega) (by omega) (by omega) (by omega)
  have HU2 : Hid (Upd (GFt bg bf bl bc) w w2) := (HU.out.wide (T := GFt bg bf bl bc) (fun _ f => f.elim)).trans hu2 (fun _ _ e => e)
  have e2 : (((((((w2.setCell ⟨qx, 0, none⟩ (.int .i64 y.root)).setCell ⟨qx, 1, none⟩ (.int .i64 y.page)).setCell ⟨qx, 2, none⟩ (.int .i64 y.dest)).setCell ⟨qx, 3, none⟩ (.bool y.may)).setCell ⟨qx, 4, none⟩ (.bool y.lf.there)).setCell ⟨qx, 5, none⟩ (.bool y.lf.wr)).setCell ⟨qx, 6, none⟩ (.int .i64 y.lf.fr)).cell? ⟨qx, 2, none⟩ = some (.int .i64 y.dest) := HEn.out 2 (by omega)
  have ht := HGn.out.touch y.dest false
  rw [errV_no HE0.out] at ht
  have HT : Hid _ := ht
  have HZn : Hid _ := hzn
  have HG1 : Hid (GG w2 bg bp bf bl bc s1 g1 b W1) := hg2
  clear hg2 hu2 hE2 hz2 hzn HWK HE HZ ht
  go_wp2_with fail
  revert HT e2 HGn HZn HEn HUn
  generalize (((((((w2.setCell ⟨qx, 0, none⟩ (.int .i64 y.root)).setCell ⟨qx, 1, none⟩ (.int .i64 y.page)).setCell ⟨qx, 2, none⟩ (.int .i64 y.dest)).setCell ⟨qx, 3, none⟩ (.bool y.may)).setCell ⟨qx, 4, none⟩ (.bool y.lf.there)).setCell ⟨qx, 5, none⟩ (.bool y.lf.wr)).setCell ⟨qx, 6, none⟩ (.int .i64 y.lf.fr)) = w3
  intro HUn HEn HGn e2 HT HZn
  refine Calls.mono HT.out ?_
  rintro e w4 ⟨rfl, hg4, hu4⟩
  have HG4 : Hid (GG w4 bg bp bf bl bc (gTouch s1 g1 y.dest false).2.1 (gTouch s1 g1 y.dest false).2.2 b W1) := hg4
  have HU4 : Hid (Upd (GFt bg bf bl bc) w w4) := (HU2.out.trans HUn.out (fun i hi e => by have := HQ.out; omega)).trans hu4 (fun _ _ e => e)
  clear hg4 hu4 HT
  go_wp2_with fail
  go_ret2
  exact ⟨rfl, HG4.out, HU4.out⟩
set_option maxHeartbeats 1000000 in
theorem GG.unknown_w_err (h : GG w bg bp bf bl bc s g b W) (k : Nat) (hf : fndI g.c g.root (k : Int) < 0) {s1 : Pl} {g1 : Gs} {W1 : Int} (y : En) (hm : y.may = true) (hy : 0 ≤ y.dest ∧ y.dest < 16) (he : (gTouch s1 g1 y.dest true).1.2 ≠ 0)
    (hw : ∀ w1, GG w1 bg bp bf bl bc s g b W → Calls Tryz.prog 175 #[.pointer (some ⟨bg, 0, none⟩), .int .i64 k] w1 fun e w' => e = .returned (.tuple #[.agg #[.int .i64 y.root, .int .i64 y.page, .int .i64 y.dest, .bool y.may, .bool y.lf.there, .bool y.lf.wr, .int .i64 y.lf.fr], .nilIface]) ∧ GG w' bg bp bf bl bc s1 g1 b W1 ∧ Upd (GFt bg bf bl bc) w1 w') :
    Calls Tryz.prog 140 #[.pointer (some ⟨bg, 0, none⟩), .int .i64 k, .bool true] w (FPost w bg bp bf bl bc ((0, (gTouch s1 g1 y.dest true).1.2), (gTouch s1 g1 y.dest true).2) b W1) := by
  have HH : Hid (GG w bg bp bf bl bc s g b W) := h
  have HF : Hid (∀ w1, Upd (fun _ => False) w w1 → Calls Tryz.prog 174 #[.pointer (some ⟨bc, 0, none⟩), .int .i64 g.root, .int .i64 k] w1 fun e w' => e = .returned (.tuple #[.agg #[.int .i64 en0.root, .int .i64 en0.page, .int .i64 en0.dest, .bool en0.may, .bool en0.lf.there, .bool en0.lf.wr, .int .i64 en0.lf.fr], .bool false]) ∧ Upd (fun _ => False) w1 w') := fun w1 u => (HH.out.same u).find_no k hf
  have c2 := h.ce.c2
  have c3 := h.ce.c3
  have l1 := h.ce.lt
  have l2 := h.lv.lt
  have l3 := h.ca.lt
  have l4 := h.pool.lt h.hn
  have l5 : bp < w.heap.size := by obtain ⟨cap, hc⟩ := h.pool.hd; exact World.block_lt_of_cell? w _ hc
  have HW : Hid _ := hw
  clear h hf hw
  unfold FPost
  have HE0 : Hid _ := he
  have HY : Hid (0 ≤ y.dest ∧ y.dest < 16) := hy
  have HM : Hid _ := hm
  clear he hy hm
  simp only
  rw [errV_no HE0.out]
  go_enter Tryz.func140, Tryz.ntmps140
  go_upto_region 1 with fail
  refine fol_rg1 w bg bc k g.root true false en0 c2 c3 HF.out ?_
  intro v13 v14 v15 v16 v17 v18 v19 v20 v21 v22 v23 v24 v25 w1 qx hE hz hu hq
  have HWK : Hid _ := HW.out w1 (HH.out.same hu)
  have hqg : ¬ GFt bg bf bl bc qx := by unfold GFt; omega
  have HE : Hid (EnAt w1 qx en0) := hE
  have HZ : Hid _ := hz
  have HU : Hid _ := hu
  have HQ : Hid _ := hq
  clear hE hz hu HF HW c2 c3
  go_wp2_with fail
  refine Calls.mono HWK.out ?_
  rintro e w2 ⟨rfl, hg2, hu2⟩
  have hE2 : EnAt w2 qx en0 := HE.out.upd hu2 hqg
  have lq1 : qx < w1.heap.size := World.block_lt_of_cell? w1 _ (show w1.cell? ⟨qx, 0, none⟩ = some (.int .i64 0) from HE.out 0 (by omega))
  have hz2 := frozen_keep hu2 lq1 hqg HZ.out
  have y0 : w2.cell? ⟨qx, 0, none⟩ = some (.int .i64 0) := hE2 0 (by omega)
  have y1 : w2.cell? ⟨qx, 1, none⟩ = some (.int .i64 0) := hE2 1 (by omega)
  have y2 : w2.cell? ⟨qx, 2, none⟩ = some (.int .i64 0) := hE2 2 (by omega)
  have y3 : w2.cell? ⟨qx, 3, none⟩ = some (.bool false) := hE2 3 (by omega)
  have y4 : w2.cell? ⟨qx, 4, none⟩ = some (.bool false) := hE2 4 (by omega)
  have y5 : w2.cell? ⟨qx, 5, none⟩ = some (.bool false) := hE2 5 (by omega)
  have y6 : w2.cell? ⟨qx, 6, none⟩ = some (.int .i64 0) := hE2 6 (by omega)
  have z0 := hz2 0
  have z1 := hz2 1
  have z2 := hz2 2
  have z3 := hz2 3
  have z4 := hz2 4
  have z5 := hz2 5
  have z6 := hz2 6
  have HUn : Hid (Upd (fun k => k = qx) w2 (((((((w2.setCell ⟨qx, 0, none⟩ (.int .i64 y.root)).setCell ⟨qx, 1, none⟩ (.int .i64 y.page)).setCell ⟨qx, 2, none⟩ (.int .i64 y.dest)).setCell ⟨qx, 3, none⟩ (.bool y.may)).setCell ⟨qx, 4, none⟩ (.bool y.lf.there)).setCell ⟨qx, 5, none⟩ (.bool y.lf.wr)).setCell ⟨qx, 6, none⟩ (.int .i64 y.lf.fr))) := Upd.seven' w2 qx y
  have HEn : Hid (EnAt (((((((w2.setCell ⟨qx, 0, none⟩ (.int .i64 y.root)).setCell ⟨qx, 1, none⟩ (.int .i64 y.page)).setCell ⟨qx, 2, none⟩ (.int .i64 y.dest)).setCell ⟨qx, 3, none⟩ (.bool y.may)).setCell ⟨qx, 4, none⟩ (.bool y.lf.there)).setCell ⟨qx, 5, none⟩ (.bool y.lf.wr)).setCell ⟨qx, 6, none⟩ (.int .i64 y.lf.fr)) qx y) := EnAt.seven' hE2 hz2 y
  have hzn := frozen_seven' hz2 y
  have HGn : Hid (GG (((((((w2.setCell ⟨qx, 0, none⟩ (.int .i64 y.root)).setCell ⟨qx, 1, none⟩ (.int .i64 y.page)).setCell ⟨qx, 2, none⟩ (.int .i64 y.dest)).setCell ⟨qx, 3, none⟩ (.bool y.may)).setCell ⟨qx, 4, none⟩ (.bool y.lf.there)).setCell ⟨qx, 5, none⟩ (.bool y.lf.wr)).setCell ⟨qx, 6, none⟩ (.int .i64 y.lf.fr)) bg bp bf bl bc s1 g1 b W1) := hg2.upd HUn.out (by omega) (by omega) (by omega) (by omega) (by omega)
  have HU2 : Hid (Upd (GFt bg bf bl bc) w w2) := (HU.out.wide (T := GFt bg bf bl bc) (fun _ f => f.elim)).trans hu2 (fun _ _ e => e)
  have e3 : (((((((w2.setCell ⟨qx, 0, none⟩ (.int .i64 y.root)).setCell ⟨qx, 1, none⟩ (.int .i64 y.page)).setCell ⟨qx, 2, none⟩ (.int .i64 y.dest)).setCell ⟨qx, 3, none⟩ (.bool y.may)).setCell ⟨qx, 4, none⟩ (.bool y.lf.there)).setCell ⟨qx, 5, none⟩ (.bool y.lf.wr)).setCell ⟨qx, 6, none⟩ (.int .i64 y.lf.fr)).cell? ⟨qx, 3, none⟩ = some (.bool true) := by rw [← HM.out]; exact HEn.out 3 (by omega)
  have e2 : (((((((w2.setCell ⟨qx, 0, none⟩ (.int .i64 y.root)).setCell ⟨qx, 1, none⟩ (.int .i64 y.page)).setCell ⟨qx, 2, none⟩ (.int .i64 y.dest)).setCell ⟨qx, 3, none⟩ (.bool y.may)).setCell ⟨qx, 4, none⟩ (.bool y.lf.there)).setCell ⟨qx, 5, none⟩ (.bool y.lf.wr)).setCell ⟨qx, 6, none⟩ (.int .i64 y.lf.fr)).cell? ⟨qx, 2, none⟩ = some (.int .i64 y.dest) := HEn.out 2 (by omega)
  have ht := HGn.out.touch y.dest true
  rw [errV_no HE0.out] at ht
  have HT : Hid _ := ht
  have HZn : Hid _ := hzn
  have HG1 : Hid (GG w2 bg bp bf bl bc s1 g1 b W1) := hg2
  clear hg2 hu2 hE2 hz2 hzn HWK HE HZ ht
  go_wp2_with fail
  revert HT e2 HGn HZn HEn HUn e3
  generalize (((((((w2.setCell ⟨qx, 0, none⟩ (.int .i64 y.root)).setCell ⟨qx, 1, none⟩ (.int .i64 y.page)).setCell ⟨qx, 2, none⟩ (.int .i64 y.dest)).setCell ⟨qx, 3, none⟩ (.bool y.may)).setCell ⟨qx, 4, none⟩ (.bool y.lf.there)).setCell ⟨qx, 5, none⟩ (.bool y.lf.wr)).setCell ⟨qx, 6, none⟩ (.int .i64 y.lf.fr)) = w3
  intro HUn HEn HGn e3 e2 HT HZn
  refine Calls.mono HT.out ?_
  rintro e w4 ⟨rfl, hg4, hu4⟩
  have HG4 : Hid (GG w4 bg bp bf bl bc (gTouch s1 g1 y.dest true).2.1 (gTouch s1 g1 y.dest true).2.2 b W1) := hg4
  have HU4 : Hid (Upd (GFt bg bf bl bc) w w4) := (HU2.out.trans HUn.out (fun i hi e => by have := HQ.out; omega)).trans hu4 (fun _ _ e => e)
  clear hg4 hu4 HT
  go_wp2_with fail
  go_ret2
  exact ⟨rfl, HG4.out, HU4.out⟩
set_option maxHeartbeats 1000000 in
theorem GG.unknown_r_ok (h : GG w bg bp bf bl bc s g b W) (k : Nat) (hf : fndI g.c g.root (k : Int) < 0) {s1 : Pl} {g1 : Gs} {W1 : Int} (y : En) (hy : 0 ≤ y.dest ∧ y.dest < 16) (he : (gTouch s1 g1 y.dest false).1.2 = 0)
    (hw : ∀ w1, GG w1 bg bp bf bl bc s g b W → Calls Tryz.prog 175 #[.pointer (some ⟨bg, 0, none⟩), .int .i64 k] w1 fun e w' => e = .returned (.tuple #[.agg #[.int .i64 y.root, .int .i64 y.page, .int .i64 y.dest, .bool y.may, .bool y.lf.there, .bool y.lf.wr, .int .i64 y.lf.fr], .nilIface]) ∧ GG w' bg bp bf bl bc s1 g1 b W1 ∧ Upd (GFt bg bf bl bc) w1 w') :
    Calls Tryz.prog 140 #[.pointer (some ⟨bg, 0, none⟩), .int .i64 k, .bool false] w (FPost w bg bp bf bl bc (((gTouch s1 g1 y.dest false).1.1, 0), (gTouch s1 g1 y.dest false).2.1, { (gTouch s1 g1 y.dest false).2.2 with c := putC (gTouch s1 g1 y.dest false).2.2.c y }) b W1) := by
  have HH : Hid (GG w bg bp bf bl bc s g b W) := h
  have HF : Hid (∀ w1, Upd (fun _ => False) w w1 → Calls Tryz.prog 174 #[.pointer (some ⟨bc, 0, none⟩), .int .i64 g.root, .int .i64 k] w1 fun e w' => e = .returned (.tuple #[.agg #[.int .i64 en0.root, .int .i64 en0.page, .int .i64 en0.dest, .bool en0.may, .bool en0.lf.there, .bool en0.lf.wr, .int .i64 en0.lf.fr], .bool false]) ∧ Upd (fun _ => False) w1 w') := fun w1 u => (HH.out.same u).find_no k hf
  have c2 := h.ce.c2
  have c3 := h.ce.c3
  have l1 := h.ce.lt
  have l2 := h.lv.lt
  have l3 := h.ca.lt
  have l4 := h.pool.lt h.hn
  have l5 : bp < w.heap.size := by obtain ⟨cap, hc⟩ := h.pool.hd; exact World.block_lt_of_cell? w _ hc
  have HW : Hid _ := hw
  clear h hf hw
  unfold FPost
  have HE0 : Hid _ := he
  have HY : Hid (0 ≤ y.dest ∧ y.dest < 16) := hy
  clear he hy
  simp only
  rw [errV_zero]
  go_enter Tryz.func140, Tryz.ntmps140
  go_upto_region 1 with fail
  refine fol_rg1 w bg bc k g.root false false en0 c2 c3 HF.out ?_
  intro v13 v14 v15 v16 v17 v18 v19 v20 v21 v22 v23 v24 v25 w1 qx hE hz hu hq
  have HWK : Hid _ := HW.out w1 (HH.out.same hu)
  have hqg : ¬ GFt bg bf bl bc qx := by unfold GFt; omega
  have HE : Hid (EnAt w1 qx en0) := hE
  have HZ : Hid _ := hz
  have HU : Hid _ := hu
  have HQ : Hid _ := hq
  clear hE hz hu HF HW c2 c3
  go_wp2_with fail
  refine Calls.mono HWK.out ?_
  rintro e w2 ⟨rfl, hg2, hu2⟩
  have hE2 : EnAt w2 qx en0 := HE.out.upd hu2 hqg
  have lq1 : qx < w1.heap.size := World.block_lt_of_cell? w1 _ (show w1.cell? ⟨qx, 0, none⟩ = some (.int .i64 0) from HE.out 0 (by omega))
  have hz2 := frozen_keep hu2 lq1 hqg HZ.out
  have y0 : w2.cell? ⟨qx, 0, none⟩ = some (.int .i64 0) := hE2 0 (by omega)
  have y1 : w2.cell? ⟨qx, 1, none⟩ = some (.int .i64 0) := hE2 1 (by omega)
  have y2 : w2.cell? ⟨qx, 2, none⟩ = some (.int .i64 0) := hE2 2 (by omega)
  have y3 : w2.cell? ⟨qx, 3, none⟩ = some (.bool false) := hE2 3 (by omega)
  have y4 : w2.cell? ⟨qx, 4, none⟩ = some (.bool false) := hE2 4 (by omega)
  have y5 : w2.cell? ⟨qx, 5, none⟩ = some (.bool false) := hE2 5 (by omega)
  have y6 : w2.cell? ⟨qx, 6, none⟩ = some (.int .i64 0) := hE2 6 (by omega)
  have z0 := hz2 0
  have z1 := hz2 1
  have z2 := hz2 2
  have z3 := hz2 3
  have z4 := hz2 4
  have z5 := hz2 5
  have z6 := hz2 6
  have HUn : Hid (Upd (fun k => k = qx) w2 (((((((w2.setCell ⟨qx, 0, none⟩ (.int .i64 y.root)).setCell ⟨qx, 1, none⟩ (.int .i64 y.page)).setCell ⟨qx, 2, none⟩ (.int .i64 y.dest)).setCell ⟨qx, 3, none⟩ (.bool y.may)).setCell ⟨qx, 4, none⟩ (.bool y.lf.there)).setCell ⟨qx, 5, none⟩ (.bool y.lf.wr)).setCell ⟨qx, 6, none⟩ (.int .i64 y.lf.fr))) := Upd.seven' w2 qx y
  have HEn : Hid (EnAt (((((((w2.setCell ⟨qx, 0, none⟩ (.int .i64 y.root)).setCell ⟨qx, 1, none⟩ (.int .i64 y.page)).setCell ⟨qx, 2, none⟩ (.int .i64 y.dest)).setCell ⟨qx, 3, none⟩ (.bool y.may)).setCell ⟨qx, 4, none⟩ (.bool y.lf.there)).setCell ⟨qx, 5, none⟩ (.bool y.lf.wr)).setCell ⟨qx, 6, none⟩ (.int .i64 y.lf.fr)) qx y) := EnAt.seven' hE2 hz2 y
  have hzn := frozen_seven' hz2 y
  have HGn : Hid (GG (((((((w2.setCell ⟨qx, 0, none⟩ (.int .i64 y.root)).setCell ⟨qx, 1, none⟩ (.int .i64 y.page)).setCell ⟨qx, 2, none⟩ (.int .i64 y.dest)).setCell ⟨qx, 3, none⟩ (.bool y.may)).setCell ⟨qx, 4, none⟩ (.bool y.lf.there)).setCell ⟨qx, 5, none⟩ (.bool y.lf.wr)).setCell ⟨qx, 6, none⟩ (.int .i64 y.lf.fr)) bg bp bf bl bc s1 g1 b W1) := hg2.upd HUn.out (by omega) (by omega) (by omega) (by omega) (by omega)
  have HU2 : Hid (Upd (GFt bg bf bl bc) w w2) := (HU.out.wide (T := GFt bg bf bl bc) (fun _ f => f.elim)).trans hu2 (fun _ _ e => e)
  have e2 : (((((((w2.setCell ⟨qx, 0, none⟩ (.int .i64 y.root)).setCell ⟨qx, 1, none⟩ (.int .i64 y.page)).setCell ⟨qx, 2, none⟩ (.int .i64 y.dest)).setCell ⟨qx, 3, none⟩ (.bool y.may)).setCell ⟨qx, 4, none⟩ (.bool y.lf.there)).setCell ⟨qx, 5, none⟩ (.bool y.lf.wr)).setCell ⟨qx, 6, none⟩ (.int .i64 y.lf.fr)).cell? ⟨qx, 2, none⟩ = some (.int .i64 y.dest) := HEn.out 2 (by omega)
  have ht := HGn.out.touch y.dest false
  rw [HE0.out, errV_zero] at ht
  have HT : Hid _ := ht
  have HZn : Hid _ := hzn
  have HG1 : Hid (GG w2 bg bp bf bl bc s1 g1 b W1) := hg2
  clear hg2 hu2 hE2 hz2 hzn HWK HE HZ ht
  go_wp2_with fail
  revert HT e2 HGn HZn HEn HUn
  generalize (((((((w2.setCell ⟨qx, 0, none⟩ (.int .i64 y.root)).setCell ⟨qx, 1, none⟩ (.int .i64 y.page)).setCell ⟨qx, 2, none⟩ (.int .i64 y.dest)).setCell ⟨qx, 3, none⟩ (.bool y.may)).setCell ⟨qx, 4, none⟩ (.bool y.lf.there)).setCell ⟨qx, 5, none⟩ (.bool y.lf.wr)).setCell ⟨qx, 6, none⟩ (.int .i64 y.lf.fr)) = w3
  intro HUn HEn HGn e2 HT HZn
  refine Calls.mono HT.out ?_
  rintro e w4 ⟨rfl, hg4, hu4⟩
  have HG4 : Hid (GG w4 bg bp bf bl bc (gTouch s1 g1 y.dest false).2.1 (gTouch s1 g1 y.dest false).2.2 b W1) := hg4
  have HU4 : Hid (Upd (GFt bg bf bl bc) w w4) := (HU2.out.trans HUn.out (fun i hi e => by have := HQ.out; omega)).trans hu4 (fun _ _ e => e)
  have hE4 : EnAt w4 qx y := HEn.out.upd hu4 hqg
  have x0 : w4.cell? ⟨qx, 0, none⟩ = some (.int .i64 y.root) := hE4 0 (by omega)
  have x1 : w4.cell? ⟨qx, 1, none⟩ = some (.int .i64 y.page) := hE4 1 (by omega)
  have x2 : w4.cell? ⟨qx, 2, none⟩ = some (.int .i64 y.dest) := hE4 2 (by omega)
  have x3 : w4.cell? ⟨qx, 3, none⟩ = some (.bool y.may) := hE4 3 (by omega)
  have x4 : w4.cell? ⟨qx, 4, none⟩ = some (.bool y.lf.there) := hE4 4 (by omega)
  have x5 : w4.cell? ⟨qx, 5, none⟩ = some (.bool y.lf.wr) := hE4 5 (by omega)
  have x6 : w4.cell? ⟨qx, 6, none⟩ = some (.int .i64 y.lf.fr) := hE4 6 (by omega)
  obtain ⟨j, hj⟩ := Int.eq_ofNat_of_zero_le HY.out.1
  have hrem := remember_any w4 bg bp bl bc j _ _ y _ _ hg4.ce hg4.lv hg4.ca hj (by have := HY.out; omega) _ rfl
  have HREM : Hid _ := hrem
  have HJ : Hid (y.dest = (j : Int)) := hj
  have HI5 : Hid (GInv (gStep s1 g1 y false false).2.1 (gStep s1 g1 y false false).2.2 b W1) := HG1.out.inv.step y HY.out false false
  have HD5 : Hid (Dist (gStep s1 g1 y false false).2.2.c) := step_dist HG1.out.di HG1.out.inv.len y false false
  clear hg4 hu4 HT hrem hj hE4 e2
  go_wp2_with fail
  refine Calls.mono HREM.out ?_
  rintro e w5 ⟨rfl, hc5, hu5⟩
  have HC5 : Hid _ := hc5
  have HU5 : Hid _ := hu5
  clear hc5 hu5 HREM x0 x1 x2 x3 x4 x5 x6
  go_wp2_with fail
  go_ret2
  have hst : gStep s1 g1 y false false = (((gTouch s1 g1 y.dest false).1.1, 0), (gTouch s1 g1 y.dest false).2.1, { (gTouch s1 g1 y.dest false).2.2 with c := putC (gTouch s1 g1 y.dest false).2.2.c y }) := by
    unfold gStep
    rw [if_neg (by simp), if_neg (by rw [HE0.out]; omega)]
    rfl
  have hI5 := HI5.out
  have hD5 := HD5.out
  rw [hst] at hI5 hD5
  have hps := put_same HG4.out.di HG4.out.inv.len y
  have hsh := shows_put (gTouch s1 g1 y.dest false).2.2.m (gTouch s1 g1 y.dest false).2.2.c y
  have hgs : gShow (gTouch s1 g1 y.dest false).2.2.m y = { y with lf := (gTouch s1 g1 y.dest false).2.2.m.lf j } := by unfold gShow; rw [HJ.out]; rfl
  refine ⟨rfl, HG4.out.setC HU5.out ?_ hI5 hD5, HU4.out.trans HU5.out (fun i hi e => by unfold GFt; omega)⟩
  rw [hps, ← hsh, hgs]
  exact HC5.out
set_option maxHeartbeats 1000000 in
theorem GG.unknown_w_ok (h : GG w bg bp bf bl bc s g b W) (k : Nat) (hf : fndI g.c g.root (k : Int) < 0) {s1 : Pl} {g1 : Gs} {W1 : Int} (y : En) (hm : y.may = true) (hy : 0 ≤ y.dest ∧ y.dest < 16) (he : (gTouch s1 g1 y.dest true).1.2 = 0)
    (hw : ∀ w1, GG w1 bg bp bf bl bc s g b W → Calls Tryz.prog 175 #[.pointer (some ⟨bg, 0, none⟩), .int .i64 k] w1 fun e w' => e = .returned (.tuple #[.agg #[.int .i64 y.root, .int .i64 y.page, .int .i64 y.dest, .bool y.may, .bool y.lf.there, .bool y.lf.wr, .int .i64 y.lf.fr], .nilIface]) ∧ GG w' bg bp bf bl bc s1 g1 b W1 ∧ Upd (GFt bg bf bl bc) w1 w') :
    Calls Tryz.prog 140 #[.pointer (some ⟨bg, 0, none⟩), .int .i64 k, .bool true] w (FPost w bg bp bf bl bc (((gTouch s1 g1 y.dest true).1.1, 0), (gTouch s1 g1 y.dest true).2.1, { (gTouch s1 g1 y.dest true).2.2 with c := putC (gTouch s1 g1 y.dest true).2.2.c y }) b W1) := by
  have HH : Hid (GG w bg bp bf bl bc s g b W) := h
  have HF : Hid (∀ w1, Upd (fun _ => False) w w1 → Calls Tryz.prog 174 #[.pointer (some ⟨bc, 0, none⟩), .int .i64 g.root, .int .i64 k] w1 fun e w' => e = .returned (.tuple #[.agg #[.int .i64 en0.root, .int .i64 en0.page, .int .i64 en0.dest, .bool en0.may, .bool en0.lf.there, .bool en0.lf.wr, .int .i64 en0.lf.fr], .bool false]) ∧ Upd (fun _ => False) w1 w') := fun w1 u => (HH.out.same u).find_no k hf
  have c2 := h.ce.c2
  have c3 := h.ce.c3
  have l1 := h.ce.lt
  have l2 := h.lv.lt
  have l3 := h.ca.lt
  have l4 := h.pool.lt h.hn
  have l5 : bp < w.heap.size := by obtain ⟨cap, hc⟩ := h.pool.hd; exact World.block_lt_of_cell? w _ hc
  have HW : Hid _ := hw
  clear h hf hw
  unfold FPost
  have HE0 : Hid _ := he
  have HY : Hid (0 ≤ y.dest ∧ y.dest < 16) := hy
  have HM : Hid _ := hm
  clear he hy hm
  simp only
  rw [errV_zero]
  go_enter Tryz.func140, Tryz.ntmps140
  go_upto_region 1 with fail
  refine fol_rg1 w bg bc k g.root true false en0 c2 c3 HF.out ?_
  intro v13 v14 v15 v16 v17 v18 v19 v20 v21 v22 v23 v24 v25 w1 qx hE hz hu hq
  have HWK : Hid _ := HW.out w1 (HH.out.same hu)
  have hqg : ¬ GFt bg bf bl bc qx := by unfold GFt; omega
  have HE : Hid (EnAt w1 qx en0) := hE
  have HZ : Hid _ := hz
  have HU : Hid _ := hu
  have HQ : Hid _ := hq
  clear hE hz hu HF HW c2 c3
  go_wp2_with fail
  refine Calls.mono HWK.out ?_
  rintro e w2 ⟨rfl, hg2, hu2⟩
  have hE2 : EnAt w2 qx en0 := HE.out.upd hu2 hqg
  have lq1 : qx < w1.heap.size := World.block_lt_of_cell? w1 _ (show w1.cell? ⟨qx, 0, none⟩ = some (.int .i64 0) from HE.out 0 (by omega))
  have hz2 := frozen_keep hu2 lq1 hqg HZ.out
  have y0 : w2.cell? ⟨qx, 0, none⟩ = some (.int .i64 0) := hE2 0 (by omega)
  have y1 : w2.cell? ⟨qx, 1, none⟩ = some (.int .i64 0) := hE2 1 (by omega)
  have y2 : w2.cell? ⟨qx, 2, none⟩ = some (.int .i64 0) := hE2 2 (by omega)
  have y3 : w2.cell? ⟨qx, 3, none⟩ = some (.bool false) := hE2 3 (by omega)
  have y4 : w2.cell? ⟨qx, 4, none⟩ = some (.bool false) := hE2 4 (by omega)
  have y5 : w2.cell? ⟨qx, 5, none⟩ = some (.bool false) := hE2 5 (by omega)
  have y6 : w2.cell? ⟨qx, 6, none⟩ = some (.int .i64 0) := hE2 6 (by omega)
  have z0 := hz2 0
  have z1 := hz2 1
  have z2 := hz2 2
  have z3 := hz2 3
  have z4 := hz2 4
  have z5 := hz2 5
  have z6 := hz2 6
  have HUn : Hid (Upd (fun k => k = qx) w2 (((((((w2.setCell ⟨qx, 0, none⟩ (.int .i64 y.root)).setCell ⟨qx, 1, none⟩ (.int .i64 y.page)).setCell ⟨qx, 2, none⟩ (.int .i64 y.dest)).setCell ⟨qx, 3, none⟩ (.bool y.may)).setCell ⟨qx, 4, none⟩ (.bool y.lf.there)).setCell ⟨qx, 5, none⟩ (.bool y.lf.wr)).setCell ⟨qx, 6, none⟩ (.int .i64 y.lf.fr))) := Upd.seven' w2 qx y
  have HEn : Hid (EnAt (((((((w2.setCell ⟨qx, 0, none⟩ (.int .i64 y.root)).setCell ⟨qx, 1, none⟩ (.int .i64 y.page)).setCell ⟨qx, 2, none⟩ (.int .i64 y.dest)).setCell ⟨qx, 3, none⟩ (.bool y.may)).setCell ⟨qx, 4, none⟩ (.bool y.lf.there)).setCell ⟨qx, 5, none⟩ (.bool y.lf.wr)).setCell ⟨qx, 6, none⟩ (.int .i64 y.lf.fr)) qx y) := EnAt.seven' hE2 hz2 y
  have hzn := frozen_seven' hz2 y
  have HGn : Hid (GG (((((((w2.setCell ⟨qx, 0, none⟩ (.int .i64 y.root)).setCell ⟨qx, 1, none⟩ (.int .i64 y.page)).setCell ⟨qx, 2, none⟩ (.int .i64 y.dest)).setCell ⟨qx, 3, none⟩ (.bool y.may)).setCell ⟨qx, 4, none⟩ (.bool y.lf.there)).setCell ⟨qx, 5, none⟩ (.bool y.lf.wr)).setCell ⟨qx, 6, none⟩ (.int .i64 y.lf.fr)) bg bp bf bl bc s1 g1 b W1) := hg2.upd HUn.out (by omega) (by omega) (by omega) (by omega) (by omega)
  have HU2 : Hid (Upd (GFt bg bf bl bc) w w2) := (HU.out.wide (T := GFt bg bf bl bc) (fun _ f => f.elim)).trans hu2 (fun _ _ e => e)
  have e3 : (((((((w2.setCell ⟨qx, 0, none⟩ (.int .i64 y.root)).setCell ⟨qx, 1, none⟩ (.int .i64 y.page)).setCell ⟨qx, 2, none⟩ (.int .i64 y.dest)).setCell ⟨qx, 3, none⟩ (.bool y.may)).setCell ⟨qx, 4, none⟩ (.bool y.lf.there)).setCell ⟨qx, 5, none⟩ (.bool y.lf.wr)).setCell ⟨qx, 6, none⟩ (.int .i64 y.lf.fr)).cell? ⟨qx, 3, none⟩ = some (.bool true) := by rw [← HM.out]; exact HEn.out 3 (by omega)
  have e2 : (((((((w2.setCell ⟨qx, 0, none⟩ (.int .i64 y.root)).setCell ⟨qx, 1, none⟩ (.int .i64 y.page)).setCell ⟨qx, 2, none⟩ (.int .i64 y.dest)).setCell ⟨qx, 3, none⟩ (.bool y.may)).setCell ⟨qx, 4, none⟩ (.bool y.lf.there)).setCell ⟨qx, 5, none⟩ (.bool y.lf.wr)).setCell ⟨qx, 6, none⟩ (.int .i64 y.lf.fr)).cell? ⟨qx, 2, none⟩ = some (.int .i64 y.dest) := HEn.out 2 (by omega)
  have ht := HGn.out.touch y.dest true
  rw [HE0.out, errV_zero] at ht
  have HT : Hid _ := ht
  have HZn : Hid _ := hzn
  have HG1 : Hid (GG w2 bg bp bf bl bc s1 g1 b W1) := hg2
  clear hg2 hu2 hE2 hz2 hzn HWK HE HZ ht
  go_wp2_with fail
  revert HT e2 HGn HZn HEn HUn e3
  generalize (((((((w2.setCell ⟨qx, 0, none⟩ (.int .i64 y.root)).setCell ⟨qx, 1, none⟩ (.int .i64 y.page)).setCell ⟨qx, 2, none⟩ (.int .i64 y.dest)).setCell ⟨qx, 3, none⟩ (.bool y.may)).setCell ⟨qx, 4, none⟩ (.bool y.lf.there)).setCell ⟨qx, 5, none⟩ (.bool y.lf.wr)).setCell ⟨qx, 6, none⟩ (.int .i64 y.lf.fr)) = w3
  intro HUn HEn HGn e3 e2 HT HZn
  refine Calls.mono HT.out ?_
  rintro e w4 ⟨rfl, hg4, hu4⟩
  have HG4 : Hid (GG w4 bg bp bf bl bc (gTouch s1 g1 y.dest true).2.1 (gTouch s1 g1 y.dest true).2.2 b W1) := hg4
  have HU4 : Hid (Upd (GFt bg bf bl bc) w w4) := (HU2.out.trans HUn.out (fun i hi e => by have := HQ.out; omega)).trans hu4 (fun _ _ e => e)
  have hE4 : EnAt w4 qx y := HEn.out.upd hu4 hqg
  have x0 : w4.cell? ⟨qx, 0, none⟩ = some (.int .i64 y.root) := hE4 0 (by omega)
  have x1 : w4.cell? ⟨qx, 1, none⟩ = some (.int .i64 y.page) := hE4 1 (by omega)
  have x2 : w4.cell? ⟨qx, 2, none⟩ = some (.int .i64 y.dest) := hE4 2 (by omega)
  have x3 : w4.cell? ⟨qx, 3, none⟩ = some (.bool y.may) := hE4 3 (by omega)
  have x4 : w4.cell? ⟨qx, 4, none⟩ = some (.bool y.lf.there) := hE4 4 (by omega)
  have x5 : w4.cell? ⟨qx, 5, none⟩ = some (.bool y.lf.wr) := hE4 5 (by omega)
  have x6 : w4.cell? ⟨qx, 6, none⟩ = some (.int .i64 y.lf.fr) := hE4 6 (by omega)
  obtain ⟨j, hj⟩ := Int.eq_ofNat_of_zero_le HY.out.1
  have hrem := remember_any w4 bg bp bl bc j _ _ y _ _ hg4.ce hg4.lv hg4.ca hj (by have := HY.out; omega) _ rfl
  have HREM : Hid _ := hrem
  have HJ : Hid (y.dest = (j : Int)) := hj
  have HI5 : Hid (GInv (gStep s1 g1 y false true).2.1 (gStep s1 g1 y false true).2.2 b W1) := HG1.out.inv.step y HY.out false true
  have HD5 : Hid (Dist (gStep s1 g1 y false true).2.2.c) := step_dist HG1.out.di HG1.out.inv.len y false true
  clear hg4 hu4 HT hrem hj hE4 e2 e3
  go_wp2_with fail
  refine Calls.mono HREM.out ?_
  rintro e w5 ⟨rfl, hc5, hu5⟩
  have HC5 : Hid _ := hc5
  have HU5 : Hid _ := hu5
  clear hc5 hu5 HREM x0 x1 x2 x3 x4 x5 x6
  go_wp2_with fail
  go_ret2
  have hst : gStep s1 g1 y false true = (((gTouch s1 g1 y.dest true).1.1, 0), (gTouch s1 g1 y.dest true).2.1, { (gTouch s1 g1 y.dest true).2.2 with c := putC (gTouch s1 g1 y.dest true).2.2.c y }) := by
    unfold gStep
    rw [if_neg (by simp [HM.out]), if_neg (by rw [HE0.out]; omega)]
    rfl
  have hI5 := HI5.out
  have hD5 := HD5.out
  rw [hst] at hI5 hD5
  have hps := put_same HG4.out.di HG4.out.inv.len y
  have hsh := shows_put (gTouch s1 g1 y.dest true).2.2.m (gTouch s1 g1 y.dest true).2.2.c y
  have hgs : gShow (gTouch s1 g1 y.dest true).2.2.m y = { y with lf := (gTouch s1 g1 y.dest true).2.2.m.lf j } := by unfold gShow; rw [HJ.out]; rfl
  refine ⟨rfl, HG4.out.setC HU5.out ?_ hI5 hD5, HU4.out.trans HU5.out (fun i hi e => by unfold GFt; omega)⟩
  rw [hps, ← hsh, hgs]
  exact HC5.out
end Go.Proofs.YtadpibcgjgcjhabGreatDoor
/- Package guest: the frame of an address; Load, Store. -/
namespace Go.Proofs.YtadpibcgjgcjhabGreatDoor
open Go.ChangeShapes Go.WideShapes Go.ChangeAt Go.RowKit
set_option maxRecDepth 1000000
attribute [local go_sem ↓] Go.wp_at_zero Go.wp_at_succ
variable {w w' : World} {bg bp bf bl bc : Nat} {s : Pl} {g : Gs} {b : Mp} {W : Int}

theorem FPost.more {r : (Int × Int) × Pl × Gs} {W W' : Int} (hw : W ≤ W') {e : Ending} (h : FPost w bg bp bf bl bc r b W e w') : FPost w bg bp bf bl bc r b W' e w' := ⟨h.1, h.2.1.more hw, h.2.2⟩
theorem GG.follow_walk (h : GG w bg bp bf bl bc s g b W) (k : Nat) (hk : k < 16) (wt : Bool) (hf : fndI g.c g.root (k : Int) < 0) (hW : W ≤ 1000000) :
    Calls Tryz.prog 140 #[.pointer (some ⟨bg, 0, none⟩), .int .i64 k, .bool wt] w (FPost w bg bp bf bl bc (gWalk s g (k : Int) wt) b (W + 1)) := by
  have hcc : 0 ≤ (gTouch s g g.root false).1.2 := touch_code s g.m g.root false
  unfold gWalk
  rw [Int.toNat_natCast]
  split
  · next h0 =>
    have hne : (gTouch s g g.root false).1.2 ≠ 0 := by omega
    refine (h.unknown_stop k hf en0 wt (gTouch s g g.root false).1.2 hne (fun w1 hg => ?_)).mono (fun e w' hp => hp.more (show W ≤ W + 1 by omega))
    have := hg.walk_err k hne
    rw [errV_no hne] at this
    exact this
  · next h0 =>
    have he : (gTouch s g g.root false).1.2 = 0 := by omega
    have hby := (h.inv.byt.touch g.m g.root false) (gTouch s g g.root false).1.1.toNat k
    split
    · next h1 =>
      refine h.unknown_stop k hf en0 wt 5 (by omega) (fun w1 hg => ?_)
      have := hg.walk_fault k hk hW he h1
      rw [errV_no (show (5 : Int) ≠ 0 by omega)] at this
      exact this
    · next h1 =>
      have hok : ∀ w1, GG w1 bg bp bf bl bc s g b W → _ := fun w1 hg => hg.walk_ok k hk hW he (fun q => h1 q)
      have hy : 0 ≤ (gEn g.root (k : Int) ((gTouch s g g.root false).2.1.byt (gTouch s g g.root false).1.1.toNat k)).dest ∧ (gEn g.root (k : Int) ((gTouch s g g.root false).2.1.byt (gTouch s g g.root false).1.1.toNat k)).dest < 16 := by
        unfold gEn
        simp only
        omega
      have hc2 : 0 ≤ (gTouch (gTouch s g g.root false).2.1 { (gTouch s g g.root false).2.2 with walks := g.walks + 1 } (gEn g.root (k : Int) ((gTouch s g g.root false).2.1.byt (gTouch s g g.root false).1.1.toNat k)).dest wt).1.2 := touch_code _ _ _ _
      unfold gStep
      cases wt with
      | false =>
        simp only [Bool.false_and, Bool.false_eq_true, if_false]
        split
        · next h2 => exact h.unknown_r_err k hf (gEn g.root (k : Int) ((gTouch s g g.root false).2.1.byt (gTouch s g g.root false).1.1.toNat k)) hy (by omega) hok
        · next h2 => exact h.unknown_r_ok k hf (gEn g.root (k : Int) ((gTouch s g g.root false).2.1.byt (gTouch s g g.root false).1.1.toNat k)) hy (Int.le_antisymm (Int.not_lt.1 h2) hc2) hok
      | true =>
        cases hm : (gEn g.root (k : Int) ((gTouch s g g.root false).2.1.byt (gTouch s g g.root false).1.1.toNat k)).may with
        | false =>
          simp only [Bool.true_and, Bool.not_false, if_true]
          exact h.unknown_fault k hf (gEn g.root (k : Int) ((gTouch s g g.root false).2.1.byt (gTouch s g g.root false).1.1.toNat k)) hm hok
        | true =>
          simp only [Bool.true_and, Bool.not_true, Bool.false_eq_true, if_false]
          split
          · next h2 => exact h.unknown_w_err k hf (gEn g.root (k : Int) ((gTouch s g g.root false).2.1.byt (gTouch s g g.root false).1.1.toNat k)) hm hy (by omega) hok
          · next h2 => exact h.unknown_w_ok k hf (gEn g.root (k : Int) ((gTouch s g g.root false).2.1.byt (gTouch s g g.root false).1.1.toNat k)) hm hy (Int.le_antisymm (Int.not_lt.1 h2) hc2) hok
theorem GG.reach (h : GG w bg bp bf bl bc s g b W) (addr : Int) (wt : Bool) (hW : W ≤ 1000000) :
    Calls Tryz.prog 109 #[.pointer (some ⟨bg, 0, none⟩), .int .i64 addr, .bool wt] w (FPost w bg bp bf bl bc (gAt s g addr wt) b (W + 1)) := by
  unfold gAt
  have c3 := h.ce.c3
  split
  · next ho =>
    have HA : Hid _ := isAddr_no w addr ho
    have HH : Hid (GG w bg bp bf bl bc s g b (W + 1)) := h.more (by omega)
    unfold FPost
    simp only
    rw [errV_no (show (1 : Int) ≠ 0 by omega)]
    clear h ho
    go_enter Tryz.func109, Tryz.ntmps109
    go_wp2_with (go_at_call 138; refine Calls.mono HA.out ?_; rintro e w1 ⟨rfl, rfl⟩)
    go_ret2
    exact ⟨rfl, HH.out, Upd.refl _ _⟩
  · next ho =>
    obtain ⟨k, rfl⟩ := Int.eq_ofNat_of_zero_le (show 0 ≤ addr by omega)
    have hwr : IntKind.i64.wrap ((k : Int) / 16) = (k : Int) / 16 := by rw [IntKind.wrap_i64]; omega
    have HA : Hid _ := isAddr_yes w k (by omega) (by omega)
    split
    · next hr =>
      have ht := h.touch ((k : Int) / 16) wt
      have hd : (g.root == -1) = true := by simp [hr]
      unfold FPost
      revert ht
      generalize gTouch s g ((k : Int) / 16) wt = t
      obtain ⟨⟨f, code⟩, s', g'⟩ := t
      intro ht
      simp only at ht ⊢
      generalize errV code = ev at *
      have HT : Hid _ := ht
      clear h ho hr ht
      go_enter Tryz.func109, Tryz.ntmps109
      go_wp2_with (go_at_call 138; refine Calls.mono HA.out ?_; rintro e w1 ⟨rfl, rfl⟩)
      refine Calls.mono HT.out ?_
      rintro e w2 ⟨rfl, hg2, hu2⟩
      have HG2 : Hid (GG w2 bg bp bf bl bc s' g' b (W + 1)) := hg2.more (by omega)
      have HU2 : Hid _ := hu2
      clear hg2 hu2 HT
      go_wp2_with fail
      go_ret2
      exact ⟨rfl, HG2.out, HU2.out⟩
    · next hr =>
      have hd : (g.root == -1) = false := by simp [hr]
      have hj : ((k / 16 : Nat) : Int) = (k : Int) / 16 := by omega
      have ht : ∃ r, Calls Tryz.prog 140 #[.pointer (some ⟨bg, 0, none⟩), .int .i64 ((k : Int) / 16), .bool wt] w (FPost w bg bp bf bl bc r b (W + 1)) ∧ (if 0 ≤ fndI g.c g.root ((k : Int) / 16) then gStep s g (atE g.c (fndI g.c g.root ((k : Int) / 16)).toNat) true wt else gWalk s g ((k : Int) / 16) wt) = r := by
        split
        · next hf => exact ⟨_, (h.follow_known ((k : Int) / 16) wt _ hf rfl).mono (fun _ _ hp => hp.more (show W ≤ W + 1 by omega)), rfl⟩
        · next hf =>
          have := h.follow_walk (k / 16) (by omega) wt (by rw [hj]; omega) hW
          rw [hj] at this
          exact ⟨_, this, rfl⟩
      obtain ⟨⟨⟨f, code⟩, s', g'⟩, ht, hr⟩ := ht
      rw [hr]
      unfold FPost at ht ⊢
      simp only at ht ⊢
      generalize errV code = ev at *
      have HT : Hid _ := ht
      clear h ho hr ht hj
      go_enter Tryz.func109, Tryz.ntmps109
      go_wp2_with (go_at_call 138; refine Calls.mono HA.out ?_; rintro e w1 ⟨rfl, rfl⟩)
      refine Calls.mono HT.out ?_
      rintro e w2 ⟨rfl, hg2, hu2⟩
      have HG2 : Hid (GG w2 bg bp bf bl bc s' g' b (W + 1)) := hg2
      have HU2 : Hid _ := hu2
      clear hg2 hu2 HT
      go_wp2_with fail
      go_ret2
      exact ⟨rfl, HG2.out, HU2.out⟩
/-- No error, and the frame is one that is used. -/
theorem at_used (h : GInv s g b W) (addr : Int) (wt : Bool) (he : (gAt s g addr wt).1.2 = 0) : (gAt s g addr wt).2.1.used (gAt s g addr wt).1.1 = true ∧ 0 ≤ addr ∧ addr ≤ 255 := by
  have step : ∀ (s : Pl) (g : Gs) (x : En) (found : Bool), Inv s g.m b → (gStep s g x found wt).1.2 = 0 → (gStep s g x found wt).2.1.used (gStep s g x found wt).1.1 = true := by
    intro s g x found hi
    have hc : 0 ≤ (gTouch s g x.dest wt).1.2 := touch_code s g.m x.dest wt
    unfold gStep
    repeat' split
    · intro h; simp at h
    · next h0 => intro h; simp only at h; omega
    all_goals (next h0 _ => intro _; exact touch_used hi x.dest wt (by have : (gTouch s g x.dest wt).1.2 = (touchR s g.m x.dest wt).1.2.2 := rfl; omega))
  revert he
  unfold gAt
  split
  · intro h; simp at h
  · next ho =>
    split
    · intro h2; exact ⟨touch_used h.inv _ wt h2, by omega, by omega⟩
    · split
      · intro h2; exact ⟨step _ _ _ _ h.inv h2, by omega, by omega⟩
      · unfold gWalk
        split
        · next h0 => intro h2; simp only at h2; omega
        · split
          · intro h2; simp at h2
          · intro h2
            refine ⟨step _ _ _ _ ?_ h2, by omega, by omega⟩
            exact h.inv.touch g.root false
theorem at_code (s : Pl) (g : Gs) (addr : Int) (wt : Bool) : 0 ≤ (gAt s g addr wt).1.2 := by
  have step : ∀ (s : Pl) (g : Gs) (x : En) (found : Bool), 0 ≤ (gStep s g x found wt).1.2 := by
    intro s g x found
    unfold gStep
    repeat' split
    · simp
    · next h0 => simp only; omega
    all_goals simp
  unfold gAt
  repeat' split
  · simp
  · exact touch_code _ _ _ _
  · exact step _ _ _ _
  · unfold gWalk
    repeat' split
    · next h0 => simp only; omega
    · simp
    · exact step _ _ _ _
def LPost (w : World) (bg bp bf bl bc : Nat) (r : (Int × Int) × Pl × Gs) (b : Mp) (W : Int) (e : Ending) (w' : World) : Prop :=
  e = .returned (.tuple #[.int .u8 r.1.1, errV r.1.2]) ∧ GG w' bg bp bf bl bc r.2.1 r.2.2 b W ∧ Upd (GFt bg bf bl bc) w w'
theorem GG.load (h : GG w bg bp bf bl bc s g b W) (addr : Int) (hW : W ≤ 1000000) :
    Calls Tryz.prog 78 #[.pointer (some ⟨bg, 0, none⟩), .int .i64 addr] w (LPost w bg bp bf bl bc (gLoad s g addr) b (W + 1)) := by
  have hr := h.reach addr false hW
  have hc := at_code s g addr false
  have hus := at_used h.inv addr false
  unfold gLoad
  revert hr hc hus
  generalize gAt s g addr false = t
  obtain ⟨⟨f, code⟩, s', g'⟩ := t
  intro hr hc hus
  simp only at hr hc hus ⊢
  unfold FPost at hr
  simp only at hr
  split
  · next h0 =>
    unfold LPost
    simp only
    rw [errV_no (show code ≠ 0 by omega)] at hr ⊢
    have HR : Hid _ := hr
    clear h hr hc hus h0
    go_enter Tryz.func78, Tryz.ntmps78
    go_wp2_with fail
    refine Calls.mono HR.out ?_
    rintro e w2 ⟨rfl, hg2, hu2⟩
    have HG2 : Hid (GG w2 bg bp bf bl bc s' g' b (W + 1)) := hg2
    have HU2 : Hid _ := hu2
    clear hg2 hu2 HR
    go_wp2_with fail
    go_ret2
    exact ⟨rfl, HG2.out, HU2.out⟩
  · next h0 =>
    obtain rfl : code = 0 := by omega
    obtain ⟨hu, a0, a1⟩ := hus rfl
    obtain ⟨k, rfl⟩ := Int.eq_ofNat_of_zero_le a0
    have hk : k % 16 < 16 := by omega
    have hget := get_used hu hk
    have hkk : ((k % 16 : Nat) : Int) = (k : Int) % 16 := by omega
    rw [hkk] at hget
    unfold LPost
    simp only
    rw [errV_zero] at hr ⊢
    rw [show ((k : Int) % 16).toNat = k % 16 by omega]
    have HR : Hid _ := hr
    have HGET : Hid _ := hget
    have hwr : IntKind.i64.wrap ((k : Int) % 16) = (k : Int) % 16 := by rw [IntKind.wrap_i64]; omega
    clear h hr hc hus h0 hget hkk hu
    go_enter Tryz.func78, Tryz.ntmps78
    go_wp2_with fail
    refine Calls.mono HR.out ?_
    rintro e w2 ⟨rfl, hg2, hu2⟩
    have HG2 : Hid (GG w2 bg bp bf bl bc s' g' b (W + 1)) := hg2
    have HU2 : Hid _ := hu2
    have d0 := hg2.ce.c0
    have hge := get_any w2 bp bf f ((k : Int) % 16) s' hg2.pool
    rw [HGET.out, errV_zero] at hge
    have HGE : Hid _ := hge
    clear hg2 hu2 HR hge
    go_wp2_with fail
    refine Calls.mono HGE.out ?_
    rintro e w3 ⟨rfl, hw3⟩
    subst hw3
    go_wp2_with fail
    go_ret2
    exact ⟨rfl, HG2.out, HU2.out⟩
theorem GG.setPool {s' : Pl} (h : GG w bg bp bf bl bc s g b W) (u : Upd (fun k => k = bf) w w') (hp : PoolAt w' bp bf s') (hi : GInv s' g b W) (hn : s'.n = s.n) : GG w' bg bp bf bl bc s' g b W := by
  have ha := h.ap
  unfold GAp at ha
  exact ⟨h.ce.upd u (by omega), hp, h.lv.upd u (by omega), h.ca.upd u (by omega), h.ap, hi, h.di, by rw [hn]; exact h.hn⟩
theorem GG.store (h : GG w bg bp bf bl bc s g b W) (addr v : Int) (v0 : 0 ≤ v) (v1 : v ≤ 255) (hW : W ≤ 1000000) :
    Calls Tryz.prog 157 #[.pointer (some ⟨bg, 0, none⟩), .int .i64 addr, .int .u8 v] w (GPost w bg bp bf bl bc (gStore s g addr v) b (W + 1)) := by
  have hr := h.reach addr true hW
  have hc := at_code s g addr true
  have hus := at_used h.inv addr true
  unfold gStore
  revert hr hc hus
  generalize gAt s g addr true = t
  obtain ⟨⟨f, code⟩, s', g'⟩ := t
  intro hr hc hus
  simp only at hr hc hus ⊢
  unfold FPost at hr
  simp only at hr
  split
  · next h0 =>
    unfold GPost
    simp only
    rw [errV_no (show code ≠ 0 by omega)] at hr ⊢
    have HR : Hid _ := hr
    clear h hr hc hus h0
    go_enter Tryz.func157, Tryz.ntmps157
    go_wp2_with fail
    refine Calls.mono HR.out ?_
    rintro e w2 ⟨rfl, hg2, hu2⟩
    have HG2 : Hid (GG w2 bg bp bf bl bc s' g' b (W + 1)) := hg2
    have HU2 : Hid _ := hu2
    clear hg2 hu2 HR
    go_wp2_with fail
    go_ret
    exact ⟨rfl, HG2.out, HU2.out⟩
  · next h0 =>
    obtain rfl : code = 0 := by omega
    obtain ⟨hu, a0, a1⟩ := hus rfl
    obtain ⟨k, rfl⟩ := Int.eq_ofNat_of_zero_le a0
    unfold GPost
    simp only
    rw [errV_zero] at hr
    have HR : Hid _ := hr
    have hwr : IntKind.i64.wrap ((k : Int) % 16) = (k : Int) % 16 := by rw [IntKind.wrap_i64]; omega
    clear h hr hc hus h0 hu
    have HN : Hid ((s'.set f ((k : Int) % 16) v).2.n = s'.n) := set_n _ _ _ _
    have HV : Hid (0 ≤ v ∧ v ≤ 255) := ⟨v0, v1⟩
    clear v0 v1
    go_enter Tryz.func157, Tryz.ntmps157
    go_wp2_with fail
    refine Calls.mono HR.out ?_
    rintro e w2 ⟨rfl, hg2, hu2⟩
    have HG2 : Hid (GG w2 bg bp bf bl bc s' g' b (W + 1)) := hg2
    have HU2 : Hid _ := hu2
    have d0 := hg2.ce.c0
    have HGE : Hid _ := set_any w2 bp bf f ((k : Int) % 16) v s' hg2.pool
    clear hg2 hu2 HR
    go_wp2_with fail
    refine Calls.mono HGE.out ?_
    rintro e w3 ⟨rfl, hp3, hu3⟩
    have HG3 : Hid _ := HG2.out.setPool hu3 hp3 { HG2.out.inv with inv := HG2.out.inv.inv.set _ _ _, byt := HG2.out.inv.byt.set _ _ _ HV.out.1 HV.out.2 } HN.out
    have HU3 : Hid (Upd (GFt bg bf bl bc) w w3) := HU2.out.trans hu3 (fun _ _ e => by unfold GFt; omega)
    clear hp3 hu3 HGE
    go_wp2_with fail
    go_ret
    exact ⟨rfl, HG3.out, HU3.out⟩
end Go.Proofs.YtadpibcgjgcjhabGreatDoor
/- A function in which loops over iterators have run out: their marks, and how it is left. -/
namespace Go.Proofs.YtadpibcgjgcjhabGreatDoor
open Go.ChangeShapes Go.WideShapes Go.ChangeAt Go.RowKit

/-- The blocks that loops over iterators have laid, all taken up. -/
def Marks (base : Nat) (w : World) (ds : List Nat) : Prop := ds.Nodup ∧ ∀ D ∈ ds, base ≤ D ∧ D < w.heap.size ∧ w.heap[D]? = some (.deferred (some []))
def marks (ds : List Nat) : List Deferred := ds.map fun D => { target := .collected D, args := #[] }
/-- What the marks' taking leaves: all other blocks as they lay. -/
structure Took (ds : List Nat) (w w' : World) : Prop where
  os : w'.os = w.os
  tape : w'.tape = w.tape
  output : w'.output = w.output
  size : w'.heap.size = w.heap.size
  block : ∀ k, k ∉ ds → w'.heap[k]? = w.heap[k]?
end Go.Proofs.YtadpibcgjgcjhabGreatDoor
/- Package cache: All, and what it goes over. -/
namespace Go.Proofs.YtadpibcgjgcjhabGreatDoor
open Go.ChangeShapes Go.WideShapes Go.ChangeAt Go.RowKit Go.Shelf
set_option maxRecDepth 100000
attribute [local go_sem] Oper.semAt_some

/-- What a round that goes on keeps: the copy, and where it stands. -/
def KpT (b B : Nat) (W W' : World) : Prop := W'.heap[b]? = W.heap[b]? ∧ W'.heap[B]? = W.heap[B]?
def enArgs (es : List En) (i : Nat) : Array Value := #[.int .i64 i, .agg #[.int .i64 (atE es i).root, .int .i64 (atE es i).page, .int .i64 (atE es i).dest, .bool (atE es i).may, .bool (atE es i).lf.there, .bool (atE es i).lf.wr, .int .i64 (atE es i).lf.fr]]
theorem upd_of_below {w W : World} (h : Below w.heap.size w W) : Upd (fun _ => False) w W := ⟨h.os, h.tape, h.output, h.size, fun k hk _ => h.block k hk⟩
end Go.Proofs.YtadpibcgjgcjhabGreatDoor
/- How a list of acts that came in lies in memory: what each statement over acts is told of its argument. -/
namespace Go.Proofs.YtadpibcgjgcjhabGreatDoor
open Go.ChangeShapes Go.WideShapes Go.ChangeAt Go.RowKit Go.Deep
set_option maxRecDepth 100000

end Go.Proofs.YtadpibcgjgcjhabGreatDoor
/- A loop over a cache's entries: the law of a range over a function, for what All answers; frames by a function. -/
namespace Go.Proofs.YtadpibcgjgcjhabGreatDoor
open Go.ChangeShapes Go.WideShapes Go.ChangeAt Go.RowKit Go.Shelf
set_option maxRecDepth 100000

/-- The loop over the function that stands in that slot. -/
def rfAt (n : Nat) : Code → Option Code
  | .rangeFunc (.tmp m) ps a b => if m = n then some (.rangeFunc (.tmp m) ps a b) else none
  | .block _ c => rfAt n c
  | .seq a b => match rfAt n a with
    | some c => some c
    | none => rfAt n b
  | .cond _ a b => match rfAt n a with
    | some c => some c
    | none => rfAt n b
  | .loop c => rfAt n c
  | _ => none
/-- The block of that number. -/
def blkAt (n : Nat) : Code → Option Code
  | .block i c => if i = n then some (.block i c) else blkAt n c
  | .seq a b => match blkAt n a with
    | some c => some c
    | none => blkAt n b
  | .cond _ a b => match blkAt n a with
    | some c => some c
    | none => blkAt n b
  | .loop c => blkAt n c
  | _ => none
/-- The first loop's body. -/
def loopIn : Code → Option Code
  | .loop c => some c
  | .seq a b => match loopIn a with
    | some c => some c
    | none => loopIn b
  | .block _ c => loopIn c
  | .cond _ a b => match loopIn a with
    | some c => some c
    | none => loopIn b
  | _ => none
end Go.Proofs.YtadpibcgjgcjhabGreatDoor
/- Package guest: Cached. -/
namespace Go.Proofs.YtadpibcgjgcjhabGreatDoor
open Go.ChangeShapes Go.WideShapes Go.ChangeAt Go.RowKit Go.Shelf
set_option maxRecDepth 1000000
attribute [local go_sem] Oper.semAt_some
end Go.Proofs.YtadpibcgjgcjhabGreatDoor
