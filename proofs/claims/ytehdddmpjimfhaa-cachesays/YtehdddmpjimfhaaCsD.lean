/- undercroftlaw.CacheSays' switch: put, drop, point. -/
import Derived.Test.YtehdddmpjimfhaaCsC
namespace Go.Proofs.Ytehdddmpjimfhaa
open Go.ChangeShapes Go.WideShapes Go.ChangeAt Go.RowKit Go.Shelf
set_option maxRecDepth 1000000
attribute [local go_sem ↓] Go.wp_at_zero Go.wp_at_succ

set_option maxHeartbeats 40000000 in
theorem cs_put (c : Nat → Value) (W w : World) (R Bm bc i q : Nat) (vm sl : Value) (x : Ac) (es : List En) (ds : List Nat) (k0 : (x.kind.toList == [112, 117, 116]) = true) (hB : BoxAt w q x) (hS : CsS W w R Bm bc vm es es ds) (_hq : Bm < q) (_hq2 : bc < q) {Q : Exit → Act → World → Prop} (hm : csPost W R Bm sl i Q) :
    Code.wp Try.prog csSw Q ⟨#[sl, c 1, .pointer (some ⟨R, 0, none⟩), c 3, .pointer (some ⟨bc, 0, none⟩), .pointer (some ⟨Bm, 0, none⟩), .int .i64 i, .pointer (some ⟨q, 0, none⟩), .bool true, c 9, c 10, c 11, c 12, c 13, c 14, c 15, c 16, c 17, c 18, c 19, c 20, c 21, c 22, c 23, c 24, c 25, c 26, c 27, c 28, c 29, c 30, c 31, c 32, c 33, c 34, c 35, c 36, c 37, c 38, c 39, c 40, c 41, c 42, c 43, c 44, c 45, c 46, c 47, c 48, .string x.kind, c 50, c 51, c 52, c 53, c 54, c 55, c 56, c 57, c 58, c 59, c 60, c 61, c 62, c 63, c 64, c 65, c 66, c 67, c 68, c 69, c 70, c 71, c 72, c 73, c 74, c 75, c 76, c 77, c 78, c 79, c 80, c 81, c 82, c 83, c 84, c 85, c 86, c 87, c 88, c 89, c 90, c 91, c 92, c 93, c 94, c 95, c 96, c 97, c 98, c 99, c 100, c 101, c 102, c 103, c 104, c 105, c 106, c 107, c 108, c 109, c 110, c 111, c 112, c 113, c 114, c 115, c 116, c 117, c 118, c 119, c 120, c 121, c 122, c 123, c 124, c 125, c 126, c 127, c 128, c 129, c 130, c 131, c 132, c 133, c 134, c 135, c 136, c 137, c 138, c 139, c 140, c 141, c 142, c 143, c 144, c 145, c 146, c 147, c 148, c 149, c 150, c 151, c 152, c 153, c 154, c 155, c 156, c 157, c 158, c 159, c 160, c 161, c 162, c 163, c 164, c 165, c 166, c 167, c 168, c 169, c 170, c 171, c 172, c 173, c 174, c 175, c 176, c 177, c 178, c 179, c 180, c 181, c 182, c 183, c 184, c 185, c 186, c 187, c 188, c 189, c 190, c 191, c 192, c 193, c 194, c 195, c 196, c 197, c 198, c 199, c 200, c 201, c 202, c 203, c 204, c 205, c 206, c 207, c 208, c 209, c 210, c 211, c 212, c 213, c 214, c 215, c 216, c 217, c 218, c 219, c 220, c 221, c 222, c 223, c 224, c 225, c 226, c 227, c 228, c 229, c 230, c 231, c 232, c 233, c 234, c 235, c 236, c 237, c 238, c 239, c 240, c 241, c 242, c 243, c 244, c 245, c 246, c 247, c 248, c 249, c 250], marks ds⟩ w := by
  have HM : Hid (csPost W R Bm sl i Q) := hm
  have HS : Hid _ := hS
  have HB : Hid _ := hB
  have y1 := hB.c1
  have y2 := hB.c2
  have y3 := hB.c3
  have y4 := hB.c4
  have y5 := hB.c5
  have m0 : w.cell? ⟨Bm, 0, none⟩ = some vm := box_cell hS.pm 0
  have mz : w.frozen? ⟨Bm, 0, none⟩ = false := box_frozen hS.pm 0
  have g1 := hS.g1
  have g2 := hS.g2
  have g3 := hS.g3
  have hle := hS.ca.le
  have hltc := hS.ca.lt
  have hltm : Bm < w.heap.size := (Array.getElem?_eq_some_iff.1 hS.pm).1
  have hltq : q < w.heap.size := World.block_lt_of_cell? w _ y1
  clear hm hS hB
  conv => arg 2; whnf
  have hu0 := (Upd.refl (fun _ => False) w).alloc (.cells #[.int .i64 x.n, .int .i64 x.a, .int .i64 x.b, .bool x.on, .bool (decide (0 < x.v)), .bool false, .int .i64 (wrap64 x.v)] 85)
  have HZ : Hid _ := box_new w #[.int .i64 x.n, .int .i64 x.a, .int .i64 x.b, .bool x.on, .bool (decide (0 < x.v)), .bool false, .int .i64 (wrap64 x.v)] 85
  have HS0 : Hid _ := HS.out.same hu0
  clear hu0 HS HB
  go_wp2_with fail
  refine (kPut_any _ bc es ⟨x.n, x.a, x.b, x.on, ⟨decide (0 < x.v), false, wrap64 x.v⟩⟩ HS0.out.ca).mono ?_
  rintro e w1 ⟨rfl, hc1, hu1⟩
  have HS1 : Hid _ := HS0.out.call hu1 hc1 (dist_putK HS0.out.di _)
  have m1 : w1.cell? ⟨Bm, 0, none⟩ = some vm := box_cell HS1.out.pm 0
  have hbx : w1.heap[w.heap.size]? = some (.cells #[.int .i64 x.n, .int .i64 x.a, .int .i64 x.b, .bool x.on, .bool (decide (0 < x.v)), .bool false, .int .i64 (wrap64 x.v)] 85) := (hu1.block w.heap.size (by simp) (by omega)).trans HZ.out
  have z0 : w1.cell? ⟨w.heap.size, 0, none⟩ = some (.int .i64 x.n) := box_cell hbx 0
  have z1 : w1.cell? ⟨w.heap.size, 1, none⟩ = some (.int .i64 x.a) := box_cell hbx 1
  have z2 : w1.cell? ⟨w.heap.size, 2, none⟩ = some (.int .i64 x.b) := box_cell hbx 2
  have z3 : w1.cell? ⟨w.heap.size, 3, none⟩ = some (.bool x.on) := box_cell hbx 3
  have z4 : w1.cell? ⟨w.heap.size, 4, none⟩ = some (.bool (decide (0 < x.v))) := box_cell hbx 4
  have z5 : w1.cell? ⟨w.heap.size, 5, none⟩ = some (.bool false) := box_cell hbx 5
  have z6 : w1.cell? ⟨w.heap.size, 6, none⟩ = some (.int .i64 (wrap64 x.v)) := box_cell hbx 6
  have HD : Hid (Dist es) := HS0.out.di
  have hz1 : Bm < w1.heap.size ∧ bc < w1.heap.size := by have := hu1.size; simp only [World.size_alloc] at this; omega
  have HZ1 : Hid _ := hz1
  clear hc1 hu1 hbx HZ HS0 y1 y2 y3 y4 y5 m0 mz hz1
  go_wp2_with fail
  refine (cPut_any w1 (Bm + 1) vm es ⟨x.n, x.a, x.b, x.on, ⟨decide (0 < x.v), false, wrap64 x.v⟩⟩ HS1.out.sm (by omega)).mono ?_
  rintro e w2 ⟨v2, rfl, hs2, hu2⟩
  obtain ⟨a2, cap2, rfl, _⟩ := hs2.form
  have HS2 : Hid _ := HS1.out.same hu2
  have m2 : w2.cell? ⟨Bm, 0, none⟩ = some vm := box_cell HS2.out.pm 0
  have f2 : w2.frozen? ⟨Bm, 0, none⟩ = false := box_frozen HS2.out.pm 0
  have HS3 : Hid _ := HS2.out.keep hs2 HZ1.out.1 HZ1.out.2
  clear hs2 hu2 z0 z1 z2 z3 z4 z5 z6 m1 HS1 HS2
  go_wp2_with fail
  exact HM.out.use rfl rfl rfl rfl rfl rfl rfl HS3.out (put_same HD.out hle _).symm

set_option maxHeartbeats 40000000 in
theorem cs_drop (c : Nat → Value) (W w : World) (R Bm bc i q : Nat) (vm sl : Value) (x : Ac) (es : List En) (ds : List Nat) (k0 : (x.kind.toList == [112, 117, 116]) = false) (k1 : (x.kind.toList == [102, 105, 110, 100]) = false) (k2 : (x.kind.toList == [100, 114, 111, 112]) = true) (hB : BoxAt w q x) (hS : CsS W w R Bm bc vm es es ds) (_hq : Bm < q) (_hq2 : bc < q) {Q : Exit → Act → World → Prop} (hm : csPost W R Bm sl i Q) :
    Code.wp Try.prog csSw Q ⟨#[sl, c 1, .pointer (some ⟨R, 0, none⟩), c 3, .pointer (some ⟨bc, 0, none⟩), .pointer (some ⟨Bm, 0, none⟩), .int .i64 i, .pointer (some ⟨q, 0, none⟩), .bool true, c 9, c 10, c 11, c 12, c 13, c 14, c 15, c 16, c 17, c 18, c 19, c 20, c 21, c 22, c 23, c 24, c 25, c 26, c 27, c 28, c 29, c 30, c 31, c 32, c 33, c 34, c 35, c 36, c 37, c 38, c 39, c 40, c 41, c 42, c 43, c 44, c 45, c 46, c 47, c 48, .string x.kind, c 50, c 51, c 52, c 53, c 54, c 55, c 56, c 57, c 58, c 59, c 60, c 61, c 62, c 63, c 64, c 65, c 66, c 67, c 68, c 69, c 70, c 71, c 72, c 73, c 74, c 75, c 76, c 77, c 78, c 79, c 80, c 81, c 82, c 83, c 84, c 85, c 86, c 87, c 88, c 89, c 90, c 91, c 92, c 93, c 94, c 95, c 96, c 97, c 98, c 99, c 100, c 101, c 102, c 103, c 104, c 105, c 106, c 107, c 108, c 109, c 110, c 111, c 112, c 113, c 114, c 115, c 116, c 117, c 118, c 119, c 120, c 121, c 122, c 123, c 124, c 125, c 126, c 127, c 128, c 129, c 130, c 131, c 132, c 133, c 134, c 135, c 136, c 137, c 138, c 139, c 140, c 141, c 142, c 143, c 144, c 145, c 146, c 147, c 148, c 149, c 150, c 151, c 152, c 153, c 154, c 155, c 156, c 157, c 158, c 159, c 160, c 161, c 162, c 163, c 164, c 165, c 166, c 167, c 168, c 169, c 170, c 171, c 172, c 173, c 174, c 175, c 176, c 177, c 178, c 179, c 180, c 181, c 182, c 183, c 184, c 185, c 186, c 187, c 188, c 189, c 190, c 191, c 192, c 193, c 194, c 195, c 196, c 197, c 198, c 199, c 200, c 201, c 202, c 203, c 204, c 205, c 206, c 207, c 208, c 209, c 210, c 211, c 212, c 213, c 214, c 215, c 216, c 217, c 218, c 219, c 220, c 221, c 222, c 223, c 224, c 225, c 226, c 227, c 228, c 229, c 230, c 231, c 232, c 233, c 234, c 235, c 236, c 237, c 238, c 239, c 240, c 241, c 242, c 243, c 244, c 245, c 246, c 247, c 248, c 249, c 250], marks ds⟩ w := by
  have HM : Hid (csPost W R Bm sl i Q) := hm
  have HS : Hid _ := hS
  have HB : Hid _ := hB
  have y1 := hB.c1
  have y2 := hB.c2
  have y3 := hB.c3
  have y4 := hB.c4
  have y5 := hB.c5
  have m0 : w.cell? ⟨Bm, 0, none⟩ = some vm := box_cell hS.pm 0
  have mz : w.frozen? ⟨Bm, 0, none⟩ = false := box_frozen hS.pm 0
  have g1 := hS.g1
  have g2 := hS.g2
  have g3 := hS.g3
  have hle := hS.ca.le
  have hltc := hS.ca.lt
  have hltm : Bm < w.heap.size := (Array.getElem?_eq_some_iff.1 hS.pm).1
  have hltq : q < w.heap.size := World.block_lt_of_cell? w _ y1
  clear hm hS hB
  conv => arg 2; whnf
  go_wp2_with fail
  refine (cFind_any w (Bm + 1) vm es x.a x.b HS.out.sm (by omega)).mono ?_
  rintro e w1 ⟨rfl, hw1⟩
  subst hw1
  have HD : Hid (Dist es) := HS.out.di
  have hds := drop_said es x.a x.b
  have hkd := keep_drop HS.out.di x.a x.b
  have HKD : Hid _ := hkd
  have HDS : Hid _ := hds
  clear hkd hds
  go_wp2_with fail
  refine (cWithout_any w1 (Bm + 1) vm es _ HS.out.sm (by omega)).mono ?_
  rintro e w2 ⟨v2, rfl, hs2, hu2⟩
  obtain ⟨a2, cap2, rfl, _⟩ := hs2.form
  have HS2 : Hid _ := HS.out.same hu2
  have m2 : w2.cell? ⟨Bm, 0, none⟩ = some vm := box_cell HS2.out.pm 0
  have f2 : w2.frozen? ⟨Bm, 0, none⟩ = false := box_frozen HS2.out.pm 0
  have hS3 := HS2.out.keep hs2 (by omega) (by omega)
  have u3 := Upd.one w2 Bm 0 (.slice a2 (keepTo (fun i => (i : Int) != fndI es x.a x.b) es es.length).length cap2)
  have e2 := u3.cell (hu2.cell y2 (fun f => f)) (by simp only; omega)
  have e3 := u3.cell (hu2.cell y3 (fun f => f)) (by simp only; omega)
  have HS3 : Hid _ := hS3
  rw [HKD.out] at HS3 e2 e3 hs2
  rw [HKD.out]
  clear hu2 u3 hS3 y1 y2 y3 y4 y5 m0 mz HS HS2 HB hs2
  generalize hfi : fndI es x.a x.b = fi at *
  have HFI : Hid _ := hfi
  clear hfi
  generalize hfl : (flt (isAt x.a x.b) es).length = fl at *
  have HFL : Hid _ := hfl
  clear hfl
  go_wp2_with fail
  refine (kDrop_any _ bc es x.a x.b HS3.out.ca).mono ?_
  rintro e w4 ⟨rfl, hc4, hu4⟩
  have HS4 : Hid _ := HS3.out.call hu4 hc4 (dist_flt HD.out _)
  rw [HFL.out, HDS.out]
  clear hc4 hu4 HS3 e2 e3 m2 f2
  generalize hdq : decide (0 ≤ fi) = dq
  have hqq : (dq == dq) = true := by simp
  go_wp2_with fail
  exact HM.out.use rfl rfl rfl rfl rfl rfl rfl HS4.out rfl

set_option maxHeartbeats 40000000 in
theorem cs_point (c : Nat → Value) (W w : World) (R Bm bc i q : Nat) (vm sl : Value) (x : Ac) (es : List En) (ds : List Nat) (k0 : (x.kind.toList == [112, 117, 116]) = false) (k1 : (x.kind.toList == [102, 105, 110, 100]) = false) (k2 : (x.kind.toList == [100, 114, 111, 112]) = false) (k3 : (x.kind.toList == [102, 111, 114, 103, 101, 116]) = false) (k4 : (x.kind.toList == [112, 111, 105, 110, 116]) = true) (hB : BoxAt w q x) (hS : CsS W w R Bm bc vm es es ds) (_hq : Bm < q) (_hq2 : bc < q) {Q : Exit → Act → World → Prop} (hm : csPost W R Bm sl i Q) :
    Code.wp Try.prog csSw Q ⟨#[sl, c 1, .pointer (some ⟨R, 0, none⟩), c 3, .pointer (some ⟨bc, 0, none⟩), .pointer (some ⟨Bm, 0, none⟩), .int .i64 i, .pointer (some ⟨q, 0, none⟩), .bool true, c 9, c 10, c 11, c 12, c 13, c 14, c 15, c 16, c 17, c 18, c 19, c 20, c 21, c 22, c 23, c 24, c 25, c 26, c 27, c 28, c 29, c 30, c 31, c 32, c 33, c 34, c 35, c 36, c 37, c 38, c 39, c 40, c 41, c 42, c 43, c 44, c 45, c 46, c 47, c 48, .string x.kind, c 50, c 51, c 52, c 53, c 54, c 55, c 56, c 57, c 58, c 59, c 60, c 61, c 62, c 63, c 64, c 65, c 66, c 67, c 68, c 69, c 70, c 71, c 72, c 73, c 74, c 75, c 76, c 77, c 78, c 79, c 80, c 81, c 82, c 83, c 84, c 85, c 86, c 87, c 88, c 89, c 90, c 91, c 92, c 93, c 94, c 95, c 96, c 97, c 98, c 99, c 100, c 101, c 102, c 103, c 104, c 105, c 106, c 107, c 108, c 109, c 110, c 111, c 112, c 113, c 114, c 115, c 116, c 117, c 118, c 119, c 120, c 121, c 122, c 123, c 124, c 125, c 126, c 127, c 128, c 129, c 130, c 131, c 132, c 133, c 134, c 135, c 136, c 137, c 138, c 139, c 140, c 141, c 142, c 143, c 144, c 145, c 146, c 147, c 148, c 149, c 150, c 151, c 152, c 153, c 154, c 155, c 156, c 157, c 158, c 159, c 160, c 161, c 162, c 163, c 164, c 165, c 166, c 167, c 168, c 169, c 170, c 171, c 172, c 173, c 174, c 175, c 176, c 177, c 178, c 179, c 180, c 181, c 182, c 183, c 184, c 185, c 186, c 187, c 188, c 189, c 190, c 191, c 192, c 193, c 194, c 195, c 196, c 197, c 198, c 199, c 200, c 201, c 202, c 203, c 204, c 205, c 206, c 207, c 208, c 209, c 210, c 211, c 212, c 213, c 214, c 215, c 216, c 217, c 218, c 219, c 220, c 221, c 222, c 223, c 224, c 225, c 226, c 227, c 228, c 229, c 230, c 231, c 232, c 233, c 234, c 235, c 236, c 237, c 238, c 239, c 240, c 241, c 242, c 243, c 244, c 245, c 246, c 247, c 248, c 249, c 250], marks ds⟩ w := by
  have HM : Hid (csPost W R Bm sl i Q) := hm
  have HS : Hid _ := hS
  have HB : Hid _ := hB
  have y1 := hB.c1
  have y2 := hB.c2
  have y3 := hB.c3
  have y4 := hB.c4
  have y5 := hB.c5
  have m0 : w.cell? ⟨Bm, 0, none⟩ = some vm := box_cell hS.pm 0
  have mz : w.frozen? ⟨Bm, 0, none⟩ = false := box_frozen hS.pm 0
  have g1 := hS.g1
  have g2 := hS.g2
  have g3 := hS.g3
  have hle := hS.ca.le
  have hltc := hS.ca.lt
  have hltm : Bm < w.heap.size := (Array.getElem?_eq_some_iff.1 hS.pm).1
  have hltq : q < w.heap.size := World.block_lt_of_cell? w _ y1
  clear hm hS hB
  conv => arg 2; whnf
  have hu0 := (Upd.refl (fun _ => False) w).alloc (.cells #[.bool true, .bool x.on, .int .i64 x.b] 69)
  have HZ : Hid _ := box_new w #[.bool true, .bool x.on, .int .i64 x.b] 69
  have HS0 : Hid _ := HS.out.same hu0
  have m0' := hu0.cell m0 (fun f => f)
  have y2' := hu0.cell y2 (fun f => f)
  have HU0 : Hid _ := hu0
  clear hu0 HS HB
  go_wp2_with fail
  refine (cPoint_any _ (Bm + 1) vm es x.a ⟨true, x.on, x.b⟩ HS0.out.sm (by omega)).mono ?_
  rintro e w2 ⟨v2, rfl, hs2, hu2⟩
  obtain ⟨a2, cap2, rfl, _⟩ := hs2.form
  have HS2 : Hid _ := HS0.out.same hu2
  have m2 : w2.cell? ⟨Bm, 0, none⟩ = some vm := box_cell HS2.out.pm 0
  have f2 : w2.frozen? ⟨Bm, 0, none⟩ = false := box_frozen HS2.out.pm 0
  have hS3 := HS2.out.keep hs2 (by simp; omega) (by simp; omega)
  have u3 := Upd.one w2 Bm 0 (.slice a2 (pntTo x.a ⟨true, x.on, x.b⟩ es es.length).length cap2)
  have hbx := (hu2.block w.heap.size (by simp) (fun f => f)).trans HZ.out
  have hbx3 := (u3.block w.heap.size (Array.getElem?_eq_some_iff.1 hbx).1 (by omega)).trans hbx
  have e2 := u3.cell (hu2.cell y2' (fun f => f)) (by simp only; omega)
  have z0 := box_cell hbx3 0
  have z1 := box_cell hbx3 1
  have z2 := box_cell hbx3 2
  simp only [List.getElem?_toArray, List.getElem?_cons_zero, List.getElem?_cons_succ] at z0 z1 z2
  have HS3 : Hid _ := hS3
  have HD : Hid (Dist es) := HS0.out.di
  clear hu2 u3 hS3 y1 y2 y3 y4 y5 m0 mz HS0 HS2 hs2 hbx hbx3 HZ m0' y2' HU0
  generalize hpl : (pntTo x.a ⟨true, x.on, x.b⟩ es es.length).length = pl at *
  have HPL : Hid _ := hpl
  clear hpl
  go_wp2_with fail
  refine (kPoint_any _ bc es x.a ⟨true, x.on, x.b⟩ HS3.out.ca).mono ?_
  rintro e w4 ⟨rfl, hc4, hu4⟩
  have HS4 : Hid _ := HS3.out.call hu4 hc4 (dist_point HD.out _ _)
  clear hc4 hu4 HS3 e2 z0 z1 z2 m2 f2
  generalize pntN x.a es es.length = dq
  have hqq : ((dq : Int) == (dq : Int)) = true := by simp
  go_wp2_with fail
  exact HM.out.use rfl rfl rfl rfl rfl rfl rfl HS4.out rfl

end Go.Proofs.Ytehdddmpjimfhaa
