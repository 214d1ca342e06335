/- undercrofttop.TopCache's switch. -/
import Derived.Test.YtehdddmpjimfhaaTcB
namespace Go.Proofs.Ytehdddmpjimfhaa
open Go.ChangeShapes Go.WideShapes Go.ChangeAt Go.RowKit Go.Shelf
set_option maxRecDepth 1000000
attribute [local go_sem ↓] Go.wp_at_zero Go.wp_at_succ

set_option maxHeartbeats 4000000 in
theorem tc_put (c : Nat → Value) (W w : World) (R Bc bc i q : Nat) (sl : Value) (x : Ac) (es : List En) (ds : List Nat) (k0 : (x.kind.toList == [112, 117, 116]) = true) (hB : BoxAt w q x) (hS : TcS W w R Bc bc es ds) (_hq : Bc < q) {Q : Exit → Act → World → Prop} (hm : tcPost W R Bc bc sl i Q) :
    Code.wp Try.prog tcSw Q ⟨#[sl, c 1, .pointer (some ⟨R, 0, none⟩), c 3, c 4, c 5, .pointer (some ⟨Bc, 0, none⟩), .int .i64 i, .pointer (some ⟨q, 0, none⟩), c 9, c 10, c 11, c 12, c 13, c 14, c 15, c 16, c 17, c 18, c 19, c 20, c 21, c 22, c 23, c 24, c 25, c 26, c 27, c 28, c 29, c 30, c 31, c 32, c 33, c 34, c 35, c 36, c 37, c 38, c 39, c 40, c 41, c 42, c 43, c 44, c 45, c 46, c 47, c 48, .string x.kind, c 50, c 51, c 52, c 53, c 54, c 55, c 56, c 57, c 58, c 59, c 60, c 61, c 62, c 63, c 64, c 65, c 66, c 67, c 68, c 69, c 70, c 71, c 72, c 73, c 74, c 75, c 76, c 77, c 78, c 79, c 80, c 81, c 82, c 83, c 84, c 85, c 86, c 87, c 88, c 89, c 90, c 91, c 92, c 93, c 94, c 95, c 96, c 97, c 98, c 99, c 100, c 101, c 102, c 103, c 104, c 105, c 106, c 107, c 108, c 109, c 110, c 111, c 112, c 113, c 114, c 115, c 116, c 117, c 118, c 119, c 120, c 121, c 122, c 123, c 124, c 125, c 126, c 127, c 128, c 129, c 130, c 131, c 132, c 133, c 134, c 135, c 136, c 137, c 138, c 139, c 140, c 141], marks ds⟩ w := by
  have HM : Hid (tcPost W R Bc bc sl i Q) := hm
  have HS : Hid _ := hS
  have HB : Hid _ := hB
  have y1 := hB.c1
  have y2 := hB.c2
  have y3 := hB.c3
  have y5 := hB.c5
  have pc := hS.pc
  have g1 := hS.g1
  have g2 := hS.g2
  clear hm hS hB
  conv => arg 2; whnf
  have hu0 := (Upd.refl (fun _ => False) w).alloc (.cells #[.int .i64 x.n, .int .i64 x.a, .int .i64 x.b, .bool x.on, .bool false, .bool false, .int .i64 0] 85)
  have p0 := hu0.cell pc (fun f => f)
  have HZ : Hid _ := box_new w #[.int .i64 x.n, .int .i64 x.a, .int .i64 x.b, .bool x.on, .bool false, .bool false, .int .i64 0] 85
  have HU0 : Hid _ := hu0
  clear hu0
  go_wp2_with fail
  refine (kPut_any _ bc es ⟨x.n, x.a, x.b, x.on, ⟨false, false, 0⟩⟩ (HS.out.ca.upd HU0.out (fun f => f))).mono ?_
  rintro e w1 ⟨rfl, hc1, hu1⟩
  have hu01 := HU0.out.free.trans hu1 (fun _ _ e => e)
  have hS1 := HS.out.call hu01 hc1 (dist_putK HS.out.di _)
  have HS1 : Hid _ := hS1
  have p1 := hS1.pc
  have z1 := hu01.cell y1 (by simp only; omega)
  have z2 := hu01.cell y2 (by simp only; omega)
  obtain ⟨e1, e2, e3⟩ := idx_put HS.out.di ⟨x.n, x.a, x.b, x.on, ⟨false, false, 0⟩⟩
  have hf := kFind_yes w1 bc _ x.n x.a hc1 _ e2 e1
  rw [e3] at hf
  have hbx : bc ≠ w.heap.size := by have := HS.out.ca.lt; omega
  have HBX : Hid (w1.heap[w.heap.size]? = some (.cells #[.int .i64 x.n, .int .i64 x.a, .int .i64 x.b, .bool x.on, .bool false, .bool false, .int .i64 0] 85)) := (hu1.block w.heap.size (by simp) (fun e => hbx e.symm)).trans HZ.out
  clear hc1 hu1 hu01 hS1 e1 e2 e3 y1 y2 y3 y5 p0 HU0 HS HB HZ hbx pc
  go_wp2_with fail
  refine Calls.mono hf ?_
  rintro e w2 ⟨rfl, hu2⟩
  have hu3 := hu2.alloc (.cells #[.int .i64 x.n, .int .i64 x.a, .int .i64 x.b, .bool x.on, .bool false, .bool false, .int .i64 0] 85)
  have hbx := (hu3.block w.heap.size (Array.getElem?_eq_some_iff.1 HBX.out).1 (fun f => f)).trans HBX.out
  have x0 := box_cell hbx 0
  have x1 := box_cell hbx 1
  have x2 := box_cell hbx 2
  have x3 := box_cell hbx 3
  have x4 := box_cell hbx 4
  have x5 := box_cell hbx 5
  have x6 := box_cell hbx 6
  simp only [List.getElem?_toArray, List.getElem?_cons_zero, List.getElem?_cons_succ] at x0 x1 x2 x3 x4 x5 x6
  have HS2 : Hid _ := HS1.out.same hu3
  clear hf hu2 hu3 hbx HBX HS1 p1 z1 z2
  go_wp2_with fail
  exact HM.out.use rfl rfl rfl rfl rfl HS2.out

set_option maxHeartbeats 4000000 in
theorem tc_drop (c : Nat → Value) (W w : World) (R Bc bc i q : Nat) (sl : Value) (x : Ac) (es : List En) (ds : List Nat) (k0 : (x.kind.toList == [112, 117, 116]) = false) (k1 : (x.kind.toList == [100, 114, 111, 112]) = true) (hB : BoxAt w q x) (hS : TcS W w R Bc bc es ds) (_hq : Bc < q) {Q : Exit → Act → World → Prop} (hm : tcPost W R Bc bc sl i Q) :
    Code.wp Try.prog tcSw Q ⟨#[sl, c 1, .pointer (some ⟨R, 0, none⟩), c 3, c 4, c 5, .pointer (some ⟨Bc, 0, none⟩), .int .i64 i, .pointer (some ⟨q, 0, none⟩), c 9, c 10, c 11, c 12, c 13, c 14, c 15, c 16, c 17, c 18, c 19, c 20, c 21, c 22, c 23, c 24, c 25, c 26, c 27, c 28, c 29, c 30, c 31, c 32, c 33, c 34, c 35, c 36, c 37, c 38, c 39, c 40, c 41, c 42, c 43, c 44, c 45, c 46, c 47, c 48, .string x.kind, c 50, c 51, c 52, c 53, c 54, c 55, c 56, c 57, c 58, c 59, c 60, c 61, c 62, c 63, c 64, c 65, c 66, c 67, c 68, c 69, c 70, c 71, c 72, c 73, c 74, c 75, c 76, c 77, c 78, c 79, c 80, c 81, c 82, c 83, c 84, c 85, c 86, c 87, c 88, c 89, c 90, c 91, c 92, c 93, c 94, c 95, c 96, c 97, c 98, c 99, c 100, c 101, c 102, c 103, c 104, c 105, c 106, c 107, c 108, c 109, c 110, c 111, c 112, c 113, c 114, c 115, c 116, c 117, c 118, c 119, c 120, c 121, c 122, c 123, c 124, c 125, c 126, c 127, c 128, c 129, c 130, c 131, c 132, c 133, c 134, c 135, c 136, c 137, c 138, c 139, c 140, c 141], marks ds⟩ w := by
  have HM : Hid (tcPost W R Bc bc sl i Q) := hm
  have HS : Hid _ := hS
  have HB : Hid _ := hB
  have y1 := hB.c1
  have y2 := hB.c2
  have y3 := hB.c3
  have y5 := hB.c5
  have pc := hS.pc
  have g1 := hS.g1
  have g2 := hS.g2
  clear hm hS hB
  conv => arg 2; whnf
  go_wp2_with fail
  refine (kDrop_any _ bc es x.a x.b HS.out.ca).mono ?_
  rintro e w1 ⟨rfl, hc1, hu1⟩
  have hS1 := HS.out.call hu1 hc1 (dist_flt HS.out.di _)
  have HS1 : Hid _ := hS1
  have p1 := hS1.pc
  have z2 := hu1.cell y2 (by simp only; omega)
  have z3 := hu1.cell y3 (by simp only; omega)
  have hf := kFind_no w1 bc _ x.a x.b hc1 (idx_drop es x.a x.b)
  generalize decide ((0 : Int) < ((es.length - (flt (isAt x.a x.b) es).length : Nat) : Int)) = d
  clear hc1 hu1 hS1 y1 y2 y3 y5 HS HB pc
  go_wp2_with fail
  refine Calls.mono hf ?_
  rintro e w2 ⟨rfl, hu2⟩
  have hu3 := hu2.alloc (.cells #[.int .i64 0, .int .i64 0, .int .i64 0, .bool false, .bool false, .bool false, .int .i64 0] 85)
  have HS2 : Hid _ := HS1.out.same hu3
  clear hf hu2 hu3 HS1 p1 z2 z3
  go_wp2_with fail
  exact HM.out.use rfl rfl rfl rfl rfl HS2.out

set_option maxHeartbeats 4000000 in
theorem tc_forget (c : Nat → Value) (W w : World) (R Bc bc i q : Nat) (sl : Value) (x : Ac) (es : List En) (ds : List Nat) (k0 : (x.kind.toList == [112, 117, 116]) = false) (k1 : (x.kind.toList == [100, 114, 111, 112]) = false) (k2 : (x.kind.toList == [102, 111, 114, 103, 101, 116]) = true) (hB : BoxAt w q x) (hS : TcS W w R Bc bc es ds) (_hq : Bc < q) {Q : Exit → Act → World → Prop} (hm : tcPost W R Bc bc sl i Q) :
    Code.wp Try.prog tcSw Q ⟨#[sl, c 1, .pointer (some ⟨R, 0, none⟩), c 3, c 4, c 5, .pointer (some ⟨Bc, 0, none⟩), .int .i64 i, .pointer (some ⟨q, 0, none⟩), c 9, c 10, c 11, c 12, c 13, c 14, c 15, c 16, c 17, c 18, c 19, c 20, c 21, c 22, c 23, c 24, c 25, c 26, c 27, c 28, c 29, c 30, c 31, c 32, c 33, c 34, c 35, c 36, c 37, c 38, c 39, c 40, c 41, c 42, c 43, c 44, c 45, c 46, c 47, c 48, .string x.kind, c 50, c 51, c 52, c 53, c 54, c 55, c 56, c 57, c 58, c 59, c 60, c 61, c 62, c 63, c 64, c 65, c 66, c 67, c 68, c 69, c 70, c 71, c 72, c 73, c 74, c 75, c 76, c 77, c 78, c 79, c 80, c 81, c 82, c 83, c 84, c 85, c 86, c 87, c 88, c 89, c 90, c 91, c 92, c 93, c 94, c 95, c 96, c 97, c 98, c 99, c 100, c 101, c 102, c 103, c 104, c 105, c 106, c 107, c 108, c 109, c 110, c 111, c 112, c 113, c 114, c 115, c 116, c 117, c 118, c 119, c 120, c 121, c 122, c 123, c 124, c 125, c 126, c 127, c 128, c 129, c 130, c 131, c 132, c 133, c 134, c 135, c 136, c 137, c 138, c 139, c 140, c 141], marks ds⟩ w := by
  have HM : Hid (tcPost W R Bc bc sl i Q) := hm
  have HS : Hid _ := hS
  have HB : Hid _ := hB
  have y1 := hB.c1
  have y2 := hB.c2
  have y3 := hB.c3
  have y5 := hB.c5
  have pc := hS.pc
  have g1 := hS.g1
  have g2 := hS.g2
  clear hm hS hB
  conv => arg 2; whnf
  go_wp2_with fail
  refine (kForget_any _ bc es x.a HS.out.ca).mono ?_
  rintro e w1 ⟨rfl, hc1, hu1⟩
  have hS1 := HS.out.call hu1 hc1 (dist_flt HS.out.di _)
  have HS1 : Hid _ := hS1
  have p1 := hS1.pc
  have HY : Hid _ := hu1.cell y2 (by simp only; omega)
  have HC1 : Hid (CaL w1 bc (flt (fun x_1 => x_1.root == x.a) es)) := hc1
  generalize es.length - (flt (fun x_1 => x_1.root == x.a) es).length = d
  clear hc1 hu1 hS1 y1 y2 y3 y5 HS HB pc
  go_wp2_with fail
  refine (kAll_any w1 bc _ HC1.out).mono ?_
  rintro e w2 ⟨B, b', rfl, hB1, hb1, hB2, hC2, hu2⟩
  have HS2 : Hid _ := HS1.out.same hu2
  obtain ⟨rv, hr0⟩ := HS2.out.r0
  have HR0 : Hid _ := hr0
  have HB2 : Hid _ := hB2
  have HC2 : Hid (CaL w2 b' (flt (fun x_1 => x_1.root == x.a) es)) := hC2
  have HY2 : Hid _ := hu2.cell HY.out (fun f => f)
  clear hB2 hC2 hr0 HY p1 HC1 HS1 hB1 hb1 hu2
  go_wp2_with fail
  refine tc_rf1L _ rfl ds w2 B b' q R _ x rv rfl rfl rfl HB2.out HC2.out HY2.out HR0.out HS2.out.rz (fun i hi => forget_root hi) ?_
  intro D w3 hD hu3 hd3
  have HS3 : Hid _ := HS2.out.mark hu3 (fun _ f => f.elim) (fun _ f => f.elim) hD hd3
  clear hu3 hd3 HS2 HR0 HB2 HC2 HY2
  go_wp2_with fail
  exact HM.out.use rfl rfl rfl rfl rfl HS3.out

set_option maxHeartbeats 4000000 in
theorem tc_other (c : Nat → Value) (W w : World) (R Bc bc i q : Nat) (sl : Value) (x : Ac) (es : List En) (ds : List Nat) (k0 : (x.kind.toList == [112, 117, 116]) = false) (k1 : (x.kind.toList == [100, 114, 111, 112]) = false) (k2 : (x.kind.toList == [102, 111, 114, 103, 101, 116]) = false) (hB : BoxAt w q x) (hS : TcS W w R Bc bc es ds) (_hq : Bc < q) {Q : Exit → Act → World → Prop} (hm : tcPost W R Bc bc sl i Q) :
    Code.wp Try.prog tcSw Q ⟨#[sl, c 1, .pointer (some ⟨R, 0, none⟩), c 3, c 4, c 5, .pointer (some ⟨Bc, 0, none⟩), .int .i64 i, .pointer (some ⟨q, 0, none⟩), c 9, c 10, c 11, c 12, c 13, c 14, c 15, c 16, c 17, c 18, c 19, c 20, c 21, c 22, c 23, c 24, c 25, c 26, c 27, c 28, c 29, c 30, c 31, c 32, c 33, c 34, c 35, c 36, c 37, c 38, c 39, c 40, c 41, c 42, c 43, c 44, c 45, c 46, c 47, c 48, .string x.kind, c 50, c 51, c 52, c 53, c 54, c 55, c 56, c 57, c 58, c 59, c 60, c 61, c 62, c 63, c 64, c 65, c 66, c 67, c 68, c 69, c 70, c 71, c 72, c 73, c 74, c 75, c 76, c 77, c 78, c 79, c 80, c 81, c 82, c 83, c 84, c 85, c 86, c 87, c 88, c 89, c 90, c 91, c 92, c 93, c 94, c 95, c 96, c 97, c 98, c 99, c 100, c 101, c 102, c 103, c 104, c 105, c 106, c 107, c 108, c 109, c 110, c 111, c 112, c 113, c 114, c 115, c 116, c 117, c 118, c 119, c 120, c 121, c 122, c 123, c 124, c 125, c 126, c 127, c 128, c 129, c 130, c 131, c 132, c 133, c 134, c 135, c 136, c 137, c 138, c 139, c 140, c 141], marks ds⟩ w := by
  have HM : Hid (tcPost W R Bc bc sl i Q) := hm
  have HS : Hid _ := hS
  have HB : Hid _ := hB
  have y1 := hB.c1
  have y2 := hB.c2
  have y3 := hB.c3
  have y5 := hB.c5
  have pc := hS.pc
  have g1 := hS.g1
  have g2 := hS.g2
  clear hm hS hB
  conv => arg 2; whnf
  go_wp2_with fail
  exact HM.out.use rfl rfl rfl rfl rfl HS.out
end Go.Proofs.Ytehdddmpjimfhaa
