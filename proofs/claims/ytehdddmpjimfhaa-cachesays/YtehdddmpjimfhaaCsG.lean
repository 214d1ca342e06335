/- undercroftlaw.CacheSays' switch: over, a copy. -/
import Derived.Test.YtehdddmpjimfhaaCsF
namespace Go.Proofs.Ytehdddmpjimfhaa
open Go.ChangeShapes Go.WideShapes Go.ChangeAt Go.RowKit Go.Shelf
set_option maxRecDepth 1000000
attribute [local go_sem ↓] Go.wp_at_zero Go.wp_at_succ

set_option maxHeartbeats 40000000 in
theorem cs_other (c : Nat → Value) (W w : World) (R Bm bc i q : Nat) (vm sl : Value) (x : Ac) (es : List En) (ds : List Nat) (k0 : (x.kind.toList == [112, 117, 116]) = false) (k1 : (x.kind.toList == [102, 105, 110, 100]) = false) (k2 : (x.kind.toList == [100, 114, 111, 112]) = false) (k3 : (x.kind.toList == [102, 111, 114, 103, 101, 116]) = false) (k4 : (x.kind.toList == [112, 111, 105, 110, 116]) = false) (k5 : (x.kind.toList == [111, 118, 101, 114]) = false) (hB : BoxAt w q x) (hS : CsS W w R Bm bc vm es es ds) (_hq : Bm < q) (_hq2 : bc < q) {Q : Exit → Act → World → Prop} (hm : csPost W R Bm sl i Q) :
    Code.wp Try.prog csSw Q ⟨#[sl, c 1, .pointer (some ⟨R, 0, none⟩), c 3, .pointer (some ⟨bc, 0, none⟩), .pointer (some ⟨Bm, 0, none⟩), .int .i64 i, .pointer (some ⟨q, 0, none⟩), .bool true, c 9, c 10, c 11, c 12, c 13, c 14, c 15, c 16, c 17, c 18, c 19, c 20, c 21, c 22, c 23, c 24, c 25, c 26, c 27, c 28, c 29, c 30, c 31, c 32, c 33, c 34, c 35, c 36, c 37, c 38, c 39, c 40, c 41, c 42, c 43, c 44, c 45, c 46, c 47, c 48, .string x.kind, c 50, c 51, c 52, c 53, c 54, c 55, c 56, c 57, c 58, c 59, c 60, c 61, c 62, c 63, c 64, c 65, c 66, c 67, c 68, c 69, c 70, c 71, c 72, c 73, c 74, c 75, c 76, c 77, c 78, c 79, c 80, c 81, c 82, c 83, c 84, c 85, c 86, c 87, c 88, c 89, c 90, c 91, c 92, c 93, c 94, c 95, c 96, c 97, c 98, c 99, c 100, c 101, c 102, c 103, c 104, c 105, c 106, c 107, c 108, c 109, c 110, c 111, c 112, c 113, c 114, c 115, c 116, c 117, c 118, c 119, c 120, c 121, c 122, c 123, c 124, c 125, c 126, c 127, c 128, c 129, c 130, c 131, c 132, c 133, c 134, c 135, c 136, c 137, c 138, c 139, c 140, c 141, c 142, c 143, c 144, c 145, c 146, c 147, c 148, c 149, c 150, c 151, c 152, c 153, c 154, c 155, c 156, c 157, c 158, c 159, c 160, c 161, c 162, c 163, c 164, c 165, c 166, c 167, c 168, c 169, c 170, c 171, c 172, c 173, c 174, c 175, c 176, c 177, c 178, c 179, c 180, c 181, c 182, c 183, c 184, c 185, c 186, c 187, c 188, c 189, c 190, c 191, c 192, c 193, c 194, c 195, c 196, c 197, c 198, c 199, c 200, c 201, c 202, c 203, c 204, c 205, c 206, c 207, c 208, c 209, c 210, c 211, c 212, c 213, c 214, c 215, c 216, c 217, c 218, c 219, c 220, c 221, c 222, c 223, c 224, c 225, c 226, c 227, c 228, c 229, c 230, c 231, c 232, c 233, c 234, c 235, c 236, c 237, c 238, c 239, c 240, c 241, c 242, c 243, c 244, c 245, c 246, c 247, c 248, c 249, c 250], marks ds⟩ w := by
  have HM : Hid (csPost W R Bm sl i Q) := hm
  have HS : Hid _ := hS
  have HB : Hid _ := hB
  have y1 := hB.c1
  have y2 := hB.c2
  have y3 := hB.c3
  have y4 := hB.c4
  have y5 := hB.c5
  have m0 : w.cell? ⟨Bm, 0, none⟩ = some vm := box_cell hS.pm 0
  have mz : w.frozen? ⟨Bm, 0, none⟩ = false := box_frozen hS.pm 0
  have g1 := hS.g1
  have g2 := hS.g2
  have g3 := hS.g3
  have hle := hS.ca.le
  have hltc := hS.ca.lt
  have hltm : Bm < w.heap.size := (Array.getElem?_eq_some_iff.1 hS.pm).1
  have hltq : q < w.heap.size := World.block_lt_of_cell? w _ y1
  clear hm hS hB
  conv => arg 2; whnf
  go_wp2_with fail
  refine (kCopy_any w bc es HS.out.ca).mono ?_
  rintro e w1 ⟨b2, rfl, hb2, hc2, hu1⟩
  have HS1 : Hid _ := HS.out.same hu1
  have HC2 : Hid (CaL w1 b2 es) := hc2
  have z2 := hu1.cell y2 (fun f => f)
  have HNB : Hid (∀ g, vm.ownBlock = some g → g ≠ b2) := fun g hg => by have := (HS.out.sm.own_lt hg).2; omega
  have HD : Hid (Dist es) := HS.out.di
  have nb : b2 ≠ bc := by omega
  have nq : ¬ (q = bc) := by omega
  clear hc2 hu1 y1 y2 y3 y4 y5 m0 mz HS HB
  go_wp2_with fail
  refine (kForget_any w1 bc es x.a HS1.out.ca).mono ?_
  rintro e w2 ⟨rfl, hc3, hu2⟩
  have HS2 : Hid _ := HS1.out.call hu2 hc3 (dist_flt HD.out _)
  have HC3 : Hid (CaL w2 b2 es) := HC2.out.upd hu2 nb
  have hlt2 := HC3.out.lt
  generalize es.length - (flt (fun x_1 => x_1.root == x.a) es).length = dn
  clear hc3 hu2 HS1 HC2 z2
  go_wp2_with fail
  refine (kPut_any w2 bc _ ⟨55, 0, 0, false, ⟨false, false, 0⟩⟩ HS2.out.ca).mono ?_
  rintro e w3 ⟨rfl, hc4, hu3⟩
  have HS3 : Hid _ := (HS2.out.call hu3 hc4 (dist_putK HS2.out.di _)).other (HC3.out.upd hu3 nb) HD.out (by omega) (by omega) HNB.out
  clear hc4 hu3 HS2 HC3
  go_wp2_with fail
  exact HM.out.use rfl rfl rfl rfl rfl rfl rfl HS3.out rfl

set_option maxHeartbeats 40000000 in
theorem cs_over (c : Nat → Value) (W w : World) (R Bm bc i q : Nat) (vm sl : Value) (x : Ac) (es : List En) (ds : List Nat) (k0 : (x.kind.toList == [112, 117, 116]) = false) (k1 : (x.kind.toList == [102, 105, 110, 100]) = false) (k2 : (x.kind.toList == [100, 114, 111, 112]) = false) (k3 : (x.kind.toList == [102, 111, 114, 103, 101, 116]) = false) (k4 : (x.kind.toList == [112, 111, 105, 110, 116]) = false) (k5 : (x.kind.toList == [111, 118, 101, 114]) = true) (hB : BoxAt w q x) (hS : CsS W w R Bm bc vm es es ds) (_hq : Bm < q) (_hq2 : bc < q) {Q : Exit → Act → World → Prop} (hm : csPost W R Bm sl i Q) :
    Code.wp Try.prog csSw Q ⟨#[sl, c 1, .pointer (some ⟨R, 0, none⟩), c 3, .pointer (some ⟨bc, 0, none⟩), .pointer (some ⟨Bm, 0, none⟩), .int .i64 i, .pointer (some ⟨q, 0, none⟩), .bool true, c 9, c 10, c 11, c 12, c 13, c 14, c 15, c 16, c 17, c 18, c 19, c 20, c 21, c 22, c 23, c 24, c 25, c 26, c 27, c 28, c 29, c 30, c 31, c 32, c 33, c 34, c 35, c 36, c 37, c 38, c 39, c 40, c 41, c 42, c 43, c 44, c 45, c 46, c 47, c 48, .string x.kind, c 50, c 51, c 52, c 53, c 54, c 55, c 56, c 57, c 58, c 59, c 60, c 61, c 62, c 63, c 64, c 65, c 66, c 67, c 68, c 69, c 70, c 71, c 72, c 73, c 74, c 75, c 76, c 77, c 78, c 79, c 80, c 81, c 82, c 83, c 84, c 85, c 86, c 87, c 88, c 89, c 90, c 91, c 92, c 93, c 94, c 95, c 96, c 97, c 98, c 99, c 100, c 101, c 102, c 103, c 104, c 105, c 106, c 107, c 108, c 109, c 110, c 111, c 112, c 113, c 114, c 115, c 116, c 117, c 118, c 119, c 120, c 121, c 122, c 123, c 124, c 125, c 126, c 127, c 128, c 129, c 130, c 131, c 132, c 133, c 134, c 135, c 136, c 137, c 138, c 139, c 140, c 141, c 142, c 143, c 144, c 145, c 146, c 147, c 148, c 149, c 150, c 151, c 152, c 153, c 154, c 155, c 156, c 157, c 158, c 159, c 160, c 161, c 162, c 163, c 164, c 165, c 166, c 167, c 168, c 169, c 170, c 171, c 172, c 173, c 174, c 175, c 176, c 177, c 178, c 179, c 180, c 181, c 182, c 183, c 184, c 185, c 186, c 187, c 188, c 189, c 190, c 191, c 192, c 193, c 194, c 195, c 196, c 197, c 198, c 199, c 200, c 201, c 202, c 203, c 204, c 205, c 206, c 207, c 208, c 209, c 210, c 211, c 212, c 213, c 214, c 215, c 216, c 217, c 218, c 219, c 220, c 221, c 222, c 223, c 224, c 225, c 226, c 227, c 228, c 229, c 230, c 231, c 232, c 233, c 234, c 235, c 236, c 237, c 238, c 239, c 240, c 241, c 242, c 243, c 244, c 245, c 246, c 247, c 248, c 249, c 250], marks ds⟩ w := by
  have HM : Hid (csPost W R Bm sl i Q) := hm
  have HS : Hid _ := hS
  have HB : Hid _ := hB
  have y1 := hB.c1
  have y2 := hB.c2
  have y3 := hB.c3
  have y4 := hB.c4
  have y5 := hB.c5
  have m0 : w.cell? ⟨Bm, 0, none⟩ = some vm := box_cell hS.pm 0
  have mz : w.frozen? ⟨Bm, 0, none⟩ = false := box_frozen hS.pm 0
  have g1 := hS.g1
  have g2 := hS.g2
  have g3 := hS.g3
  have hle := hS.ca.le
  have hltc := hS.ca.lt
  have hltm : Bm < w.heap.size := (Array.getElem?_eq_some_iff.1 hS.pm).1
  have hltq : q < w.heap.size := World.block_lt_of_cell? w _ y1
  clear hm hS hB
  conv => arg 2; whnf
  obtain ⟨va, vcap, rfl, _⟩ := HS.out.sm.form
  go_wp2_with fail
  refine (kAll_any w bc es HS.out.ca).mono ?_
  rintro e w1 ⟨B, b', rfl, hB1, hb1, hB2, hC2, hu1⟩
  have HS1 : Hid _ := HS.out.same hu1
  have HB2 : Hid _ := hB2
  have HC2 : Hid (CaL w1 b' es) := hC2
  have HY2 : Hid _ := hu1.cell y2 (fun f => f)
  have HD : Hid (Dist es) := HS.out.di
  have HNG : Hid (∀ g, (Value.slice va es.length vcap).ownBlock = some g → g < w.heap.size) := fun g hg => (HS.out.sm.own_lt hg).2
  have hltB : B < w1.heap.size := World.block_lt_of_cell? w1 _ hB2
  have hltb : b' < w1.heap.size := hC2.lt
  have hsz1 := hu1.size
  clear hB2 hC2 hu1 y1 y2 y3 y4 y5 m0 mz HS HB
  go_wp2_with fail
  refine (kPut_any w1 bc es ⟨77, 0, 0, false, ⟨false, false, 0⟩⟩ HS1.out.ca).mono ?_
  rintro e w2 ⟨rfl, hc2, hu2⟩
  have HS2 : Hid _ := HS1.out.call hu2 hc2 (dist_putK HD.out _)
  have HU2 : Hid _ := hu2
  have hsz2 := hu2.size
  clear hc2 hu2 HS1
  go_wp2_with fail
  refine (kForget_any w2 bc _ 77 HS2.out.ca).mono ?_
  rintro e w3 ⟨rfl, hc3, hu3⟩
  have hu23 := HU2.out.trans hu3 (fun _ _ e => e)
  have hu4 := (Upd.refl (fun _ => False) w3).alloc (.cells #[.int .i64 0] 3)
  have HS4 : Hid _ := (HS2.out.call hu3 hc3 (dist_flt HS2.out.di _)).same hu4
  have HB4 : Hid _ := hu4.cell (hu23.cell HB2.out (by simp only; omega)) (fun f => f)
  have HC4 : Hid (CaL (w3.alloc (.cells #[.int .i64 0] 3)) b' es) := (HC2.out.upd hu23 (by omega)).upd hu4 (fun f => f)
  have HY4 : Hid _ := hu4.cell (hu23.cell HY2.out (by simp only; omega)) (fun f => f)
  have HK4 : Hid _ := box_new w3 #[.int .i64 0] 3
  have hsz3 := hu3.size
  obtain ⟨rv, hr0⟩ := HS4.out.r0
  have HR0 : Hid _ := hr0
  have HWZ : Hid (W.heap.size ≤ w3.heap.size) := by show _ ≤ _; have := HS4.out.g0; omega
  have hput := put_same HD.out hle ⟨77, 0, 0, false, ⟨false, false, 0⟩⟩
  have hkf := keep_forget (putC es ⟨77, 0, 0, false, ⟨false, false, 0⟩⟩) 77
  have hplen := putK_le es ⟨77, 0, 0, false, ⟨false, false, 0⟩⟩ hle
  have HPUT : Hid _ := hput
  have HKF : Hid _ := hkf
  generalize (putK es ⟨77, 0, 0, false, ⟨false, false, 0⟩⟩).length - (flt (fun x_1 => x_1.root == 77) (putK es ⟨77, 0, 0, false, ⟨false, false, 0⟩⟩)).length = dn
  clear hc3 hu3 hu23 hu4 HS2 HU2 HB2 HC2 HY2 hr0 hput hkf
  have HPL : Hid ((putC es ⟨77, 0, 0, false, ⟨false, false, 0⟩⟩).length ≤ 4) := by show _ ≤ _; rw [HPUT.out]; exact hplen
  go_wp2_with fail
  refine cs_rf1L _ rfl ds _ B b' q R Bm w3.heap.size (Bm + 1) (.slice va es.length vcap) es x rv rfl rfl rfl rfl rfl HB4.out HC4.out HY4.out HR0.out HS4.out.rz HS4.out.pm HS4.out.sm HK4.out (by omega) (by omega) (by omega) (by omega) (by omega) (fun g hg => by have := HNG.out g hg; omega) ?_ ?_
  · intro D w5 hD hu5 hk5 hd5
    have HS5 : Hid _ := HS4.out.mark hu5 (box_cell HK4.out 0) (by omega) (by omega) (by omega) (fun g hg => by have := HNG.out g hg; omega) HWZ.out hD hd5
    have kc : w5.cell? ⟨w3.heap.size, 0, none⟩ = some (.int .i64 (es.length : Nat)) := box_cell hk5 0
    have z5 := hu5.cell HY4.out (by simp only; omega)
    have dk : (((es.length : Nat) : Int) == ((es.length : Nat) : Int)) = true := by simp
    have m5 := box_cell HS5.out.pm 0
    simp only [List.getElem?_toArray, List.getElem?_cons_zero] at m5
    clear hu5 hk5 hd5 hD HS4 HR0 HB4 HC4 HK4 HY4 HWZ HNG
    go_wp2_with fail
    refine (cPut_any w5 (Bm + 1) _ es ⟨77, 0, 0, false, ⟨false, false, 0⟩⟩ HS5.out.sm (by omega)).mono ?_
    rintro e w6 ⟨v6, rfl, hs6, hu6⟩
    obtain ⟨a6, cap6, rfl, _⟩ := hs6.form
    have HS6 : Hid _ := HS5.out.same hu6
    have HSL : Hid (SlC w6 w5.heap.size _ (putC es ⟨77, 0, 0, false, ⟨false, false, 0⟩⟩)) := hs6
    have hsz5 : Bm < w5.heap.size ∧ bc < w5.heap.size := ⟨(Array.getElem?_eq_some_iff.1 HS5.out.pm).1, HS5.out.ca.lt⟩
    have hsz6 := hu6.size
    clear hs6 hu6 HS5 m5 kc z5
    go_wp2_with fail
    refine (cForget_any w6 w5.heap.size _ (putC es ⟨77, 0, 0, false, ⟨false, false, 0⟩⟩) 77 HSL.out (by have := HPL.out; omega)).mono ?_
    rintro e w7 ⟨v7, rfl, hs7, hu7⟩
    obtain ⟨a7, cap7, rfl, _⟩ := hs7.form
    have HS7 : Hid _ := HS6.out.same hu7
    have m7 := box_cell HS7.out.pm 0
    have f7 := box_frozen HS7.out.pm 0
    simp only [List.getElem?_toArray, List.getElem?_cons_zero] at m7
    have HS8 : Hid _ := HS7.out.keep hs7 (by omega) (by omega)
    have HEQ : Hid (flt (fun x_1 => x_1.root == 77) (putK es ⟨77, 0, 0, false, ⟨false, false, 0⟩⟩) = keepTo (fun i => (atE (putC es ⟨77, 0, 0, false, ⟨false, false, 0⟩⟩) i).root != 77) (putC es ⟨77, 0, 0, false, ⟨false, false, 0⟩⟩) (putC es ⟨77, 0, 0, false, ⟨false, false, 0⟩⟩).length) := by
      show _ = _
      rw [HKF.out, HPUT.out]
    clear hs7 hu7 HS6 HS7 HSL HKF HPUT HPL
    generalize (keepTo (fun i => (atE (putC es ⟨77, 0, 0, false, ⟨false, false, 0⟩⟩) i).root != 77) (putC es ⟨77, 0, 0, false, ⟨false, false, 0⟩⟩) (putC es ⟨77, 0, 0, false, ⟨false, false, 0⟩⟩).length).length = k7 at *
    go_wp2_with fail
    exact HM.out.use rfl rfl rfl rfl rfl rfl rfl HS8.out HEQ.out
  · intro D kk w5 hD hkk hka hu5 hk5 hd5
    have HS5 : Hid _ := HS4.out.mark hu5 (box_cell HK4.out 0) (by omega) (by omega) (by omega) (fun g hg => by have := HNG.out g hg; omega) HWZ.out hD hd5
    have kc : w5.cell? ⟨w3.heap.size, 0, none⟩ = some (.int .i64 (kk : Nat)) := box_cell hk5 0
    have z5 := hu5.cell HY4.out (by simp only; omega)
    by_cases hkl : kk = es.length
    · subst hkl
      have dk : (((es.length : Nat) : Int) == ((es.length : Nat) : Int)) = true := by simp
      have m5 := box_cell HS5.out.pm 0
      simp only [List.getElem?_toArray, List.getElem?_cons_zero] at m5
      clear hu5 hk5 hd5 hD HS4 HR0 HB4 HC4 HK4 HY4 HWZ HNG
      go_wp2_with fail
      refine (cPut_any w5 (Bm + 1) _ es ⟨77, 0, 0, false, ⟨false, false, 0⟩⟩ HS5.out.sm (by omega)).mono ?_
      rintro e w6 ⟨v6, rfl, hs6, hu6⟩
      obtain ⟨a6, cap6, rfl, _⟩ := hs6.form
      have HS6 : Hid _ := HS5.out.same hu6
      have HSL : Hid (SlC w6 w5.heap.size _ (putC es ⟨77, 0, 0, false, ⟨false, false, 0⟩⟩)) := hs6
      have hsz5 : Bm < w5.heap.size ∧ bc < w5.heap.size := ⟨(Array.getElem?_eq_some_iff.1 HS5.out.pm).1, HS5.out.ca.lt⟩
      have hsz6 := hu6.size
      clear hs6 hu6 HS5 m5 kc z5
      go_wp2_with fail
      refine (cForget_any w6 w5.heap.size _ (putC es ⟨77, 0, 0, false, ⟨false, false, 0⟩⟩) 77 HSL.out (by have := HPL.out; omega)).mono ?_
      rintro e w7 ⟨v7, rfl, hs7, hu7⟩
      obtain ⟨a7, cap7, rfl, _⟩ := hs7.form
      have HS7 : Hid _ := HS6.out.same hu7
      have m7 := box_cell HS7.out.pm 0
      have f7 := box_frozen HS7.out.pm 0
      simp only [List.getElem?_toArray, List.getElem?_cons_zero] at m7
      have HS8 : Hid _ := HS7.out.keep hs7 (by omega) (by omega)
      have HEQ : Hid (flt (fun x_1 => x_1.root == 77) (putK es ⟨77, 0, 0, false, ⟨false, false, 0⟩⟩) = keepTo (fun i => (atE (putC es ⟨77, 0, 0, false, ⟨false, false, 0⟩⟩) i).root != 77) (putC es ⟨77, 0, 0, false, ⟨false, false, 0⟩⟩) (putC es ⟨77, 0, 0, false, ⟨false, false, 0⟩⟩).length) := by
        show _ = _
        rw [HKF.out, HPUT.out]
      clear hs7 hu7 HS6 HS7 HSL HKF HPUT HPL
      generalize (keepTo (fun i => (atE (putC es ⟨77, 0, 0, false, ⟨false, false, 0⟩⟩) i).root != 77) (putC es ⟨77, 0, 0, false, ⟨false, false, 0⟩⟩) (putC es ⟨77, 0, 0, false, ⟨false, false, 0⟩⟩).length).length = k7 at *
      go_wp2_with fail
      exact HM.out.use rfl rfl rfl rfl rfl rfl rfl HS8.out HEQ.out
    · have dk : (((kk : Nat) : Int) == ((es.length : Nat) : Int)) = false := by simp; omega
      have dk2 : (((kk : Nat) : Int) == x.a) = true := by rw [hka]; simp
      have m5 := box_cell HS5.out.pm 0
      simp only [List.getElem?_toArray, List.getElem?_cons_zero] at m5
      clear hu5 hk5 hd5 hD HS4 HR0 HB4 HC4 HK4 HY4 HWZ HNG
      go_wp2_with fail
      refine (cPut_any w5 (Bm + 1) _ es ⟨77, 0, 0, false, ⟨false, false, 0⟩⟩ HS5.out.sm (by omega)).mono ?_
      rintro e w6 ⟨v6, rfl, hs6, hu6⟩
      obtain ⟨a6, cap6, rfl, _⟩ := hs6.form
      have HS6 : Hid _ := HS5.out.same hu6
      have HSL : Hid (SlC w6 w5.heap.size _ (putC es ⟨77, 0, 0, false, ⟨false, false, 0⟩⟩)) := hs6
      have hsz5 : Bm < w5.heap.size ∧ bc < w5.heap.size := ⟨(Array.getElem?_eq_some_iff.1 HS5.out.pm).1, HS5.out.ca.lt⟩
      have hsz6 := hu6.size
      clear hs6 hu6 HS5 m5 kc z5
      go_wp2_with fail
      refine (cForget_any w6 w5.heap.size _ (putC es ⟨77, 0, 0, false, ⟨false, false, 0⟩⟩) 77 HSL.out (by have := HPL.out; omega)).mono ?_
      rintro e w7 ⟨v7, rfl, hs7, hu7⟩
      obtain ⟨a7, cap7, rfl, _⟩ := hs7.form
      have HS7 : Hid _ := HS6.out.same hu7
      have m7 := box_cell HS7.out.pm 0
      have f7 := box_frozen HS7.out.pm 0
      simp only [List.getElem?_toArray, List.getElem?_cons_zero] at m7
      have HS8 : Hid _ := HS7.out.keep hs7 (by omega) (by omega)
      have HEQ : Hid (flt (fun x_1 => x_1.root == 77) (putK es ⟨77, 0, 0, false, ⟨false, false, 0⟩⟩) = keepTo (fun i => (atE (putC es ⟨77, 0, 0, false, ⟨false, false, 0⟩⟩) i).root != 77) (putC es ⟨77, 0, 0, false, ⟨false, false, 0⟩⟩) (putC es ⟨77, 0, 0, false, ⟨false, false, 0⟩⟩).length) := by
        show _ = _
        rw [HKF.out, HPUT.out]
      clear hs7 hu7 HS6 HS7 HSL HKF HPUT HPL
      generalize (keepTo (fun i => (atE (putC es ⟨77, 0, 0, false, ⟨false, false, 0⟩⟩) i).root != 77) (putC es ⟨77, 0, 0, false, ⟨false, false, 0⟩⟩) (putC es ⟨77, 0, 0, false, ⟨false, false, 0⟩⟩).length).length = k7 at *
      go_wp2_with fail
      exact HM.out.use rfl rfl rfl rfl rfl rfl rfl HS8.out HEQ.out
end Go.Proofs.Ytehdddmpjimfhaa
