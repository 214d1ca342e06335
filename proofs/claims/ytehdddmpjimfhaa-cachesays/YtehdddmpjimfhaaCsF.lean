/- undercroftlaw.CacheSays' switch: forget. -/
import Derived.Test.YtehdddmpjimfhaaCsE
namespace Go.Proofs.Ytehdddmpjimfhaa
open Go.ChangeShapes Go.WideShapes Go.ChangeAt Go.RowKit Go.Shelf
set_option maxRecDepth 1000000
attribute [local go_sem ↓] Go.wp_at_zero Go.wp_at_succ

set_option maxHeartbeats 40000000 in
theorem cs_forget (c : Nat → Value) (W w : World) (R Bm bc i q : Nat) (vm sl : Value) (x : Ac) (es : List En) (ds : List Nat) (k0 : (x.kind.toList == [112, 117, 116]) = false) (k1 : (x.kind.toList == [102, 105, 110, 100]) = false) (k2 : (x.kind.toList == [100, 114, 111, 112]) = false) (k3 : (x.kind.toList == [102, 111, 114, 103, 101, 116]) = true) (hB : BoxAt w q x) (hS : CsS W w R Bm bc vm es es ds) (_hq : Bm < q) (_hq2 : bc < q) {Q : Exit → Act → World → Prop} (hm : csPost W R Bm sl i Q) :
    Code.wp Try.prog csSw Q ⟨#[sl, c 1, .pointer (some ⟨R, 0, none⟩), c 3, .pointer (some ⟨bc, 0, none⟩), .pointer (some ⟨Bm, 0, none⟩), .int .i64 i, .pointer (some ⟨q, 0, none⟩), .bool true, c 9, c 10, c 11, c 12, c 13, c 14, c 15, c 16, c 17, c 18, c 19, c 20, c 21, c 22, c 23, c 24, c 25, c 26, c 27, c 28, c 29, c 30, c 31, c 32, c 33, c 34, c 35, c 36, c 37, c 38, c 39, c 40, c 41, c 42, c 43, c 44, c 45, c 46, c 47, c 48, .string x.kind, c 50, c 51, c 52, c 53, c 54, c 55, c 56, c 57, c 58, c 59, c 60, c 61, c 62, c 63, c 64, c 65, c 66, c 67, c 68, c 69, c 70, c 71, c 72, c 73, c 74, c 75, c 76, c 77, c 78, c 79, c 80, c 81, c 82, c 83, c 84, c 85, c 86, c 87, c 88, c 89, c 90, c 91, c 92, c 93, c 94, c 95, c 96, c 97, c 98, c 99, c 100, c 101, c 102, c 103, c 104, c 105, c 106, c 107, c 108, c 109, c 110, c 111, c 112, c 113, c 114, c 115, c 116, c 117, c 118, c 119, c 120, c 121, c 122, c 123, c 124, c 125, c 126, c 127, c 128, c 129, c 130, c 131, c 132, c 133, c 134, c 135, c 136, c 137, c 138, c 139, c 140, c 141, c 142, c 143, c 144, c 145, c 146, c 147, c 148, c 149, c 150, c 151, c 152, c 153, c 154, c 155, c 156, c 157, c 158, c 159, c 160, c 161, c 162, c 163, c 164, c 165, c 166, c 167, c 168, c 169, c 170, c 171, c 172, c 173, c 174, c 175, c 176, c 177, c 178, c 179, c 180, c 181, c 182, c 183, c 184, c 185, c 186, c 187, c 188, c 189, c 190, c 191, c 192, c 193, c 194, c 195, c 196, c 197, c 198, c 199, c 200, c 201, c 202, c 203, c 204, c 205, c 206, c 207, c 208, c 209, c 210, c 211, c 212, c 213, c 214, c 215, c 216, c 217, c 218, c 219, c 220, c 221, c 222, c 223, c 224, c 225, c 226, c 227, c 228, c 229, c 230, c 231, c 232, c 233, c 234, c 235, c 236, c 237, c 238, c 239, c 240, c 241, c 242, c 243, c 244, c 245, c 246, c 247, c 248, c 249, c 250], marks ds⟩ w := by
  have HM : Hid (csPost W R Bm sl i Q) := hm
  have HS : Hid _ := hS
  have HB : Hid _ := hB
  have y1 := hB.c1
  have y2 := hB.c2
  have y3 := hB.c3
  have y4 := hB.c4
  have y5 := hB.c5
  have m0 : w.cell? ⟨Bm, 0, none⟩ = some vm := box_cell hS.pm 0
  have mz : w.frozen? ⟨Bm, 0, none⟩ = false := box_frozen hS.pm 0
  have g1 := hS.g1
  have g2 := hS.g2
  have g3 := hS.g3
  have hle := hS.ca.le
  have hltc := hS.ca.lt
  have hltm : Bm < w.heap.size := (Array.getElem?_eq_some_iff.1 hS.pm).1
  have hltq : q < w.heap.size := World.block_lt_of_cell? w _ y1
  clear hm hS hB
  conv => arg 2; whnf
  obtain ⟨va, vcap, rfl, _⟩ := HS.out.sm.form
  go_wp2_with fail
  refine (cForget_any w (Bm + 1) _ es x.a HS.out.sm (by omega)).mono ?_
  rintro e w2 ⟨v2, rfl, hs2, hu2⟩
  obtain ⟨a2, cap2, rfl, _⟩ := hs2.form
  have HS2 : Hid _ := HS.out.same hu2
  have m2 := box_cell HS2.out.pm 0
  have f2 := box_frozen HS2.out.pm 0
  simp only [List.getElem?_toArray, List.getElem?_cons_zero] at m2
  have hS3 := HS2.out.keep hs2 (by omega) (by omega)
  have u3 := Upd.one w2 Bm 0 (.slice a2 (keepTo (fun i => (atE es i).root != x.a) es es.length).length cap2)
  have e2 := u3.cell (hu2.cell y2 (fun f => f)) (by simp only; omega)
  have hkf := keep_forget es x.a
  have HKF : Hid _ := hkf
  have HS3 : Hid _ := hS3
  have hm3 := box_cell hS3.pm 0
  simp only [List.getElem?_toArray, List.getElem?_cons_zero] at hm3
  rw [HKF.out] at HS3 e2 hs2 hm3
  rw [HKF.out]
  have HD : Hid (Dist es) := HS.out.di
  have hfl := flt_length (fun x_1 => x_1.root == x.a) es
  clear hu2 hS3 y1 y2 y3 y4 y5 m0 mz HS HS2 HB hs2 hkf u3
  generalize hflq : (flt (fun x_1 => x_1.root == x.a) es).length = fl at *
  have HFL : Hid _ := hflq
  clear hflq
  go_wp2_with fail
  clear m2 f2
  revert hm3
  revert e2
  revert HS3
  generalize w2.setCell ⟨Bm, 0, none⟩ (.slice a2 fl cap2) = w3
  intro HS3 e2 hm3
  have HSd : Hid _ := HS3.out.same ((Upd.refl (fun _ => False) w3).drew)
  have n1 : ¬ (q = bc) := by omega
  have n2 : ¬ (Bm = bc) := by omega
  have dnn : ((((es.length - fl : Nat)) : Int) == (es.length : Int) - (fl : Int)) = true := by simp; omega
  go_region_held3 (fun w' => w'.cell? ⟨q, 2, none⟩ = some (.int .i64 x.a) ∧ w'.cell? ⟨Bm, 0, none⟩ = some (.slice a2 fl cap2)) (first | exact ⟨e2, hm3⟩ | exact h4c)
    (first
      | (go_at_call 51; refine (kForget_any _ bc es x.a HSd.out.ca).mono ?_; rintro e w4 ⟨rfl, hc4, hu4⟩; rw [HFL.out]; have h4c : w4.cell? ⟨q, 2, none⟩ = some (.int .i64 x.a) ∧ w4.cell? ⟨Bm, 0, none⟩ = some (.slice a2 fl cap2) := ⟨hu4.cell (by exact e2) n1, hu4.cell (by exact hm3) n2⟩; have HS4 : Hid _ := HSd.out.call hu4 hc4 (dist_flt HD.out _); clear hc4 hu4))
  have hw8 : ((((es.length - fl : Nat)) : Int) == IntKind.i64.wrap ((es.length : Int) - (fl : Int))) = true := by
    rw [IntKind.wrap_i64]
    simp
    omega
  rw [hw8]
  go_wp2_with fail
  exact HM.out.use rfl rfl rfl rfl rfl rfl rfl HS4.out rfl

end Go.Proofs.Ytehdddmpjimfhaa
