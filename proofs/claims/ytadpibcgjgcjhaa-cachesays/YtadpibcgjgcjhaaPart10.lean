/- undercroftlaw.CacheSays' switch: find. -/
import Derived.Test.YtadpibcgjgcjhaaPart09
namespace Go.Proofs.Ytadpibcgjgcjhaa
open Go.ChangeShapes Go.WideShapes Go.ChangeAt Go.RowKit Go.Shelf
set_option maxRecDepth 1000000
attribute [local go_sem ↓] Go.wp_at_zero Go.wp_at_succ

set_option maxHeartbeats 40000000 in
theorem cs_find (c : Nat → Value) (W w : World) (R Bm bc i q : Nat) (vm sl : Value) (x : Ac) (es : List En) (ds : List Nat) (k0 : (x.kind.toList == [112, 117, 116]) = false) (k1 : (x.kind.toList == [102, 105, 110, 100]) = true) (hB : BoxAt w q x) (hS : CsS W w R Bm bc vm es es ds) (_hq : Bm < q) (_hq2 : bc < q) {Q : Exit → Act → World → Prop} (hm : csPost W R Bm sl i Q) :
    Code.wp Try.prog csSw Q ⟨#[sl, c 1, .pointer (some ⟨R, 0, none⟩), c 3, .pointer (some ⟨bc, 0, none⟩), .pointer (some ⟨Bm, 0, none⟩), .int .i64 i, .pointer (some ⟨q, 0, none⟩), .bool true, c 9, c 10, c 11, c 12, c 13, c 14, c 15, c 16, c 17, c 18, c 19, c 20, c 21, c 22, c 23, c 24, c 25, c 26, c 27, c 28, c 29, c 30, c 31, c 32, c 33, c 34, c 35, c 36, c 37, c 38, c 39, c 40, c 41, c 42, c 43, c 44, c 45, c 46, c 47, c 48, .string x.kind, c 50, c 51, c 52, c 53, c 54, c 55, c 56, c 57, c 58, c 59, c 60, c 61, c 62, c 63, c 64, c 65, c 66, c 67, c 68, c 69, c 70, c 71, c 72, c 73, c 74, c 75, c 76, c 77, c 78, c 79, c 80, c 81, c 82, c 83, c 84, c 85, c 86, c 87, c 88, c 89, c 90, c 91, c 92, c 93, c 94, c 95, c 96, c 97, c 98, c 99, c 100, c 101, c 102, c 103, c 104, c 105, c 106, c 107, c 108, c 109, c 110, c 111, c 112, c 113, c 114, c 115, c 116, c 117, c 118, c 119, c 120, c 121, c 122, c 123, c 124, c 125, c 126, c 127, c 128, c 129, c 130, c 131, c 132, c 133, c 134, c 135, c 136, c 137, c 138, c 139, c 140, c 141, c 142, c 143, c 144, c 145, c 146, c 147, c 148, c 149, c 150, c 151, c 152, c 153, c 154, c 155, c 156, c 157, c 158, c 159, c 160, c 161, c 162, c 163, c 164, c 165, c 166, c 167, c 168, c 169, c 170, c 171, c 172, c 173, c 174, c 175, c 176, c 177, c 178, c 179, c 180, c 181, c 182, c 183, c 184, c 185, c 186, c 187, c 188, c 189, c 190, c 191, c 192, c 193, c 194, c 195, c 196, c 197, c 198, c 199, c 200, c 201, c 202, c 203, c 204, c 205, c 206, c 207, c 208, c 209, c 210, c 211, c 212, c 213, c 214, c 215, c 216, c 217, c 218, c 219, c 220, c 221, c 222, c 223, c 224, c 225, c 226, c 227, c 228, c 229, c 230, c 231, c 232, c 233, c 234, c 235, c 236, c 237, c 238, c 239, c 240, c 241, c 242, c 243, c 244, c 245, c 246, c 247, c 248, c 249, c 250], marks ds⟩ w := by
  have HM : Hid (csPost W R Bm sl i Q) := hm
  have HS : Hid _ := hS
  have HB : Hid _ := hB
  have y1 := hB.c1
  have y2 := hB.c2
  have y3 := hB.c3
  have y4 := hB.c4
  have y5 := hB.c5
  have m0 : w.cell? ⟨Bm, 0, none⟩ = some vm := box_cell hS.pm 0
  have mz : w.frozen? ⟨Bm, 0, none⟩ = false := box_frozen hS.pm 0
  have g1 := hS.g1
  have g2 := hS.g2
  have g3 := hS.g3
  have hle := hS.ca.le
  have hltc := hS.ca.lt
  have hltm : Bm < w.heap.size := (Array.getElem?_eq_some_iff.1 hS.pm).1
  have hltq : q < w.heap.size := World.block_lt_of_cell? w _ y1
  clear hm hS hB
  conv => arg 2; whnf
  rcases idxP_cases (isAt x.a x.b) es with ⟨k, hk, ek, _, _⟩ | ⟨ek, _⟩
  · have HEK : Hid _ := ek
    go_wp2_with fail
    refine (kFind_yes w bc es x.a x.b HS.out.ca k hk HEK.out).mono ?_
    rintro e w1 ⟨rfl, hu1⟩
    have hu2 := hu1.alloc (.cells #[.int .i64 (atE es k).root, .int .i64 (atE es k).page, .int .i64 (atE es k).dest, .bool (atE es k).may, .bool (atE es k).lf.there, .bool (atE es k).lf.wr, .int .i64 (atE es k).lf.fr] 85)
    have HS2 : Hid _ := HS.out.same hu2
    have HBX : Hid _ := box_new w1 #[.int .i64 (atE es k).root, .int .i64 (atE es k).page, .int .i64 (atE es k).dest, .bool (atE es k).may, .bool (atE es k).lf.there, .bool (atE es k).lf.wr, .int .i64 (atE es k).lf.fr] 85
    have m2 := hu2.cell m0 (fun f => f)
    have z2 := hu2.cell y2 (fun f => f)
    have z3 := hu2.cell y3 (fun f => f)
    obtain ⟨va, vcap, rfl, hform⟩ := HS2.out.sm.form
    obtain ⟨g, rfl, _, hglt, hcell⟩ := hform k hk
    have hrg : (w1.alloc (.cells #[.int .i64 (atE es k).root, .int .i64 (atE es k).page, .int .i64 (atE es k).dest, .bool (atE es k).may, .bool (atE es k).lf.there, .bool (atE es k).lf.wr, .int .i64 (atE es k).lf.fr] 85)).rangeAt g (k * 7) (enCells (atE es k)) := by
      intro j v hj
      have hj7 : j < 7 := (List.getElem?_eq_some_iff.1 hj).1
      exact (hcell j hj7).trans hj
    have hrx : (w1.alloc (.cells #[.int .i64 (atE es k).root, .int .i64 (atE es k).page, .int .i64 (atE es k).dest, .bool (atE es k).may, .bool (atE es k).lf.there, .bool (atE es k).lf.wr, .int .i64 (atE es k).lf.fr] 85)).rangeAt w1.heap.size 0 (enCells (atE es k)) := by
      intro j v hj
      rw [Nat.zero_add, box_cell HBX.out j, ← hj]
      show (enCells (atE es k)).toArray[j]? = _
      simp
    clear hu1 hu2 hform hcell HBX ek m0 mz y1 y2 y3 y4 y5 HB HS
    generalize atE es k = y at *
    go_wp2_with fail
    refine (cFind_any _ (Bm + 1) _ es x.a x.b HS2.out.sm (by omega)).mono ?_
    rintro e w3 ⟨rfl, hw3⟩
    subst hw3
    rw [show fndI es x.a x.b = (k : Int) from HEK.out]
    have k0 : (0 : Int) ≤ (k : Int) := by omega
    have k1 : (k : Int) < es.length := by omega
    have d0 : decide ((0 : Int) ≤ (k : Int)) = true := by simp
    have tt : (true == true) = true := rfl
    clear HEK
    go_wp2_with fail
    refine wp_region_quiet_lit (by kernel_rfl) (by kernel_rfl) ?_
    repeat (first
      | (go_big_quiet_want; refine quiet_entry' _ (by rfl) w1.heap.size 0 (by rfl) y (by rintro _ ⟨n, rfl⟩; exact hrx) ?_; simp only [Act.put, List.setIfInBounds_toArray, List.set_cons_zero, List.set_cons_succ]; go_big_quiet_on)
      | (go_big_quiet_want; refine quiet_entry' _ (by rfl) g (k * 7) (by rfl) y (by rintro _ ⟨n, rfl⟩; exact hrg) ?_; simp only [Act.put, List.setIfInBounds_toArray, List.set_cons_zero, List.set_cons_succ]; go_big_quiet_on)
      | go_big_quiet_step (fail))
    refine wpQuiet_nil ?_
    intro _ hw'
    obtain ⟨nq, hw''⟩ := hw'
    subst hw''
    have HS9 : Hid _ := HS2.out.same ((Upd.refl (fun _ => False) _).drewN nq)
    clear HS2
    go_wp2_with fail
    exact HM.out.use rfl rfl rfl rfl rfl rfl rfl HS9.out rfl
  · have HEK : Hid _ := ek
    go_wp2_with fail
    refine (kFind_no w bc es x.a x.b HS.out.ca HEK.out).mono ?_
    rintro e w1 ⟨rfl, hu1⟩
    have hu2 := hu1.alloc (.cells #[.int .i64 0, .int .i64 0, .int .i64 0, .bool false, .bool false, .bool false, .int .i64 0] 85)
    have HS2 : Hid _ := HS.out.same hu2
    have HBX : Hid _ := box_new w1 #[.int .i64 0, .int .i64 0, .int .i64 0, .bool false, .bool false, .bool false, .int .i64 0] 85
    have m2 := hu2.cell m0 (fun f => f)
    have z2 := hu2.cell y2 (fun f => f)
    have z3 := hu2.cell y3 (fun f => f)
    have hrx : (w1.alloc (.cells #[.int .i64 0, .int .i64 0, .int .i64 0, .bool false, .bool false, .bool false, .int .i64 0] 85)).rangeAt w1.heap.size 0 (enCells ⟨0, 0, 0, false, ⟨false, false, 0⟩⟩) := by
      intro j v hj
      rw [Nat.zero_add, box_cell HBX.out j, ← hj]
      show (enCells ⟨0, 0, 0, false, ⟨false, false, 0⟩⟩).toArray[j]? = _
      simp
    clear hu1 hu2 HBX ek m0 mz y1 y2 y3 y4 y5 HB HS
    go_wp2_with fail
    refine (cFind_any _ (Bm + 1) _ es x.a x.b HS2.out.sm (by omega)).mono ?_
    rintro e w3 ⟨rfl, hw3⟩
    subst hw3
    rw [show fndI es x.a x.b = -1 from HEK.out]
    clear HEK
    go_wp2_with fail
    refine wp_region_quiet_lit (by kernel_rfl) (by kernel_rfl) ?_
    repeat (first
      | (go_big_quiet_want; refine quiet_entry' _ (by rfl) w1.heap.size 0 (by rfl) ⟨0, 0, 0, false, ⟨false, false, 0⟩⟩ (by rintro _ ⟨n, rfl⟩; exact hrx) ?_; simp only [Act.put, List.setIfInBounds_toArray, List.set_cons_zero, List.set_cons_succ]; go_big_quiet_on)
      | go_big_quiet_step (fail))
    refine wpQuiet_nil ?_
    intro _ hw'
    obtain ⟨nq, hw''⟩ := hw'
    subst hw''
    have HS9 : Hid _ := HS2.out.same ((Upd.refl (fun _ => False) _).drewN nq)
    clear HS2
    go_wp2_with fail
    exact HM.out.use rfl rfl rfl rfl rfl rfl rfl HS9.out rfl

end Go.Proofs.Ytadpibcgjgcjhaa
/- undercroftlaw.CacheSays' switch: forget. -/
namespace Go.Proofs.Ytadpibcgjgcjhaa
open Go.ChangeShapes Go.WideShapes Go.ChangeAt Go.RowKit Go.Shelf
set_option maxRecDepth 1000000
attribute [local go_sem ↓] Go.wp_at_zero Go.wp_at_succ

set_option maxHeartbeats 40000000 in
theorem cs_forget (c : Nat → Value) (W w : World) (R Bm bc i q : Nat) (vm sl : Value) (x : Ac) (es : List En) (ds : List Nat) (k0 : (x.kind.toList == [112, 117, 116]) = false) (k1 : (x.kind.toList == [102, 105, 110, 100]) = false) (k2 : (x.kind.toList == [100, 114, 111, 112]) = false) (k3 : (x.kind.toList == [102, 111, 114, 103, 101, 116]) = true) (hB : BoxAt w q x) (hS : CsS W w R Bm bc vm es es ds) (_hq : Bm < q) (_hq2 : bc < q) {Q : Exit → Act → World → Prop} (hm : csPost W R Bm sl i Q) :
    Code.wp Try.prog csSw Q ⟨#[sl, c 1, .pointer (some ⟨R, 0, none⟩), c 3, .pointer (some ⟨bc, 0, none⟩), .pointer (some ⟨Bm, 0, none⟩), .int .i64 i, .pointer (some ⟨q, 0, none⟩), .bool true, c 9, c 10, c 11, c 12, c 13, c 14, c 15, c 16, c 17, c 18, c 19, c 20, c 21, c 22, c 23, c 24, c 25, c 26, c 27, c 28, c 29, c 30, c 31, c 32, c 33, c 34, c 35, c 36, c 37, c 38, c 39, c 40, c 41, c 42, c 43, c 44, c 45, c 46, c 47, c 48, .string x.kind, c 50, c 51, c 52, c 53, c 54, c 55, c 56, c 57, c 58, c 59, c 60, c 61, c 62, c 63, c 64, c 65, c 66, c 67, c 68, c 69, c 70, c 71, c 72, c 73, c 74, c 75, c 76, c 77, c 78, c 79, c 80, c 81, c 82, c 83, c 84, c 85, c 86, c 87, c 88, c 89, c 90, c 91, c 92, c 93, c 94, c 95, c 96, c 97, c 98, c 99, c 100, c 101, c 102, c 103, c 104, c 105, c 106, c 107, c 108, c 109, c 110, c 111, c 112, c 113, c 114, c 115, c 116, c 117, c 118, c 119, c 120, c 121, c 122, c 123, c 124, c 125, c 126, c 127, c 128, c 129, c 130, c 131, c 132, c 133, c 134, c 135, c 136, c 137, c 138, c 139, c 140, c 141, c 142, c 143, c 144, c 145, c 146, c 147, c 148, c 149, c 150, c 151, c 152, c 153, c 154, c 155, c 156, c 157, c 158, c 159, c 160, c 161, c 162, c 163, c 164, c 165, c 166, c 167, c 168, c 169, c 170, c 171, c 172, c 173, c 174, c 175, c 176, c 177, c 178, c 179, c 180, c 181, c 182, c 183, c 184, c 185, c 186, c 187, c 188, c 189, c 190, c 191, c 192, c 193, c 194, c 195, c 196, c 197, c 198, c 199, c 200, c 201, c 202, c 203, c 204, c 205, c 206, c 207, c 208, c 209, c 210, c 211, c 212, c 213, c 214, c 215, c 216, c 217, c 218, c 219, c 220, c 221, c 222, c 223, c 224, c 225, c 226, c 227, c 228, c 229, c 230, c 231, c 232, c 233, c 234, c 235, c 236, c 237, c 238, c 239, c 240, c 241, c 242, c 243, c 244, c 245, c 246, c 247, c 248, c 249, c 250], marks ds⟩ w := by
  have HM : Hid (csPost W R Bm sl i Q) := hm
  have HS : Hid _ := hS
  have HB : Hid _ := hB
  have y1 := hB.c1
  have y2 := hB.c2
  have y3 := hB.c3
  have y4 := hB.c4
  have y5 := hB.c5
  have m0 : w.cell? ⟨Bm, 0, none⟩ = some vm := box_cell hS.pm 0
  have mz : w.frozen? ⟨Bm, 0, none⟩ = false := box_frozen hS.pm 0
  have g1 := hS.g1
  have g2 := hS.g2
  have g3 := hS.g3
  have hle := hS.ca.le
  have hltc := hS.ca.lt
  have hltm : Bm < w.heap.size := (Array.getElem?_eq_some_iff.1 hS.pm).1
  have hltq : q < w.heap.size := World.block_lt_of_cell? w _ y1
  clear hm hS hB
  conv => arg 2; whnf
  obtain ⟨va, vcap, rfl, _⟩ := HS.out.sm.form
  go_wp2_with fail
  refine (cForget_any w (Bm + 1) _ es x.a HS.out.sm (by omega)).mono ?_
  rintro e w2 ⟨v2, rfl, hs2, hu2⟩
  obtain ⟨a2, cap2, rfl, _⟩ := hs2.form
  have HS2 : Hid _ := HS.out.same hu2
  have m2 := box_cell HS2.out.pm 0
  have f2 := box_frozen HS2.out.pm 0
  simp only [List.getElem?_toArray, List.getElem?_cons_zero] at m2
  have hS3 := HS2.out.keep hs2 (by omega) (by omega)
  have u3 := Upd.one w2 Bm 0 (.slice a2 (keepTo (fun i => (atE es i).root != x.a) es es.length).length cap2)
  have e2 := u3.cell (hu2.cell y2 (fun f => f)) (by simp only; omega)
  have hkf := keep_forget es x.a
  have HKF : Hid _ := hkf
  have HS3 : Hid _ := hS3
  have hm3 := box_cell hS3.pm 0
  simp only [List.getElem?_toArray, List.getElem?_cons_zero] at hm3
  rw [HKF.out] at HS3 e2 hs2 hm3
  rw [HKF.out]
  have HD : Hid (Dist es) := HS.out.di
  have hfl := flt_length (fun x_1 => x_1.root == x.a) es
  clear hu2 hS3 y1 y2 y3 y4 y5 m0 mz HS HS2 HB hs2 hkf u3
  generalize hflq : (flt (fun x_1 => x_1.root == x.a) es).length = fl at *
  have HFL : Hid _ := hflq
  clear hflq
  go_wp2_with fail
  clear m2 f2
  revert hm3
  revert e2
  revert HS3
  generalize w2.setCell ⟨Bm, 0, none⟩ (.slice a2 fl cap2) = w3
  intro HS3 e2 hm3
  have HSd : Hid _ := HS3.out.same ((Upd.refl (fun _ => False) w3).drew)
  have n1 : ¬ (q = bc) := by omega
  have n2 : ¬ (Bm = bc) := by omega
  have dnn : ((((es.length - fl : Nat)) : Int) == (es.length : Int) - (fl : Int)) = true := by simp; omega
  go_region_held3 (fun w' => w'.cell? ⟨q, 2, none⟩ = some (.int .i64 x.a) ∧ w'.cell? ⟨Bm, 0, none⟩ = some (.slice a2 fl cap2)) (first | exact ⟨e2, hm3⟩ | exact h4c)
    (first
      | (go_at_call 52; refine (kForget_any _ bc es x.a HSd.out.ca).mono ?_; rintro e w4 ⟨rfl, hc4, hu4⟩; rw [HFL.out]; have h4c : w4.cell? ⟨q, 2, none⟩ = some (.int .i64 x.a) ∧ w4.cell? ⟨Bm, 0, none⟩ = some (.slice a2 fl cap2) := ⟨hu4.cell (by exact e2) n1, hu4.cell (by exact hm3) n2⟩; have HS4 : Hid _ := HSd.out.call hu4 hc4 (dist_flt HD.out _); clear hc4 hu4))
  have hw8 : ((((es.length - fl : Nat)) : Int) == IntKind.i64.wrap ((es.length : Int) - (fl : Int))) = true := by
    rw [IntKind.wrap_i64]
    simp
    omega
  rw [hw8]
  go_wp2_with fail
  exact HM.out.use rfl rfl rfl rfl rfl rfl rfl HS4.out rfl

end Go.Proofs.Ytadpibcgjgcjhaa
/- undercroftlaw.CacheSays' switch: over, a copy. -/
namespace Go.Proofs.Ytadpibcgjgcjhaa
open Go.ChangeShapes Go.WideShapes Go.ChangeAt Go.RowKit Go.Shelf
set_option maxRecDepth 1000000
attribute [local go_sem ↓] Go.wp_at_zero Go.wp_at_succ

set_option maxHeartbeats 40000000 in
theorem cs_other (c : Nat → Value) (W w : World) (R Bm bc i q : Nat) (vm sl : Value) (x : Ac) (es : List En) (ds : List Nat) (k0 : (x.kind.toList == [112, 117, 116]) = false) (k1 : (x.kind.toList == [102, 105, 110, 100]) = false) (k2 : (x.kind.toList == [100, 114, 111, 112]) = false) (k3 : (x.kind.toList == [102, 111, 114, 103, 101, 116]) = false) (k4 : (x.kind.toList == [112, 111, 105, 110, 116]) = false) (k5 : (x.kind.toList == [111, 118, 101, 114]) = false) (hB : BoxAt w q x) (hS : CsS W w R Bm bc vm es es ds) (_hq : Bm < q) (_hq2 : bc < q) {Q : Exit → Act → World → Prop} (hm : csPost W R Bm sl i Q) :
    Code.wp Try.prog csSw Q ⟨#[sl, c 1, .pointer (some ⟨R, 0, none⟩), c 3, .pointer (some ⟨bc, 0, none⟩), .pointer (some ⟨Bm, 0, none⟩), .int .i64 i, .pointer (some ⟨q, 0, none⟩), .bool true, c 9, c 10, c 11, c 12, c 13, c 14, c 15, c 16, c 17, c 18, c 19, c 20, c 21, c 22, c 23, c 24, c 25, c 26, c 27, c 28, c 29, c 30, c 31, c 32, c 33, c 34, c 35, c 36, c 37, c 38, c 39, c 40, c 41, c 42, c 43, c 44, c 45, c 46, c 47, c 48, .string x.kind, c 50, c 51, c 52, c 53, c 54, c 55, c 56, c 57, c 58, c 59, c 60, c 61, c 62, c 63, c 64, c 65, c 66, c 67, c 68, c 69, c 70, c 71, c 72, c 73, c 74, c 75, c 76, c 77, c 78, c 79, c 80, c 81, c 82, c 83, c 84, c 85, c 86, c 87, c 88, c 89, c 90, c 91, c 92, c 93, c 94, c 95, c 96, c 97, c 98, c 99, c 100, c 101, c 102, c 103, c 104, c 105, c 106, c 107, c 108, c 109, c 110, c 111, c 112, c 113, c 114, c 115, c 116, c 117, c 118, c 119, c 120, c 121, c 122, c 123, c 124, c 125, c 126, c 127, c 128, c 129, c 130, c 131, c 132, c 133, c 134, c 135, c 136, c 137, c 138, c 139, c 140, c 141, c 142, c 143, c 144, c 145, c 146, c 147, c 148, c 149, c 150, c 151, c 152, c 153, c 154, c 155, c 156, c 157, c 158, c 159, c 160, c 161, c 162, c 163, c 164, c 165, c 166, c 167, c 168, c 169, c 170, c 171, c 172, c 173, c 174, c 175, c 176, c 177, c 178, c 179, c 180, c 181, c 182, c 183, c 184, c 185, c 186, c 187, c 188, c 189, c 190, c 191, c 192, c 193, c 194, c 195, c 196, c 197, c 198, c 199, c 200, c 201, c 202, c 203, c 204, c 205, c 206, c 207, c 208, c 209, c 210, c 211, c 212, c 213, c 214, c 215, c 216, c 217, c 218, c 219, c 220, c 221, c 222, c 223, c 224, c 225, c 226, c 227, c 228, c 229, c 230, c 231, c 232, c 233, c 234, c 235, c 236, c 237, c 238, c 239, c 240, c 241, c 242, c 243, c 244, c 245, c 246, c 247, c 248, c 249, c 250], marks ds⟩ w := by
  have HM : Hid (csPost W R Bm sl i Q) := hm
  have HS : Hid _ := hS
  have HB : Hid _ := hB
  have y1 := hB.c1
  have y2 := hB.c2
  have y3 := hB.c3
  have y4 := hB.c4
  have y5 := hB.c5
  have m0 : w.cell? ⟨Bm, 0, none⟩ = some vm := box_cell hS.pm 0
  have mz : w.frozen? ⟨Bm, 0, none⟩ = false := box_frozen hS.pm 0
  have g1 := hS.g1
  have g2 := hS.g2
  have g3 := hS.g3
  have hle := hS.ca.le
  have hltc := hS.ca.lt
  have hltm : Bm < w.heap.size := (Array.getElem?_eq_some_iff.1 hS.pm).1
  have hltq : q < w.heap.size := World.block_lt_of_cell? w _ y1
  clear hm hS hB
  conv => arg 2; whnf
  go_wp2_with fail
  refine (kCopy_any w bc es HS.out.ca).mono ?_
  rintro e w1 ⟨b2, rfl, hb2, hc2, hu1⟩
  have HS1 : Hid _ := HS.out.same hu1
  have HC2 : Hid (CaL w1 b2 es) := hc2
  have z2 := hu1.cell y2 (fun f => f)
  have HNB : Hid (∀ g, vm.ownBlock = some g → g ≠ b2) := fun g hg => by have := (HS.out.sm.own_lt hg).2; omega
  have HD : Hid (Dist es) := HS.out.di
  have nb : b2 ≠ bc := by omega
  have nq : ¬ (q = bc) := by omega
  clear hc2 hu1 y1 y2 y3 y4 y5 m0 mz HS HB
  go_wp2_with fail
  refine (kForget_any w1 bc es x.a HS1.out.ca).mono ?_
  rintro e w2 ⟨rfl, hc3, hu2⟩
  have HS2 : Hid _ := HS1.out.call hu2 hc3 (dist_flt HD.out _)
  have HC3 : Hid (CaL w2 b2 es) := HC2.out.upd hu2 nb
  have hlt2 := HC3.out.lt
  generalize es.length - (flt (fun x_1 => x_1.root == x.a) es).length = dn
  clear hc3 hu2 HS1 HC2 z2
  go_wp2_with fail
  refine (kPut_any w2 bc _ ⟨55, 0, 0, false, ⟨false, false, 0⟩⟩ HS2.out.ca).mono ?_
  rintro e w3 ⟨rfl, hc4, hu3⟩
  have HS3 : Hid _ := (HS2.out.call hu3 hc4 (dist_putK HS2.out.di _)).other (HC3.out.upd hu3 nb) HD.out (by omega) (by omega) HNB.out
  clear hc4 hu3 HS2 HC3
  go_wp2_with fail
  exact HM.out.use rfl rfl rfl rfl rfl rfl rfl HS3.out rfl

set_option maxHeartbeats 40000000 in
theorem cs_over (c : Nat → Value) (W w : World) (R Bm bc i q : Nat) (vm sl : Value) (x : Ac) (es : List En) (ds : List Nat) (k0 : (x.kind.toList == [112, 117, 116]) = false) (k1 : (x.kind.toList == [102, 105, 110, 100]) = false) (k2 : (x.kind.toList == [100, 114, 111, 112]) = false) (k3 : (x.kind.toList == [102, 111, 114, 103, 101, 116]) = false) (k4 : (x.kind.toList == [112, 111, 105, 110, 116]) = false) (k5 : (x.kind.toList == [111, 118, 101, 114]) = true) (hB : BoxAt w q x) (hS : CsS W w R Bm bc vm es es ds) (_hq : Bm < q) (_hq2 : bc < q) {Q : Exit → Act → World → Prop} (hm : csPost W R Bm sl i Q) :
    Code.wp Try.prog csSw Q ⟨#[sl, c 1, .pointer (some ⟨R, 0, none⟩), c 3, .pointer (some ⟨bc, 0, none⟩), .pointer (some ⟨Bm, 0, none⟩), .int .i64 i, .pointer (some ⟨q, 0, none⟩), .bool true, c 9, c 10, c 11, c 12, c 13, c 14, c 15, c 16, c 17, c 18, c 19, c 20, c 21, c 22, c 23, c 24, c 25, c 26, c 27, c 28, c 29, c 30, c 31, c 32, c 33, c 34, c 35, c 36, c 37, c 38, c 39, c 40, c 41, c 42, c 43, c 44, c 45, c 46, c 47, c 48, .string x.kind, c 50, c 51, c 52, c 53, c 54, c 55, c 56, c 57, c 58, c 59, c 60, c 61, c 62, c 63, c 64, c 65, c 66, c 67, c 68, c 69, c 70, c 71, c 72, c 73, c 74, c 75, c 76, c 77, c 78, c 79, c 80, c 81, c 82, c 83, c 84, c 85, c 86, c 87, c 88, c 89, c 90, c 91, c 92, c 93, c 94, c 95, c 96, c 97, c 98, c 99, c 100, c 101, c 102, c 103, c 104, c 105, c 106, c 107, c 108, c 109, c 110, c 111, c 112, c 113, c 114, c 115, c 116, c 117, c 118, c 119, c 120, c 121, c 122, c 123, c 124, c 125, c 126, c 127, c 128, c 129, c 130, c 131, c 132, c 133, c 134, c 135, c 136, c 137, c 138, c 139, c 140, c 141, c 142, c 143, c 144, c 145, c 146, c 147, c 148, c 149, c 150, c 151, c 152, c 153, c 154, c 155, c 156, c 157, c 158, c 159, c 160, c 161, c 162, c 163, c 164, c 165, c 166, c 167, c 168, c 169, c 170, c 171, c 172, c 173, c 174, c 175, c 176, c 177, c 178, c 179, c 180, c 181, c 182, c 183, c 184, c 185, c 186, c 187, c 188, c 189, c 190, c 191, c 192, c 193, c 194, c 195, c 196, c 197, c 198, c 199, c 200, c 201, c 202, c 203, c 204, c 205, c 206, c 207, c 208, c 209, c 210, c 211, c 212, c 213, c 214, c 215, c 216, c 217, c 218, c 219, c 220, c 221, c 222, c 223, c 224, c 225, c 226, c 227, c 228, c 229, c 230, c 231, c 232, c 233, c 234, c 235, c 236, c 237, c 238, c 239, c 240, c 241, c 242, c 243, c 244, c 245, c 246, c 247, c 248, c 249, c 250], marks ds⟩ w := by
  have HM : Hid (csPost W R Bm sl i Q) := hm
  have HS : Hid _ := hS
  have HB : Hid _ := hB
  have y1 := hB.c1
  have y2 := hB.c2
  have y3 := hB.c3
  have y4 := hB.c4
  have y5 := hB.c5
  have m0 : w.cell? ⟨Bm, 0, none⟩ = some vm := box_cell hS.pm 0
  have mz : w.frozen? ⟨Bm, 0, none⟩ = false := box_frozen hS.pm 0
  have g1 := hS.g1
  have g2 := hS.g2
  have g3 := hS.g3
  have hle := hS.ca.le
  have hltc := hS.ca.lt
  have hltm : Bm < w.heap.size := (Array.getElem?_eq_some_iff.1 hS.pm).1
  have hltq : q < w.heap.size := World.block_lt_of_cell? w _ y1
  clear hm hS hB
  conv => arg 2; whnf
  obtain ⟨va, vcap, rfl, _⟩ := HS.out.sm.form
  go_wp2_with fail
  refine (kAll_any w bc es HS.out.ca).mono ?_
  rintro e w1 ⟨B, b', rfl, hB1, hb1, hB2, hC2, hu1⟩
  have HS1 : Hid _ := HS.out.same hu1
  have HB2 : Hid _ := hB2
  have HC2 : Hid (CaL w1 b' es) := hC2
  have HY2 : Hid _ := hu1.cell y2 (fun f => f)
  have HD : Hid (Dist es) := HS.out.di
  have HNG : Hid (∀ g, (Value.slice va es.length vcap).ownBlock = some g → g < w.heap.size) := fun g hg => (HS.out.sm.own_lt hg).2
  have hltB : B < w1.heap.size := World.block_lt_of_cell? w1 _ hB2
  have hltb : b' < w1.heap.size := hC2.lt
  have hsz1 := hu1.size
  clear hB2 hC2 hu1 y1 y2 y3 y4 y5 m0 mz HS HB
  go_wp2_with fail
  refine (kPut_any w1 bc es ⟨77, 0, 0, false, ⟨false, false, 0⟩⟩ HS1.out.ca).mono ?_
  rintro e w2 ⟨rfl, hc2, hu2⟩
  have HS2 : Hid _ := HS1.out.call hu2 hc2 (dist_putK HD.out _)
  have HU2 : Hid _ := hu2
  have hsz2 := hu2.size
  clear hc2 hu2 HS1
  go_wp2_with fail
  refine (kForget_any w2 bc _ 77 HS2.out.ca).mono ?_
  rintro e w3 ⟨rfl, hc3, hu3⟩
  have hu23 := HU2.out.trans hu3 (fun _ _ e => e)
  have hu4 := (Upd.refl (fun _ => False) w3).alloc (.cells #[.int .i64 0] 3)
  have HS4 : Hid _ := (HS2.out.call hu3 hc3 (dist_flt HS2.out.di _)).same hu4
  have HB4 : Hid _ := hu4.cell (hu23.cell HB2.out (by simp only; omega)) (fun f => f)
  have HC4 : Hid (CaL (w3.alloc (.cells #[.int .i64 0] 3)) b' es) := (HC2.out.upd hu23 (by omega)).upd hu4 (fun f => f)
  have HY4 : Hid _ := hu4.cell (hu23.cell HY2.out (by simp only; omega)) (fun f => f)
  have HK4 : Hid _ := box_new w3 #[.int .i64 0] 3
  have hsz3 := hu3.size
  obtain ⟨rv, hr0⟩ := HS4.out.r0
  have HR0 : Hid _ := hr0
  have HWZ : Hid (W.heap.size ≤ w3.heap.size) := by show _ ≤ _; have := HS4.out.g0; omega
  have hput := put_same HD.out hle ⟨77, 0, 0, false, ⟨false, false, 0⟩⟩
  have hkf := keep_forget (putC es ⟨77, 0, 0, false, ⟨false, false, 0⟩⟩) 77
  have hplen := putK_le es ⟨77, 0, 0, false, ⟨false, false, 0⟩⟩ hle
  have HPUT : Hid _ := hput
  have HKF : Hid _ := hkf
  generalize (putK es ⟨77, 0, 0, false, ⟨false, false, 0⟩⟩).length - (flt (fun x_1 => x_1.root == 77) (putK es ⟨77, 0, 0, false, ⟨false, false, 0⟩⟩)).length = dn
  clear hc3 hu3 hu23 hu4 HS2 HU2 HB2 HC2 HY2 hr0 hput hkf
  have HPL : Hid ((putC es ⟨77, 0, 0, false, ⟨false, false, 0⟩⟩).length ≤ 4) := by show _ ≤ _; rw [HPUT.out]; exact hplen
  go_wp2_with fail
  refine cs_rf1L _ rfl ds _ B b' q R Bm w3.heap.size (Bm + 1) (.slice va es.length vcap) es x rv rfl rfl rfl rfl rfl HB4.out HC4.out HY4.out HR0.out HS4.out.rz HS4.out.pm HS4.out.sm HK4.out (by omega) (by omega) (by omega) (by omega) (by omega) (fun g hg => by have := HNG.out g hg; omega) ?_ ?_
  · intro D w5 hD hu5 hk5 hd5
    have HS5 : Hid _ := HS4.out.mark hu5 (box_cell HK4.out 0) (by omega) (by omega) (by omega) (fun g hg => by have := HNG.out g hg; omega) HWZ.out hD hd5
    have kc : w5.cell? ⟨w3.heap.size, 0, none⟩ = some (.int .i64 (es.length : Nat)) := box_cell hk5 0
    have z5 := hu5.cell HY4.out (by simp only; omega)
    have dk : (((es.length : Nat) : Int) == ((es.length : Nat) : Int)) = true := by simp
    have m5 := box_cell HS5.out.pm 0
    simp only [List.getElem?_toArray, List.getElem?_cons_zero] at m5
    clear hu5 hk5 hd5 hD HS4 HR0 HB4 HC4 HK4 HY4 HWZ HNG
    go_wp2_with fail
    refine (cPut_any w5 (Bm + 1) _ es ⟨77, 0, 0, false, ⟨false, false, 0⟩⟩ HS5.out.sm (by omega)).mono ?_
    rintro e w6 ⟨v6, rfl, hs6, hu6⟩
    obtain ⟨a6, cap6, rfl, _⟩ := hs6.form
    have HS6 : Hid _ := HS5.out.same hu6
    have HSL : Hid (SlC w6 w5.heap.size _ (putC es ⟨77, 0, 0, false, ⟨false, false, 0⟩⟩)) := hs6
    have hsz5 : Bm < w5.heap.size ∧ bc < w5.heap.size := ⟨(Array.getElem?_eq_some_iff.1 HS5.out.pm).1, HS5.out.ca.lt⟩
    have hsz6 := hu6.size
    clear hs6 hu6 HS5 m5 kc z5
    go_wp2_with fail
    refine (cForget_any w6 w5.heap.size _ (putC es ⟨77, 0, 0, false, ⟨false, false, 0⟩⟩) 77 HSL.out (by have := HPL.out; omega)).mono ?_
    rintro e w7 ⟨v7, rfl, hs7, hu7⟩
    obtain ⟨a7, cap7, rfl, _⟩ := hs7.form
    have HS7 : Hid _ := HS6.out.same hu7
    have m7 := box_cell HS7.out.pm 0
    have f7 := box_frozen HS7.out.pm 0
    simp only [List.getElem?_toArray, List.getElem?_cons_zero] at m7
    have HS8 : Hid _ := HS7.out.keep hs7 (by omega) (by omega)
    have HEQ : Hid (flt (fun x_1 => x_1.root == 77) (putK es ⟨77, 0, 0, false, ⟨false, false, 0⟩⟩) = keepTo (fun i => (atE (putC es ⟨77, 0, 0, false, ⟨false, false, 0⟩⟩) i).root != 77) (putC es ⟨77, 0, 0, false, ⟨false, false, 0⟩⟩) (putC es ⟨77, 0, 0, false, ⟨false, false, 0⟩⟩).length) := by
      show _ = _
      rw [HKF.out, HPUT.out]
    clear hs7 hu7 HS6 HS7 HSL HKF HPUT HPL
    generalize (keepTo (fun i => (atE (putC es ⟨77, 0, 0, false, ⟨false, false, 0⟩⟩) i).root != 77) (putC es ⟨77, 0, 0, false, ⟨false, false, 0⟩⟩) (putC es ⟨77, 0, 0, false, ⟨false, false, 0⟩⟩).length).length = k7 at *
    go_wp2_with fail
    exact HM.out.use rfl rfl rfl rfl rfl rfl rfl HS8.out HEQ.out
  · intro D kk w5 hD hkk hka hu5 hk5 hd5
    have HS5 : Hid _ := HS4.out.mark hu5 (box_cell HK4.out 0) (by omega) (by omega) (by omega) (fun g hg => by have := HNG.out g hg; omega) HWZ.out hD hd5
    have kc : w5.cell? ⟨w3.heap.size, 0, none⟩ = some (.int .i64 (kk : Nat)) := box_cell hk5 0
    have z5 := hu5.cell HY4.out (by simp only; omega)
    by_cases hkl : kk = es.length
    · subst hkl
      have dk : (((es.length : Nat) : Int) == ((es.length : Nat) : Int)) = true := by simp
      have m5 := box_cell HS5.out.pm 0
      simp only [List.getElem?_toArray, List.getElem?_cons_zero] at m5
      clear hu5 hk5 hd5 hD HS4 HR0 HB4 HC4 HK4 HY4 HWZ HNG
      go_wp2_with fail
      refine (cPut_any w5 (Bm + 1) _ es ⟨77, 0, 0, false, ⟨false, false, 0⟩⟩ HS5.out.sm (by omega)).mono ?_
      rintro e w6 ⟨v6, rfl, hs6, hu6⟩
      obtain ⟨a6, cap6, rfl, _⟩ := hs6.form
      have HS6 : Hid _ := HS5.out.same hu6
      have HSL : Hid (SlC w6 w5.heap.size _ (putC es ⟨77, 0, 0, false, ⟨false, false, 0⟩⟩)) := hs6
      have hsz5 : Bm < w5.heap.size ∧ bc < w5.heap.size := ⟨(Array.getElem?_eq_some_iff.1 HS5.out.pm).1, HS5.out.ca.lt⟩
      have hsz6 := hu6.size
      clear hs6 hu6 HS5 m5 kc z5
      go_wp2_with fail
      refine (cForget_any w6 w5.heap.size _ (putC es ⟨77, 0, 0, false, ⟨false, false, 0⟩⟩) 77 HSL.out (by have := HPL.out; omega)).mono ?_
      rintro e w7 ⟨v7, rfl, hs7, hu7⟩
      obtain ⟨a7, cap7, rfl, _⟩ := hs7.form
      have HS7 : Hid _ := HS6.out.same hu7
      have m7 := box_cell HS7.out.pm 0
      have f7 := box_frozen HS7.out.pm 0
      simp only [List.getElem?_toArray, List.getElem?_cons_zero] at m7
      have HS8 : Hid _ := HS7.out.keep hs7 (by omega) (by omega)
      have HEQ : Hid (flt (fun x_1 => x_1.root == 77) (putK es ⟨77, 0, 0, false, ⟨false, false, 0⟩⟩) = keepTo (fun i => (atE (putC es ⟨77, 0, 0, false, ⟨false, false, 0⟩⟩) i).root != 77) (putC es ⟨77, 0, 0, false, ⟨false, false, 0⟩⟩) (putC es ⟨77, 0, 0, false, ⟨false, false, 0⟩⟩).length) := by
        show _ = _
        rw [HKF.out, HPUT.out]
      clear hs7 hu7 HS6 HS7 HSL HKF HPUT HPL
      generalize (keepTo (fun i => (atE (putC es ⟨77, 0, 0, false, ⟨false, false, 0⟩⟩) i).root != 77) (putC es ⟨77, 0, 0, false, ⟨false, false, 0⟩⟩) (putC es ⟨77, 0, 0, false, ⟨false, false, 0⟩⟩).length).length = k7 at *
      go_wp2_with fail
      exact HM.out.use rfl rfl rfl rfl rfl rfl rfl HS8.out HEQ.out
    · have dk : (((kk : Nat) : Int) == ((es.length : Nat) : Int)) = false := by simp; omega
      have dk2 : (((kk : Nat) : Int) == x.a) = true := by rw [hka]; simp
      have m5 := box_cell HS5.out.pm 0
      simp only [List.getElem?_toArray, List.getElem?_cons_zero] at m5
      clear hu5 hk5 hd5 hD HS4 HR0 HB4 HC4 HK4 HY4 HWZ HNG
      go_wp2_with fail
      refine (cPut_any w5 (Bm + 1) _ es ⟨77, 0, 0, false, ⟨false, false, 0⟩⟩ HS5.out.sm (by omega)).mono ?_
      rintro e w6 ⟨v6, rfl, hs6, hu6⟩
      obtain ⟨a6, cap6, rfl, _⟩ := hs6.form
      have HS6 : Hid _ := HS5.out.same hu6
      have HSL : Hid (SlC w6 w5.heap.size _ (putC es ⟨77, 0, 0, false, ⟨false, false, 0⟩⟩)) := hs6
      have hsz5 : Bm < w5.heap.size ∧ bc < w5.heap.size := ⟨(Array.getElem?_eq_some_iff.1 HS5.out.pm).1, HS5.out.ca.lt⟩
      have hsz6 := hu6.size
      clear hs6 hu6 HS5 m5 kc z5
      go_wp2_with fail
      refine (cForget_any w6 w5.heap.size _ (putC es ⟨77, 0, 0, false, ⟨false, false, 0⟩⟩) 77 HSL.out (by have := HPL.out; omega)).mono ?_
      rintro e w7 ⟨v7, rfl, hs7, hu7⟩
      obtain ⟨a7, cap7, rfl, _⟩ := hs7.form
      have HS7 : Hid _ := HS6.out.same hu7
      have m7 := box_cell HS7.out.pm 0
      have f7 := box_frozen HS7.out.pm 0
      simp only [List.getElem?_toArray, List.getElem?_cons_zero] at m7
      have HS8 : Hid _ := HS7.out.keep hs7 (by omega) (by omega)
      have HEQ : Hid (flt (fun x_1 => x_1.root == 77) (putK es ⟨77, 0, 0, false, ⟨false, false, 0⟩⟩) = keepTo (fun i => (atE (putC es ⟨77, 0, 0, false, ⟨false, false, 0⟩⟩) i).root != 77) (putC es ⟨77, 0, 0, false, ⟨false, false, 0⟩⟩) (putC es ⟨77, 0, 0, false, ⟨false, false, 0⟩⟩).length) := by
        show _ = _
        rw [HKF.out, HPUT.out]
      clear hs7 hu7 HS6 HS7 HSL HKF HPUT HPL
      generalize (keepTo (fun i => (atE (putC es ⟨77, 0, 0, false, ⟨false, false, 0⟩⟩) i).root != 77) (putC es ⟨77, 0, 0, false, ⟨false, false, 0⟩⟩) (putC es ⟨77, 0, 0, false, ⟨false, false, 0⟩⟩).length).length = k7 at *
      go_wp2_with fail
      exact HM.out.use rfl rfl rfl rfl rfl rfl rfl HS8.out HEQ.out
end Go.Proofs.Ytadpibcgjgcjhaa
/- undercroftlaw.CacheSays: a round. -/
namespace Go.Proofs.Ytadpibcgjgcjhaa
open Go.ChangeShapes Go.WideShapes Go.ChangeAt Go.RowKit Go.Shelf
set_option maxRecDepth 1000000
attribute [local go_sem ↓] Go.wp_at_zero Go.wp_at_succ

theorem cs_sw (l : List Value) (hl : l.length = 251) (W w : World) (R Bm bc i q : Nat) (vm sl : Value) (x : Ac) (es : List En) (ds : List Nat) (h0 : l.getD 0 undef = sl) (h2 : l.getD 2 undef = .pointer (some ⟨R, 0, none⟩)) (h4 : l.getD 4 undef = .pointer (some ⟨bc, 0, none⟩)) (h5 : l.getD 5 undef = .pointer (some ⟨Bm, 0, none⟩)) (h6 : l.getD 6 undef = .int .i64 i) (h7 : l.getD 7 undef = .pointer (some ⟨q, 0, none⟩)) (h8 : l.getD 8 undef = .bool true) (h49 : l.getD 49 undef = .string x.kind)
    (hB : BoxAt w q x) (hS : CsS W w R Bm bc vm es es ds) (hq : Bm < q) (hq2 : bc < q) {Q : Exit → Act → World → Prop} (hm : csPost W R Bm sl i Q) : Code.wp Try.prog csSw Q ⟨l.toArray, marks ds⟩ w := by
  rw [frame_fn l, hl, show ((List.range 251).map (fun i => l.getD i undef)).toArray = #[l.getD 0 undef, l.getD 1 undef, l.getD 2 undef, l.getD 3 undef, l.getD 4 undef, l.getD 5 undef, l.getD 6 undef, l.getD 7 undef, l.getD 8 undef, l.getD 9 undef, l.getD 10 undef, l.getD 11 undef, l.getD 12 undef, l.getD 13 undef, l.getD 14 undef, l.getD 15 undef, l.getD 16 undef, l.getD 17 undef, l.getD 18 undef, l.getD 19 undef, l.getD 20 undef, l.getD 21 undef, l.getD 22 undef, l.getD 23 undef, l.getD 24 undef, l.getD 25 undef, l.getD 26 undef, l.getD 27 undef, l.getD 28 undef, l.getD 29 undef, l.getD 30 undef, l.getD 31 undef, l.getD 32 undef, l.getD 33 undef, l.getD 34 undef, l.getD 35 undef, l.getD 36 undef, l.getD 37 undef, l.getD 38 undef, l.getD 39 undef, l.getD 40 undef, l.getD 41 undef, l.getD 42 undef, l.getD 43 undef, l.getD 44 undef, l.getD 45 undef, l.getD 46 undef, l.getD 47 undef, l.getD 48 undef, l.getD 49 undef, l.getD 50 undef, l.getD 51 undef, l.getD 52 undef, l.getD 53 undef, l.getD 54 undef, l.getD 55 undef, l.getD 56 undef, l.getD 57 undef, l.getD 58 undef, l.getD 59 undef, l.getD 60 undef, l.getD 61 undef, l.getD 62 undef, l.getD 63 undef, l.getD 64 undef, l.getD 65 undef, l.getD 66 undef, l.getD 67 undef, l.getD 68 undef, l.getD 69 undef, l.getD 70 undef, l.getD 71 undef, l.getD 72 undef, l.getD 73 undef, l.getD 74 undef, l.getD 75 undef, l.getD 76 undef, l.getD 77 undef, l.getD 78 undef, l.getD 79 undef, l.getD 80 undef, l.getD 81 undef, l.getD 82 undef, l.getD 83 undef, l.getD 84 undef, l.getD 85 undef, l.getD 86 undef, l.getD 87 undef, l.getD 88 undef, l.getD 89 undef, l.getD 90 undef, l.getD 91 undef, l.getD 92 undef, l.getD 93 undef, l.getD 94 undef, l.getD 95 undef, l.getD 96 undef, l.getD 97 undef, l.getD 98 undef, l.getD 99 undef, l.getD 100 undef, l.getD 101 undef, l.getD 102 undef, l.getD 103 undef, l.getD 104 undef, l.getD 105 undef, l.getD 106 undef, l.getD 107 undef, l.getD 108 undef, l.getD 109 undef, l.getD 110 undef, l.getD 111 undef, l.getD 112 undef, l.getD 113 undef, l.getD 114 undef, l.getD 115 undef, l.getD 116 undef, l.getD 117 undef, l.getD 118 undef, l.getD 119 undef, l.getD 120 undef, l.getD 121 undef, l.getD 122 undef, l.getD 123 undef, l.getD 124 undef, l.getD 125 undef, l.getD 126 undef, l.getD 127 undef, l.getD 128 undef, l.getD 129 undef, l.getD 130 undef, l.getD 131 undef, l.getD 132 undef, l.getD 133 undef, l.getD 134 undef, l.getD 135 undef, l.getD 136 undef, l.getD 137 undef, l.getD 138 undef, l.getD 139 undef, l.getD 140 undef, l.getD 141 undef, l.getD 142 undef, l.getD 143 undef, l.getD 144 undef, l.getD 145 undef, l.getD 146 undef, l.getD 147 undef, l.getD 148 undef, l.getD 149 undef, l.getD 150 undef, l.getD 151 undef, l.getD 152 undef, l.getD 153 undef, l.getD 154 undef, l.getD 155 undef, l.getD 156 undef, l.getD 157 undef, l.getD 158 undef, l.getD 159 undef, l.getD 160 undef, l.getD 161 undef, l.getD 162 undef, l.getD 163 undef, l.getD 164 undef, l.getD 165 undef, l.getD 166 undef, l.getD 167 undef, l.getD 168 undef, l.getD 169 undef, l.getD 170 undef, l.getD 171 undef, l.getD 172 undef, l.getD 173 undef, l.getD 174 undef, l.getD 175 undef, l.getD 176 undef, l.getD 177 undef, l.getD 178 undef, l.getD 179 undef, l.getD 180 undef, l.getD 181 undef, l.getD 182 undef, l.getD 183 undef, l.getD 184 undef, l.getD 185 undef, l.getD 186 undef, l.getD 187 undef, l.getD 188 undef, l.getD 189 undef, l.getD 190 undef, l.getD 191 undef, l.getD 192 undef, l.getD 193 undef, l.getD 194 undef, l.getD 195 undef, l.getD 196 undef, l.getD 197 undef, l.getD 198 undef, l.getD 199 undef, l.getD 200 undef, l.getD 201 undef, l.getD 202 undef, l.getD 203 undef, l.getD 204 undef, l.getD 205 undef, l.getD 206 undef, l.getD 207 undef, l.getD 208 undef, l.getD 209 undef, l.getD 210 undef, l.getD 211 undef, l.getD 212 undef, l.getD 213 undef, l.getD 214 undef, l.getD 215 undef, l.getD 216 undef, l.getD 217 undef, l.getD 218 undef, l.getD 219 undef, l.getD 220 undef, l.getD 221 undef, l.getD 222 undef, l.getD 223 undef, l.getD 224 undef, l.getD 225 undef, l.getD 226 undef, l.getD 227 undef, l.getD 228 undef, l.getD 229 undef, l.getD 230 undef, l.getD 231 undef, l.getD 232 undef, l.getD 233 undef, l.getD 234 undef, l.getD 235 undef, l.getD 236 undef, l.getD 237 undef, l.getD 238 undef, l.getD 239 undef, l.getD 240 undef, l.getD 241 undef, l.getD 242 undef, l.getD 243 undef, l.getD 244 undef, l.getD 245 undef, l.getD 246 undef, l.getD 247 undef, l.getD 248 undef, l.getD 249 undef, l.getD 250 undef] from rfl]
  rw [h0, h2, h4, h5, h6, h7, h8, h49]
  cases k0 : (x.kind.toList == [112, 117, 116]) with
  | true => exact cs_put (fun i => l.getD i undef) W w R Bm bc i q vm sl x es ds k0 hB hS hq hq2 hm
  | false =>
    cases k1 : (x.kind.toList == [102, 105, 110, 100]) with
    | true => exact cs_find (fun i => l.getD i undef) W w R Bm bc i q vm sl x es ds k0 k1 hB hS hq hq2 hm
    | false =>
      cases k2 : (x.kind.toList == [100, 114, 111, 112]) with
      | true => exact cs_drop (fun i => l.getD i undef) W w R Bm bc i q vm sl x es ds k0 k1 k2 hB hS hq hq2 hm
      | false =>
        cases k3 : (x.kind.toList == [102, 111, 114, 103, 101, 116]) with
        | true => exact cs_forget (fun i => l.getD i undef) W w R Bm bc i q vm sl x es ds k0 k1 k2 k3 hB hS hq hq2 hm
        | false =>
          cases k4 : (x.kind.toList == [112, 111, 105, 110, 116]) with
          | true => exact cs_point (fun i => l.getD i undef) W w R Bm bc i q vm sl x es ds k0 k1 k2 k3 k4 hB hS hq hq2 hm
          | false =>
            cases k5 : (x.kind.toList == [111, 118, 101, 114]) with
            | true => exact cs_over (fun i => l.getD i undef) W w R Bm bc i q vm sl x es ds k0 k1 k2 k3 k4 k5 hB hS hq hq2 hm
            | false =>
              exact cs_other (fun i => l.getD i undef) W w R Bm bc i q vm sl x es ds k0 k1 k2 k3 k4 k5 hB hS hq hq2 hm
noncomputable def csLoop : Code := (Try.f7.body.bind loopIn).getD .skip
set_option maxHeartbeats 40000000 in
theorem cs_round (W wr : World) (R Bm bc len cap i k : Nat) (vm : Value) (a : Option Addr) (acts : Nat → Ac) (hl : len ≤ 80) (hacts : ActsAt W a len acts) (c : Nat → Value) (es : List En) (ds : List Nat) (_hik : i + k = len) (h0 : c 0 = .slice a len cap) (h2 : c 2 = .pointer (some ⟨R, 0, none⟩)) (h4 : c 4 = .pointer (some ⟨bc, 0, none⟩)) (h5 : c 5 = .pointer (some ⟨Bm, 0, none⟩)) (h6 : c 6 = .int .i64 i)
    (hS : CsS W wr R Bm bc vm es es ds) {Q : Exit → Act → World → Prop} (hlt : i < len) {K : Act → World → Prop} (hK : ∀ (l : List Value) (es' : List En) (ds' : List Nat) (bc' : Nat) (vm' : Value) (w' : World), l.length = 251 → l.getD 0 undef = .slice a len cap → l.getD 2 undef = .pointer (some ⟨R, 0, none⟩) → l.getD 4 undef = .pointer (some ⟨bc', 0, none⟩) → l.getD 5 undef = .pointer (some ⟨Bm, 0, none⟩) → l.getD 6 undef = .int .i64 ((i + 1 : Nat) : Int) → CsS W w' R Bm bc' vm' es' es' ds' → K ⟨l.toArray, marks ds'⟩ w') :
    Code.wp Try.prog csLoop (Exit.then K Q) ⟨((List.range 251).map c).toArray, marks ds⟩ wr := by
  have HK : Hid _ := hK
  obtain ⟨ab, ao, rfl, hact⟩ := hacts i hlt
  have hact := hact.upd hS.up (fun f => f)
  generalize acts i = x at hact
  have c0 := hact.c0
  have c1 := hact.c1
  have c2 := hact.c2
  have c3 := hact.c3
  have c4 := hact.c4
  have c5 := hact.c5
  have i0 : (0 : Int) ≤ (i : Int) := by omega
  have i1 : (i : Int) < len := by omega
  have hB := BoxAt.new wr x
  have hu := (Upd.refl (fun _ => False) wr).alloc (.cells #[.string x.kind, .int .i64 x.n, .int .i64 x.a, .int .i64 x.b, .int .u8 x.v, .bool x.on] 38)
  have HB : Hid _ := hB
  have HS1 : Hid _ := hS.same hu
  have b0 := hB.c0
  have HQ : Hid (Bm < wr.heap.size ∧ bc < wr.heap.size) := ⟨(Array.getElem?_eq_some_iff.1 hS.pm).1, hS.ca.lt⟩
  clear hK hS hact hB hu hacts
  rw [show ((List.range 251).map c).toArray = #[c 0, c 1, c 2, c 3, c 4, c 5, c 6, c 7, c 8, c 9, c 10, c 11, c 12, c 13, c 14, c 15, c 16, c 17, c 18, c 19, c 20, c 21, c 22, c 23, c 24, c 25, c 26, c 27, c 28, c 29, c 30, c 31, c 32, c 33, c 34, c 35, c 36, c 37, c 38, c 39, c 40, c 41, c 42, c 43, c 44, c 45, c 46, c 47, c 48, c 49, c 50, c 51, c 52, c 53, c 54, c 55, c 56, c 57, c 58, c 59, c 60, c 61, c 62, c 63, c 64, c 65, c 66, c 67, c 68, c 69, c 70, c 71, c 72, c 73, c 74, c 75, c 76, c 77, c 78, c 79, c 80, c 81, c 82, c 83, c 84, c 85, c 86, c 87, c 88, c 89, c 90, c 91, c 92, c 93, c 94, c 95, c 96, c 97, c 98, c 99, c 100, c 101, c 102, c 103, c 104, c 105, c 106, c 107, c 108, c 109, c 110, c 111, c 112, c 113, c 114, c 115, c 116, c 117, c 118, c 119, c 120, c 121, c 122, c 123, c 124, c 125, c 126, c 127, c 128, c 129, c 130, c 131, c 132, c 133, c 134, c 135, c 136, c 137, c 138, c 139, c 140, c 141, c 142, c 143, c 144, c 145, c 146, c 147, c 148, c 149, c 150, c 151, c 152, c 153, c 154, c 155, c 156, c 157, c 158, c 159, c 160, c 161, c 162, c 163, c 164, c 165, c 166, c 167, c 168, c 169, c 170, c 171, c 172, c 173, c 174, c 175, c 176, c 177, c 178, c 179, c 180, c 181, c 182, c 183, c 184, c 185, c 186, c 187, c 188, c 189, c 190, c 191, c 192, c 193, c 194, c 195, c 196, c 197, c 198, c 199, c 200, c 201, c 202, c 203, c 204, c 205, c 206, c 207, c 208, c 209, c 210, c 211, c 212, c 213, c 214, c 215, c 216, c 217, c 218, c 219, c 220, c 221, c 222, c 223, c 224, c 225, c 226, c 227, c 228, c 229, c 230, c 231, c 232, c 233, c 234, c 235, c 236, c 237, c 238, c 239, c 240, c 241, c 242, c 243, c 244, c 245, c 246, c 247, c 248, c 249, c 250] from rfl, h0, h2, h4, h5, h6]
  conv => arg 2; whnf
  go_upto_block 2 with fail
  refine cs_sw _ rfl W _ R Bm bc i wr.heap.size vm (.slice (some ⟨ab, ao, none⟩) len cap) x es ds rfl rfl rfl rfl rfl rfl rfl rfl HB.out HS1.out HQ.out.1 HQ.out.2 ?_
  intro c' es' ds' bc' vm' w' h0' h2' h4' h5' h6' h8' hS'
  have HS' : Hid _ := hS'
  clear HB HS1 c0 c1 c2 c3 c4 c5 b0 HQ hS'
  rw [show ((List.range 251).map c').toArray = #[c' 0, c' 1, c' 2, c' 3, c' 4, c' 5, c' 6, c' 7, c' 8, c' 9, c' 10, c' 11, c' 12, c' 13, c' 14, c' 15, c' 16, c' 17, c' 18, c' 19, c' 20, c' 21, c' 22, c' 23, c' 24, c' 25, c' 26, c' 27, c' 28, c' 29, c' 30, c' 31, c' 32, c' 33, c' 34, c' 35, c' 36, c' 37, c' 38, c' 39, c' 40, c' 41, c' 42, c' 43, c' 44, c' 45, c' 46, c' 47, c' 48, c' 49, c' 50, c' 51, c' 52, c' 53, c' 54, c' 55, c' 56, c' 57, c' 58, c' 59, c' 60, c' 61, c' 62, c' 63, c' 64, c' 65, c' 66, c' 67, c' 68, c' 69, c' 70, c' 71, c' 72, c' 73, c' 74, c' 75, c' 76, c' 77, c' 78, c' 79, c' 80, c' 81, c' 82, c' 83, c' 84, c' 85, c' 86, c' 87, c' 88, c' 89, c' 90, c' 91, c' 92, c' 93, c' 94, c' 95, c' 96, c' 97, c' 98, c' 99, c' 100, c' 101, c' 102, c' 103, c' 104, c' 105, c' 106, c' 107, c' 108, c' 109, c' 110, c' 111, c' 112, c' 113, c' 114, c' 115, c' 116, c' 117, c' 118, c' 119, c' 120, c' 121, c' 122, c' 123, c' 124, c' 125, c' 126, c' 127, c' 128, c' 129, c' 130, c' 131, c' 132, c' 133, c' 134, c' 135, c' 136, c' 137, c' 138, c' 139, c' 140, c' 141, c' 142, c' 143, c' 144, c' 145, c' 146, c' 147, c' 148, c' 149, c' 150, c' 151, c' 152, c' 153, c' 154, c' 155, c' 156, c' 157, c' 158, c' 159, c' 160, c' 161, c' 162, c' 163, c' 164, c' 165, c' 166, c' 167, c' 168, c' 169, c' 170, c' 171, c' 172, c' 173, c' 174, c' 175, c' 176, c' 177, c' 178, c' 179, c' 180, c' 181, c' 182, c' 183, c' 184, c' 185, c' 186, c' 187, c' 188, c' 189, c' 190, c' 191, c' 192, c' 193, c' 194, c' 195, c' 196, c' 197, c' 198, c' 199, c' 200, c' 201, c' 202, c' 203, c' 204, c' 205, c' 206, c' 207, c' 208, c' 209, c' 210, c' 211, c' 212, c' 213, c' 214, c' 215, c' 216, c' 217, c' 218, c' 219, c' 220, c' 221, c' 222, c' 223, c' 224, c' 225, c' 226, c' 227, c' 228, c' 229, c' 230, c' 231, c' 232, c' 233, c' 234, c' 235, c' 236, c' 237, c' 238, c' 239, c' 240, c' 241, c' 242, c' 243, c' 244, c' 245, c' 246, c' 247, c' 248, c' 249, c' 250] from rfl, h0', h2', h4', h5', h6', h8']
  go_wp2_with fail
  exact HK.out _ _ _ _ _ _ rfl rfl rfl rfl rfl (by show Value.int .i64 _ = _; congr 1) HS'.out
set_option maxHeartbeats 4000000 in
theorem kKeeps_any (w : World) : Calls Try.prog 44 #[] w fun e w' => e = .returned (.bool true) ∧ Upd (fun _ => False) w w' := by
  have hz0 := zero_at w 88
  simp only [zeroCa] at hz0
  have HZ0 : Hid (CaL _ w.heap.size []) := ⟨_, hz0, fun i hi => absurd hi (by simp)⟩
  have HU0 : Hid _ := (Upd.refl (fun _ => False) w).alloc (.cells #[.int .i64 0, .int .i64 0, .int .i64 0, .bool false, .bool false, .bool false, .int .i64 0, .int .i64 0, .int .i64 0, .int .i64 0, .bool false, .bool false, .bool false, .int .i64 0, .int .i64 0, .int .i64 0, .int .i64 0, .bool false, .bool false, .bool false, .int .i64 0, .int .i64 0, .int .i64 0, .int .i64 0, .bool false, .bool false, .bool false, .int .i64 0, .int .i64 0] 88)
  clear hz0
  go_enter Try.func44, Try.ntmps44
  go_wp2_with fail
  refine (kPut_any _ w.heap.size [] ⟨1, 2, 3, false, ⟨false, false, 0⟩⟩ HZ0.out).mono ?_
  rintro e w1 ⟨rfl, hc1, hu1⟩
  have hp : putK [] ⟨1, 2, 3, false, ⟨false, false, 0⟩⟩ = [⟨1, 2, 3, false, ⟨false, false, 0⟩⟩] := by simp [putK, cut1, flt]
  rw [hp] at hc1
  have HC1 : Hid (CaL w1 w.heap.size [⟨1, 2, 3, false, ⟨false, false, 0⟩⟩]) := hc1
  have HU1 : Hid _ := HU0.out.trans hu1 (fun i hi e => by omega)
  clear hc1 hu1 hp HZ0 HU0
  go_wp2_with fail
  refine (kFind_yes w1 w.heap.size [⟨1, 2, 3, false, ⟨false, false, 0⟩⟩] 1 2 HC1.out 0 (by simp) (idx_self (es := [⟨1, 2, 3, false, ⟨false, false, 0⟩⟩]) (List.pairwise_singleton _ _) (i := 0) (by simp))).mono ?_
  rintro e w2 ⟨rfl, hu2⟩
  have HU2 : Hid _ := HU1.out.trans hu2 (fun _ _ f => f)
  have ea : atE [(⟨1, 2, 3, false, ⟨false, false, 0⟩⟩ : En)] 0 = ⟨1, 2, 3, false, ⟨false, false, 0⟩⟩ := rfl
  rw [ea]
  clear hu2 HC1 HU1 ea
  go_wp2_with fail
  go_ret
  exact ⟨rfl, HU2.out.alloc _⟩
end Go.Proofs.Ytadpibcgjgcjhaa
