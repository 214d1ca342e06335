/- undercroftlaw.CacheSays' switch: find. -/
import Derived.Test.YtehdddmpjimfhaaCsD
namespace Go.Proofs.Ytehdddmpjimfhaa
open Go.ChangeShapes Go.WideShapes Go.ChangeAt Go.RowKit Go.Shelf
set_option maxRecDepth 1000000
attribute [local go_sem ↓] Go.wp_at_zero Go.wp_at_succ

set_option maxHeartbeats 40000000 in
theorem cs_find (c : Nat → Value) (W w : World) (R Bm bc i q : Nat) (vm sl : Value) (x : Ac) (es : List En) (ds : List Nat) (k0 : (x.kind.toList == [112, 117, 116]) = false) (k1 : (x.kind.toList == [102, 105, 110, 100]) = true) (hB : BoxAt w q x) (hS : CsS W w R Bm bc vm es es ds) (_hq : Bm < q) (_hq2 : bc < q) {Q : Exit → Act → World → Prop} (hm : csPost W R Bm sl i Q) :
    Code.wp Try.prog csSw Q ⟨#[sl, c 1, .pointer (some ⟨R, 0, none⟩), c 3, .pointer (some ⟨bc, 0, none⟩), .pointer (some ⟨Bm, 0, none⟩), .int .i64 i, .pointer (some ⟨q, 0, none⟩), .bool true, c 9, c 10, c 11, c 12, c 13, c 14, c 15, c 16, c 17, c 18, c 19, c 20, c 21, c 22, c 23, c 24, c 25, c 26, c 27, c 28, c 29, c 30, c 31, c 32, c 33, c 34, c 35, c 36, c 37, c 38, c 39, c 40, c 41, c 42, c 43, c 44, c 45, c 46, c 47, c 48, .string x.kind, c 50, c 51, c 52, c 53, c 54, c 55, c 56, c 57, c 58, c 59, c 60, c 61, c 62, c 63, c 64, c 65, c 66, c 67, c 68, c 69, c 70, c 71, c 72, c 73, c 74, c 75, c 76, c 77, c 78, c 79, c 80, c 81, c 82, c 83, c 84, c 85, c 86, c 87, c 88, c 89, c 90, c 91, c 92, c 93, c 94, c 95, c 96, c 97, c 98, c 99, c 100, c 101, c 102, c 103, c 104, c 105, c 106, c 107, c 108, c 109, c 110, c 111, c 112, c 113, c 114, c 115, c 116, c 117, c 118, c 119, c 120, c 121, c 122, c 123, c 124, c 125, c 126, c 127, c 128, c 129, c 130, c 131, c 132, c 133, c 134, c 135, c 136, c 137, c 138, c 139, c 140, c 141, c 142, c 143, c 144, c 145, c 146, c 147, c 148, c 149, c 150, c 151, c 152, c 153, c 154, c 155, c 156, c 157, c 158, c 159, c 160, c 161, c 162, c 163, c 164, c 165, c 166, c 167, c 168, c 169, c 170, c 171, c 172, c 173, c 174, c 175, c 176, c 177, c 178, c 179, c 180, c 181, c 182, c 183, c 184, c 185, c 186, c 187, c 188, c 189, c 190, c 191, c 192, c 193, c 194, c 195, c 196, c 197, c 198, c 199, c 200, c 201, c 202, c 203, c 204, c 205, c 206, c 207, c 208, c 209, c 210, c 211, c 212, c 213, c 214, c 215, c 216, c 217, c 218, c 219, c 220, c 221, c 222, c 223, c 224, c 225, c 226, c 227, c 228, c 229, c 230, c 231, c 232, c 233, c 234, c 235, c 236, c 237, c 238, c 239, c 240, c 241, c 242, c 243, c 244, c 245, c 246, c 247, c 248, c 249, c 250], marks ds⟩ w := by
  have HM : Hid (csPost W R Bm sl i Q) := hm
  have HS : Hid _ := hS
  have HB : Hid _ := hB
  have y1 := hB.c1
  have y2 := hB.c2
  have y3 := hB.c3
  have y4 := hB.c4
  have y5 := hB.c5
  have m0 : w.cell? ⟨Bm, 0, none⟩ = some vm := box_cell hS.pm 0
  have mz : w.frozen? ⟨Bm, 0, none⟩ = false := box_frozen hS.pm 0
  have g1 := hS.g1
  have g2 := hS.g2
  have g3 := hS.g3
  have hle := hS.ca.le
  have hltc := hS.ca.lt
  have hltm : Bm < w.heap.size := (Array.getElem?_eq_some_iff.1 hS.pm).1
  have hltq : q < w.heap.size := World.block_lt_of_cell? w _ y1
  clear hm hS hB
  conv => arg 2; whnf
  rcases idxP_cases (isAt x.a x.b) es with ⟨k, hk, ek, _, _⟩ | ⟨ek, _⟩
  · have HEK : Hid _ := ek
    go_wp2_with fail
    refine (kFind_yes w bc es x.a x.b HS.out.ca k hk HEK.out).mono ?_
    rintro e w1 ⟨rfl, hu1⟩
    have hu2 := hu1.alloc (.cells #[.int .i64 (atE es k).root, .int .i64 (atE es k).page, .int .i64 (atE es k).dest, .bool (atE es k).may, .bool (atE es k).lf.there, .bool (atE es k).lf.wr, .int .i64 (atE es k).lf.fr] 85)
    have HS2 : Hid _ := HS.out.same hu2
    have HBX : Hid _ := box_new w1 #[.int .i64 (atE es k).root, .int .i64 (atE es k).page, .int .i64 (atE es k).dest, .bool (atE es k).may, .bool (atE es k).lf.there, .bool (atE es k).lf.wr, .int .i64 (atE es k).lf.fr] 85
    have m2 := hu2.cell m0 (fun f => f)
    have z2 := hu2.cell y2 (fun f => f)
    have z3 := hu2.cell y3 (fun f => f)
    obtain ⟨va, vcap, rfl, hform⟩ := HS2.out.sm.form
    obtain ⟨g, rfl, _, hglt, hcell⟩ := hform k hk
    have hrg : (w1.alloc (.cells #[.int .i64 (atE es k).root, .int .i64 (atE es k).page, .int .i64 (atE es k).dest, .bool (atE es k).may, .bool (atE es k).lf.there, .bool (atE es k).lf.wr, .int .i64 (atE es k).lf.fr] 85)).rangeAt g (k * 7) (enCells (atE es k)) := by
      intro j v hj
      have hj7 : j < 7 := (List.getElem?_eq_some_iff.1 hj).1
      exact (hcell j hj7).trans hj
    have hrx : (w1.alloc (.cells #[.int .i64 (atE es k).root, .int .i64 (atE es k).page, .int .i64 (atE es k).dest, .bool (atE es k).may, .bool (atE es k).lf.there, .bool (atE es k).lf.wr, .int .i64 (atE es k).lf.fr] 85)).rangeAt w1.heap.size 0 (enCells (atE es k)) := by
      intro j v hj
      rw [Nat.zero_add, box_cell HBX.out j, ← hj]
      show (enCells (atE es k)).toArray[j]? = _
      simp
    clear hu1 hu2 hform hcell HBX ek m0 mz y1 y2 y3 y4 y5 HB HS
    generalize atE es k = y at *
    go_wp2_with fail
    refine (cFind_any _ (Bm + 1) _ es x.a x.b HS2.out.sm (by omega)).mono ?_
    rintro e w3 ⟨rfl, hw3⟩
    subst hw3
    rw [show fndI es x.a x.b = (k : Int) from HEK.out]
    have k0 : (0 : Int) ≤ (k : Int) := by omega
    have k1 : (k : Int) < es.length := by omega
    have d0 : decide ((0 : Int) ≤ (k : Int)) = true := by simp
    have tt : (true == true) = true := rfl
    clear HEK
    go_wp2_with fail
    refine wp_region_quiet_lit (by kernel_rfl) (by kernel_rfl) ?_
    repeat (first
      | (go_big_quiet_want; refine quiet_entry' _ (by rfl) w1.heap.size 0 (by rfl) y (by rintro _ ⟨n, rfl⟩; exact hrx) ?_; simp only [Act.put, List.setIfInBounds_toArray, List.set_cons_zero, List.set_cons_succ]; go_big_quiet_on)
      | (go_big_quiet_want; refine quiet_entry' _ (by rfl) g (k * 7) (by rfl) y (by rintro _ ⟨n, rfl⟩; exact hrg) ?_; simp only [Act.put, List.setIfInBounds_toArray, List.set_cons_zero, List.set_cons_succ]; go_big_quiet_on)
      | go_big_quiet_step (fail))
    refine wpQuiet_nil ?_
    intro _ hw'
    obtain ⟨nq, hw''⟩ := hw'
    subst hw''
    have HS9 : Hid _ := HS2.out.same ((Upd.refl (fun _ => False) _).drewN nq)
    clear HS2
    go_wp2_with fail
    exact HM.out.use rfl rfl rfl rfl rfl rfl rfl HS9.out rfl
  · have HEK : Hid _ := ek
    go_wp2_with fail
    refine (kFind_no w bc es x.a x.b HS.out.ca HEK.out).mono ?_
    rintro e w1 ⟨rfl, hu1⟩
    have hu2 := hu1.alloc (.cells #[.int .i64 0, .int .i64 0, .int .i64 0, .bool false, .bool false, .bool false, .int .i64 0] 85)
    have HS2 : Hid _ := HS.out.same hu2
    have HBX : Hid _ := box_new w1 #[.int .i64 0, .int .i64 0, .int .i64 0, .bool false, .bool false, .bool false, .int .i64 0] 85
    have m2 := hu2.cell m0 (fun f => f)
    have z2 := hu2.cell y2 (fun f => f)
    have z3 := hu2.cell y3 (fun f => f)
    have hrx : (w1.alloc (.cells #[.int .i64 0, .int .i64 0, .int .i64 0, .bool false, .bool false, .bool false, .int .i64 0] 85)).rangeAt w1.heap.size 0 (enCells ⟨0, 0, 0, false, ⟨false, false, 0⟩⟩) := by
      intro j v hj
      rw [Nat.zero_add, box_cell HBX.out j, ← hj]
      show (enCells ⟨0, 0, 0, false, ⟨false, false, 0⟩⟩).toArray[j]? = _
      simp
    clear hu1 hu2 HBX ek m0 mz y1 y2 y3 y4 y5 HB HS
    go_wp2_with fail
    refine (cFind_any _ (Bm + 1) _ es x.a x.b HS2.out.sm (by omega)).mono ?_
    rintro e w3 ⟨rfl, hw3⟩
    subst hw3
    rw [show fndI es x.a x.b = -1 from HEK.out]
    clear HEK
    go_wp2_with fail
    refine wp_region_quiet_lit (by kernel_rfl) (by kernel_rfl) ?_
    repeat (first
      | (go_big_quiet_want; refine quiet_entry' _ (by rfl) w1.heap.size 0 (by rfl) ⟨0, 0, 0, false, ⟨false, false, 0⟩⟩ (by rintro _ ⟨n, rfl⟩; exact hrx) ?_; simp only [Act.put, List.setIfInBounds_toArray, List.set_cons_zero, List.set_cons_succ]; go_big_quiet_on)
      | go_big_quiet_step (fail))
    refine wpQuiet_nil ?_
    intro _ hw'
    obtain ⟨nq, hw''⟩ := hw'
    subst hw''
    have HS9 : Hid _ := HS2.out.same ((Upd.refl (fun _ => False) _).drewN nq)
    clear HS2
    go_wp2_with fail
    exact HM.out.use rfl rfl rfl rfl rfl rfl rfl HS9.out rfl

end Go.Proofs.Ytehdddmpjimfhaa
