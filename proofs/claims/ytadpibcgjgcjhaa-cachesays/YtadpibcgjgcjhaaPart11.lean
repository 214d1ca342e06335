/- The walk of undercroftlaw.CacheSays. -/
import Derived.Test.YtadpibcgjgcjhaaPart10
namespace Go.Proofs.Ytadpibcgjgcjhaa
open Go.ChangeShapes Go.WideShapes Go.ChangeAt Go.RowKit Go.Shelf
set_option maxRecDepth 1000000
attribute [local go_sem ↓] Go.wp_at_zero Go.wp_at_succ

set_option maxHeartbeats 40000000 in
theorem cs_long (W : World) (a : Option Addr) (len cap : Nat) (hl : 80 < len) :
    Calls Try.prog 7 #[.slice a len cap] W fun e w' => e = .returned (.bool true) ∧ Upd (fun _ => False) W w' := by
  have HU0 : Hid _ := (Upd.refl (fun _ => False) W).alloc (.cells #[.bool false] 4)
  have HR0 : Hid _ := box_new W #[.bool false] 4
  go_enter Try.func7, Try.ntmps7
  go_wp2_with fail
  refine (kKeeps_any _).mono ?_
  rintro e w1 ⟨rfl, hu1⟩
  have hR1 : w1.heap[W.heap.size]? = some (.cells #[.bool false] 4) := (hu1.block W.heap.size (by simp) (fun f => f)).trans HR0.out
  have HU1 : Hid _ := HU0.out.trans hu1 (fun _ _ f => f)
  have r0 : w1.cell? ⟨W.heap.size, 0, none⟩ = some (.bool false) := box_cell hR1 0
  have rz : w1.frozen? ⟨W.heap.size, 0, none⟩ = false := box_frozen hR1 0
  clear hu1 hR1 HU0 HR0
  go_wp2_with fail
  refine (light_no _ _ _ _ hl).mono ?_
  rintro e w3 ⟨rfl, hw3⟩
  subst hw3
  go_wp2_with fail
  have hv := World.cell?_setCell_same w3 ⟨W.heap.size, 0, none⟩ (.bool true) r0
  exact bodyPost_ret (v := .bool true) (by simp [results, Try.results7, go_sem, hv]) rfl ⟨rfl, HU1.out.trans (Upd.one w3 W.heap.size 0 (.bool true)) (fun i hi e => by omega)⟩
set_option maxHeartbeats 40000000 in
theorem cs_walk (W : World) (a : Option Addr) (len cap : Nat) (acts : Nat → Ac) (hl : len ≤ 80) (hacts : ActsAt W a len acts) :
    Calls Try.prog 7 #[.slice a len cap] W fun e w' => e = .returned (.bool true) ∧ Upd (fun _ => False) W w' := by
  have HA : Hid _ := hacts
  clear hacts
  have HU0 : Hid _ := (Upd.refl (fun _ => False) W).alloc (.cells #[.bool false] 4)
  have HR0 : Hid _ := box_new W #[.bool false] 4
  refine (callsIn_wide (n := 8)).1 ?_
  refine callsIn_of_wp_marks Try.func7 rfl trivial ?_ rfl
  refine wpIn_wide.2 ?_
  simp only [Try.ntmps7, List.size_toArray, List.length_cons, List.length_nil, Nat.reduceAdd, Nat.reduceSub, Array.replicate_succ, Array.replicate_zero, List.push_toArray, List.append_toArray, List.nil_append, List.cons_append]
  go_wp2_with fail
  refine (kKeeps_any _).mono ?_
  rintro e w1 ⟨rfl, hu1⟩
  have HR1 : Hid (w1.heap[W.heap.size]? = some (.cells #[.bool false] 4)) := (hu1.block W.heap.size (by simp) (fun f => f)).trans HR0.out
  have HU1 : Hid _ := HU0.out.trans hu1 (fun _ _ f => f)
  clear hu1 HU0 HR0
  go_wp2_with fail
  refine (light_yes _ _ _ _ hl).mono ?_
  rintro e w3 ⟨rfl, hw3⟩
  subst hw3
  go_wp2_with fail
  have hlt3 : W.heap.size < w3.heap.size := (Array.getElem?_eq_some_iff.1 HR1.out).1
  refine wp_loop_ghost_k (csI W W.heap.size (w3.heap.size + 1) len (.slice a len cap)) len ?_ ?_
  · refine csI_intro (i := 0) (ec := []) (ds := []) (bc := w3.heap.size) (vm := .slice none 0 0) rfl (by omega) rfl rfl rfl rfl rfl ?_
    have hzz := zero_at w3 88
    have u1 := (Upd.refl (fun _ => False) w3).alloc (.cells zeroCa 88)
    have u2 := u1.alloc (.cells #[.slice none 0 0] 90)
    have hR4 := (u2.block W.heap.size hlt3 (fun f => f)).trans HR1.out
    have hp := box_new (w3.alloc (.cells zeroCa 88)) #[.slice none 0 0] 90
    rw [World.size_alloc] at hp
    exact ⟨⟨_, hzz.upd ((Upd.refl (fun _ => False) _).alloc _) (fun f => f), fun i hi => absurd hi (by simp)⟩, hp, SlC.nil _ _, fun g hg => by simp [Value.ownBlock] at hg, ⟨false, box_cell hR4 0⟩, box_frozen hR4 0, HU1.out.trans u2 (fun _ _ f => f), Marks.nil _ _, dist_nil, Nat.le_refl _, by omega, hlt3, by omega⟩
  · rintro k aa wr ⟨c, es, ds, i, bc, vm, hik, h0, h2, h4, h5, h6, hS, rfl⟩ J K hJ hK
    by_cases hlt : i < len
    · refine cs_round W wr W.heap.size (w3.heap.size + 1) bc len cap i k vm a acts hl HA.out c es ds hik h0 h2 h4 h5 h6 hS hlt ?_
      intro l es' ds' bc' vm' w' hl' h0' h2' h4' h5' h6' hS'
      exact hK _ _ (Handed.intro (k - 1) (by omega) (hJ _ _ _ (csI_intro (i := i + 1) hl' (by omega) h0' h2' h4' h5' h6' hS')))
    · have hil : i = len := by omega
      subst hil
      have hd : decide ((i : Int) < (i : Int)) = false := by simp
      have hu1 := (Upd.refl (fun _ => False) wr).alloc (.cells #[.slice none 0 0] 89)
      have HN : Hid _ := box_new wr #[.slice none 0 0] 89
      have HS1 : Hid _ := hS.same hu1
      have HL1 : Hid (w3.heap.size + 1 < wr.heap.size ∧ bc < wr.heap.size) := ⟨(Array.getElem?_eq_some_iff.1 hS.pm).1, hS.ca.lt⟩
      have HG : Hid (∀ g, vm.ownBlock = some g → g < wr.heap.size) := fun g hg => (hS.sm.own_lt hg).2
      rw [show ((List.range 251).map c).toArray = #[c 0, c 1, c 2, c 3, c 4, c 5, c 6, c 7, c 8, c 9, c 10, c 11, c 12, c 13, c 14, c 15, c 16, c 17, c 18, c 19, c 20, c 21, c 22, c 23, c 24, c 25, c 26, c 27, c 28, c 29, c 30, c 31, c 32, c 33, c 34, c 35, c 36, c 37, c 38, c 39, c 40, c 41, c 42, c 43, c 44, c 45, c 46, c 47, c 48, c 49, c 50, c 51, c 52, c 53, c 54, c 55, c 56, c 57, c 58, c 59, c 60, c 61, c 62, c 63, c 64, c 65, c 66, c 67, c 68, c 69, c 70, c 71, c 72, c 73, c 74, c 75, c 76, c 77, c 78, c 79, c 80, c 81, c 82, c 83, c 84, c 85, c 86, c 87, c 88, c 89, c 90, c 91, c 92, c 93, c 94, c 95, c 96, c 97, c 98, c 99, c 100, c 101, c 102, c 103, c 104, c 105, c 106, c 107, c 108, c 109, c 110, c 111, c 112, c 113, c 114, c 115, c 116, c 117, c 118, c 119, c 120, c 121, c 122, c 123, c 124, c 125, c 126, c 127, c 128, c 129, c 130, c 131, c 132, c 133, c 134, c 135, c 136, c 137, c 138, c 139, c 140, c 141, c 142, c 143, c 144, c 145, c 146, c 147, c 148, c 149, c 150, c 151, c 152, c 153, c 154, c 155, c 156, c 157, c 158, c 159, c 160, c 161, c 162, c 163, c 164, c 165, c 166, c 167, c 168, c 169, c 170, c 171, c 172, c 173, c 174, c 175, c 176, c 177, c 178, c 179, c 180, c 181, c 182, c 183, c 184, c 185, c 186, c 187, c 188, c 189, c 190, c 191, c 192, c 193, c 194, c 195, c 196, c 197, c 198, c 199, c 200, c 201, c 202, c 203, c 204, c 205, c 206, c 207, c 208, c 209, c 210, c 211, c 212, c 213, c 214, c 215, c 216, c 217, c 218, c 219, c 220, c 221, c 222, c 223, c 224, c 225, c 226, c 227, c 228, c 229, c 230, c 231, c 232, c 233, c 234, c 235, c 236, c 237, c 238, c 239, c 240, c 241, c 242, c 243, c 244, c 245, c 246, c 247, c 248, c 249, c 250] from rfl, h0, h2, h4, h5, h6]
      clear hS HA HU1 HR1 hJ hK h0 h2 h4 h5 h6 hu1
      go_wp2_with fail
      refine (kAll_any _ bc es HS1.out.ca).mono ?_
      rintro e w4 ⟨B, b', rfl, hB1, hb1, hB2, hC2, hu2⟩
      simp only [World.size_alloc] at hB1 hb1
      have HS2 : Hid _ := HS1.out.same hu2
      have HN2 : Hid (w4.heap[wr.heap.size]? = some (.cells #[.slice none 0 0] 89)) := (hu2.block wr.heap.size (by simp) (fun f => f)).trans HN.out
      have HB2 : Hid _ := hB2
      have HC2 : Hid (CaL w4 b' es) := hC2
      have HNE : Hid (b' ≠ wr.heap.size ∧ B ≠ wr.heap.size) := ⟨by omega, by omega⟩
      have HZ4 : Hid (W.heap.size ≤ wr.heap.size) := by show _ ≤ _; have := HL1.out; omega
      clear hB2 hC2 HS1 hB1 hb1 hu2 HN
      go_wp2_with fail
      refine cs_rf2L _ rfl ds w4 B b' wr.heap.size es rfl rfl HB2.out HC2.out HN2.out HNE.out.1 HNE.out.2 ?_
      intro D w5 v5 hD hu5 hb5 hs5 hd5
      have HS5 : Hid _ := HS2.out.mark hu5 (box_cell HN2.out 0) (by have := HL1.out; omega) (by have := HL1.out; omega) (by have := HL1.out; omega) (fun g hg => by have := HG.out g hg; omega) HZ4.out hD hd5
      have o5 : w5.cell? ⟨wr.heap.size, 0, none⟩ = some v5 := box_cell hb5 0
      have m5 : w5.cell? ⟨w3.heap.size + 1, 0, none⟩ = some vm := box_cell HS5.out.pm 0
      have HS5L : Hid (SlC w5 w4.heap.size v5 es) := hs5
      have hle := HS5.out.ca.le
      clear hu5 hb5 hs5 hd5 hD HS2 HN2 HB2 HC2 HNE HZ4 HG
      go_wp2_with fail
      refine (cSame_any w5 w4.heap.size (w3.heap.size + 1 + 1) v5 vm es HS5L.out HS5.out.sm (by omega)).mono ?_
      rintro e w6 ⟨rfl, m, hw6⟩
      have HS6 : Hid (CsS W w6 W.heap.size (w3.heap.size + 1) bc vm es es (D :: ds)) := by rw [hw6]; exact HS5.out.same ((Upd.refl (fun _ => False) _).drewN m)
      obtain ⟨rv, r0⟩ := HS6.out.r0
      have rz := HS6.out.rz
      clear hw6 HS5 HS5L o5 m5
      go_wp2_with fail
      obtain ⟨hS', hv⟩ := HS6.out.store
      exact hS'.leaves hv (fun w' hv' hu' => ⟨.bool true, by simp [results, Try.results7, go_sem, hv'], rfl, hu'⟩)
end Go.Proofs.Ytadpibcgjgcjhaa
