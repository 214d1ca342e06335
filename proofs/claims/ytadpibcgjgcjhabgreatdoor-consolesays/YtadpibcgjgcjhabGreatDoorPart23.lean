/- The console's guests, frame, page. -/
import Derived.Test.YtadpibcgjgcjhabGreatDoorPart22
import Derived.Maps.OwnSet
namespace Go.Proofs.YtadpibcgjgcjhabGreatDoor
open Go.ChangeShapes Go.WideShapes Go.ChangeAt Go.RowKit
set_option maxRecDepth 100000
attribute [local go_sem ↓] Go.wp_at_zero Go.wp_at_succ
variable {W w w1 w2 w3 w' : World} {bh bp bf : Nat} {G G' : Nat → G3} {h h2 : Hs} {n k : Nat}

theorem told_two (w : World) (ht : Tab w) (x y : Int) (h0 : 0 ≤ x) (h1 : x ≤ 1000000) (h2 : 0 ≤ y) (h3 : y ≤ 1000000) : Calls Tryz.prog 51 #[.slice (some ⟨w.heap.size, 0, none⟩) 2 2] (w.alloc (.cells #[.int .i64 x, .int .i64 y] 3)) fun e w' => e = .returned (.string (TX (listT [x, y]))) ∧ Upd (fun _ => False) w w' :=
  (told_any (w.alloc (.cells #[.int .i64 x, .int .i64 y] 3)) (ht.upd ((Upd.refl _ _).alloc _)) (some ⟨w.heap.size, 0, none⟩) 2 [x, y] (twoInts (by rw [World.cell?_alloc_new]; rfl) (by rw [World.cell?_alloc_new]; rfl)) (by simp) (fun z hz => by simp at hz; rcases hz with rfl | rfl <;> omega)).mono fun _ _ ⟨he, hu⟩ => ⟨he, ((Upd.refl _ _).alloc _).trans hu (fun _ _ f => f)⟩
theorem pguests_any (s : PS W w n k bh bp bf G h) (bm : Value) : Calls Tryz.prog 61 #[.agg #[.pointer (some ⟨bh, 0, none⟩), bm]] w fun e w2 => e = .returned (.string (TX (guestsT (hNums h 4)))) ∧ PM w w2 bh bp bf G h h := by
  have HS0 : Hid _ := s
  have HAC : Hid (∀ w1, Upd (fun _ => False) w w1 → _) := fun w1 u => hGuests_any (s.m.same u)
  clear s
  go_enter Tryz.func61, Tryz.ntmps61
  go_wp2_with fail
  refine Calls.mono (HAC.out _ ((Upd.refl _ _).alloc _)) ?_
  rintro e w2 ⟨v2, rfl, hs2, hu2⟩
  obtain ⟨a2, cap2, rfl, hc2⟩ := hs2.form
  have HU2 : Hid (Upd (fun _ => False) w w2) := ((Upd.refl _ _).alloc _).trans hu2 (fun _ _ f => f)
  have HTO : Hid _ := told_any w2 (HS0.out.tab1 HU2.out) a2 cap2 ((hNums h 4).map fun (i : Nat) => (i : Int)) (ints_of hc2) (by rw [List.length_map]; exact hNums_len h 4) (nums_le h)
  rw [List.length_map] at HTO
  clear hs2 hc2 hu2 HAC
  by_cases h0 : hNums h 4 = []
  · have e0 : (hNums h 4).length = 0 := by rw [h0]; rfl
    have HE : Hid (guestsT (hNums h 4) = [45]) := show _ = _ by unfold guestsT; rw [if_pos h0]
    clear h0
    go_wp2_with fail
    go_ret
    exact ⟨by rw [HE.out]; rfl, (PM.refl HS0.out.m).more HU2.out⟩
  · have e0 : ¬ (hNums h 4).length = 0 := fun e => h0 (List.length_eq_zero_iff.1 e)
    have e1 : (((hNums h 4).length : Int) == 0) = false := by simp; exact h0
    have HE : Hid (guestsT (hNums h 4) = listT ((hNums h 4).map fun (i : Nat) => (i : Int))) := show _ = _ by unfold guestsT; rw [if_neg h0]
    clear h0
    go_wp2_with (go_at_call 51; refine Calls.mono HTO.out ?_; rintro e w3 ⟨rfl, hu3⟩)
    go_ret
    exact ⟨by rw [HE.out]; rfl, ((PM.refl HS0.out.m).more HU2.out).more hu3⟩
theorem pframe_any (s : PS W w n k bh bp bf G h) (bm : Value) (f : Int) : Calls Tryz.prog 62 #[.agg #[.pointer (some ⟨bh, 0, none⟩), bm], .int .i64 f] w fun e w2 => e = .returned (.tuple #[.string (TX (listT [(h.s.of f).1, (h.s.of f).2.1])), errV (h.s.of f).2.2]) ∧ PM w w2 bh bp bf G h h := by
  have HS0 : Hid _ := s
  have HAC : Hid (∀ w1, Upd (fun _ => False) w w1 → _) := fun w1 u => hFrame_any (s.m.same u) f
  have HB : Hid _ := HOk.refs s.ok f
  clear s
  go_enter Tryz.func62, Tryz.ntmps62
  go_wp2_with fail
  refine Calls.mono (HAC.out _ ((Upd.refl _ _).alloc _)) ?_
  rintro e w2 ⟨rfl, hu2⟩
  have HU2 : Hid (Upd (fun _ => False) w w2) := ((Upd.refl _ _).alloc _).trans hu2 (fun _ _ f => f)
  obtain ⟨y0, y1, z0, z1⟩ := boxF w2
  have HTO : Hid (∀ w1, Upd (fun _ => False) w w1 → _) := fun w1 u => told_two w1 (HS0.out.tab1 u) (h.s.of f).1 (h.s.of f).2.1 HB.out.1 (by have := HB.out.2.1; omega) HB.out.2.2.1 (by have := HB.out.2.2.2.1; omega)
  have hto := HTO.out (w2.alloc (.cells #[.int .i64 (h.s.of f).1, .int .i64 (h.s.of f).2.1] 67)) (HU2.out.alloc _)
  rw [World.size_alloc] at hto
  have HTO2 : Hid _ := hto
  clear hu2 HAC hto HTO
  go_wp2_with (go_at_call 51; refine Calls.mono HTO2.out ?_; rintro e w3 ⟨rfl, hu3⟩)
  go_ret2
  exact ⟨rfl, ((PM.refl HS0.out.m).more (HU2.out.alloc _)).more hu3⟩
theorem cellA (w : World) (v : Value) (t : TypeId) : (w.alloc (.cells #[v] t)).drew.cell? ⟨w.heap.size, 0, none⟩ = some v := by
  show (w.alloc (.cells #[v] t)).cell? _ = _
  rw [World.cell?_alloc_new]; rfl
theorem cellA' (w : World) (v : Value) (t : TypeId) : (w.alloc (.cells #[v] t)).cell? ⟨w.heap.size, 0, none⟩ = some v := by
  rw [World.cell?_alloc_new]; rfl
theorem cellB (w : World) (v : Value) (t : TypeId) (o : Obj) : ((w.alloc (.cells #[v] t)).alloc o).drew.cell? ⟨w.heap.size, 0, none⟩ = some v :=
  (((Upd.refl (fun _ => False) (w.alloc (.cells #[v] t))).alloc o).drew).cell (cellA' w v t) (fun f => f)
theorem cellC (w : World) (v : Value) (t : TypeId) (o : Obj) : ((w.alloc o).alloc (.cells #[v] t)).drew.cell? ⟨w.heap.size + 1, 0, none⟩ = some v := by
  have := cellA (w.alloc o) v t
  rw [World.size_alloc] at this
  exact this
theorem told_at (w : World) (ht : Tab w) (g : Nat) (x : Int) (h0 : 0 ≤ x) (h1 : x ≤ 1000000) (hc : w.cell? ⟨g, 0, none⟩ = some (.int .i64 x)) : Calls Tryz.prog 51 #[.slice (some ⟨g, 0, none⟩) 1 1] w fun e w' => e = .returned (.string (TX (numT x))) ∧ Upd (fun _ => False) w w' := by
  have := told_any w ht (some ⟨g, 0, none⟩) 1 [x] (fun i hi => ⟨_, rfl, by
    have : i = 0 := by simp at hi; omega
    subst this
    exact hc⟩) (by simp) (fun y hy => by simp at hy; subst hy; exact ⟨h0, h1⟩)
  rw [listT_one] at this
  exact this
theorem ppage_bad (s : PS W w n k bh bp bf G h) (bm : Value) (a b : Int) (h0 : 0 < (hState h a b).2) : Calls Tryz.prog 63 #[.agg #[.pointer (some ⟨bh, 0, none⟩), bm], .int .i64 a, .int .i64 b] w fun e w2 => e = .returned (.tuple #[.string (TX []), errV (hState h a b).2]) ∧ PM w w2 bh bp bf G h h := by
  have HS0 : Hid _ := s
  have HAC : Hid (∀ w1, Upd (fun _ => False) w w1 → _) := fun w1 u => hState_any (s.m.same u) s.ok.inv a b
  rw [errV_no (by omega)] at HAC ⊢
  clear s
  go_enter Tryz.func63, Tryz.ntmps63
  go_wp2_with (go_at_call 81; refine Calls.mono (HAC.out _ ((Upd.refl _ _).alloc _)) ?_; rintro e w2 ⟨rfl, hu2⟩)
  go_ret2
  exact ⟨rfl, ((PM.refl HS0.out.m).more ((Upd.refl _ _).alloc _)).more hu2⟩
theorem ppage_none (s : PS W w n k bh bp bf G h) (bm : Value) (a b : Int) (h0 : (hState h a b).2 = 0) (h1 : (hLeaf h a b).2 = 0) (h2 : (hLeaf h a b).1.there = false) : Calls Tryz.prog 63 #[.agg #[.pointer (some ⟨bh, 0, none⟩), bm], .int .i64 a, .int .i64 b] w fun e w2 => e = .returned (.tuple #[.string (TX (numT (hState h a b).1 ++ [32, 110, 111, 119, 104, 101, 114, 101])), .nilIface]) ∧ PM w w2 bh bp bf G h h := by
  have HS0 : Hid _ := s
  have HAC : Hid (∀ w1, Upd (fun _ => False) w w1 → _) := fun w1 u => hState_any (s.m.same u) s.ok.inv a b
  have HLC : Hid (∀ w1, Upd (fun _ => False) w w1 → _) := fun w1 u => hLeaf_any (s.m.same u) s.ok.inv a b
  simp only [h0, errV_zero] at HAC
  simp only [h1, h2, errV_zero] at HLC
  have hst := HOk.state s.ok a b
  have HCO : Hid _ := fun w1 (u : Upd (fun _ => False) w w1) => told_one w1 (s.tab1 u) (hState h a b).1 hst.1 (by omega)
  have hs1 := numT_le (hState h a b).1 (by omega)
  rw [← TX_size] at hs1
  have hz : ¬ 9223372036854775807 < (TX (numT (hState h a b).1)).size + 8 := by omega
  clear s h0 h1 h2
  generalize (hState h a b).1 = st at *
  go_enter Tryz.func63, Tryz.ntmps63
  go_wp2_with fail
  refine Calls.mono (HAC.out _ ((Upd.refl _ _).alloc _)) ?_
  rintro e w2 ⟨rfl, hu2⟩
  have HU2 : Hid (Upd (fun _ => False) w w2) := ((Upd.refl _ _).alloc _).trans hu2 (fun _ _ f => f)
  have q2 : w2.cell? ⟨w.heap.size, 0, none⟩ = some (.pointer (some ⟨bh, 0, none⟩)) := hu2.cell (by rw [World.cell?_alloc_new]; rfl) (fun f => f)
  clear hu2 HAC
  generalize w.heap.size = q at *
  go_wp2_with fail
  refine Calls.mono (HLC.out _ HU2.out) ?_
  rintro e w3 ⟨rfl, hu3⟩
  have HU3 : Hid (Upd (fun _ => False) w w3) := HU2.out.trans hu3 (fun _ _ f => f)
  have q3 := hu3.cell q2 (fun f => f)
  obtain ⟨y0, y1, y2, z0, z1, z2⟩ := box0 w3 92
  clear hu3 HLC q2 HU2
  have hto := HCO.out (w3.alloc (.cells #[.bool false, .bool (hLeaf h a b).1.wr, .int .i64 (hLeaf h a b).1.fr] 92)) (HU3.out.alloc _)
  rw [World.size_alloc] at hto
  have HTO : Hid _ := hto
  clear hto HCO
  go_wp2_with (go_at_call 51; refine Calls.mono HTO.out ?_; rintro e w5 ⟨rfl, hu5⟩)
  go_ret2
  exact ⟨by rw [← TX_append]; rfl, ((PM.refl HS0.out.m).more (HU3.out.alloc _)).more hu5⟩
set_option maxHeartbeats 4000000 in
theorem ppage_own (s : PS W w n k bh bp bf G h) (bm : Value) (a b : Int) (h0 : (hState h a b).2 = 0) (h1 : (hLeaf h a b).2 = 0) (h2 : (hLeaf h a b).1.there = true) (h3 : (hLeaf h a b).1.wr = true) (h4 : (h.s.of (hLeaf h a b).1.fr).2.2 = 0) : Calls Tryz.prog 63 #[.agg #[.pointer (some ⟨bh, 0, none⟩), bm], .int .i64 a, .int .i64 b] w fun e w2 => e = .returned (.tuple #[.string (TX (numT (hState h a b).1 ++ [32, 111, 119, 110, 32] ++ numT (h.s.of (hLeaf h a b).1.fr).2.1)), .nilIface]) ∧ PM w w2 bh bp bf G h h := by
  have HS0 : Hid _ := s
  have HAC : Hid (∀ w1, Upd (fun _ => False) w w1 → _) := fun w1 u => hState_any (s.m.same u) s.ok.inv a b
  have HLC : Hid (∀ w1, Upd (fun _ => False) w w1 → _) := fun w1 u => hLeaf_any (s.m.same u) s.ok.inv a b
  simp only [h0, errV_zero] at HAC
  simp only [h1, h2, h3, errV_zero] at HLC
  have hst := HOk.state s.ok a b
  have HCO : Hid _ := fun w1 (u : Upd (fun _ => False) w w1) => told_one w1 (s.tab1 u) (hState h a b).1 hst.1 (by omega)
  have hs1 := numT_le (hState h a b).1 (by omega)
  rw [← TX_size] at hs1
  have HFC : Hid (∀ w1, Upd (fun _ => False) w w1 → _) := fun w1 u => hFrame_any (s.m.same u) (hLeaf h a b).1.fr
  simp only [h4, errV_zero] at HFC
  have hrf := HOk.refs s.ok (hLeaf h a b).1.fr
  have HCF : Hid _ := fun w1 (u : Upd (fun _ => False) w w1) => told_one w1 (s.tab1 u) (h.s.of (hLeaf h a b).1.fr).2.1 hrf.2.2.1 (by omega)
  have hs2 := numT_le (h.s.of (hLeaf h a b).1.fr).2.1 (by omega)
  rw [← TX_size] at hs2
  have hz : ¬ 9223372036854775807 < (TX (numT (hState h a b).1)).size + 5 := by omega
  have hz2 : ¬ 9223372036854775807 < (TX (numT (hState h a b).1)).size + 5 + (TX (numT (h.s.of (hLeaf h a b).1.fr).2.1)).size := by omega
  have HRF : Hid (0 ≤ (h.s.of (hLeaf h a b).1.fr).2.1 ∧ (h.s.of (hLeaf h a b).1.fr).2.1 ≤ 64) := ⟨hrf.2.2.1, hrf.2.2.2.1⟩
  generalize (h.s.of (hLeaf h a b).1.fr).2.1 = rf at *
  generalize (h.s.of (hLeaf h a b).1.fr).1 = cl at *
  generalize (hLeaf h a b).1.fr = fr at *
  clear s h0 h1 h2 h3 h4 hrf
  generalize (hState h a b).1 = st at *
  go_enter Tryz.func63, Tryz.ntmps63
  go_wp2_with fail
  refine Calls.mono (HAC.out _ ((Upd.refl _ _).alloc _)) ?_
  rintro e w2 ⟨rfl, hu2⟩
  have HU2 : Hid (Upd (fun _ => False) w w2) := ((Upd.refl _ _).alloc _).trans hu2 (fun _ _ f => f)
  have q2 : w2.cell? ⟨w.heap.size, 0, none⟩ = some (.pointer (some ⟨bh, 0, none⟩)) := hu2.cell (by rw [World.cell?_alloc_new]; rfl) (fun f => f)
  clear hu2 HAC
  generalize w.heap.size = q at *
  go_wp2_with fail
  refine Calls.mono (HLC.out _ HU2.out) ?_
  rintro e w3 ⟨rfl, hu3⟩
  have HU3 : Hid (Upd (fun _ => False) w w3) := HU2.out.trans hu3 (fun _ _ f => f)
  have q3 := hu3.cell q2 (fun f => f)
  obtain ⟨y0, y1, y2, z0, z1, z2⟩ := box0 w3 92
  clear hu3 HLC q2 HU2
  have LX : LfAt (w3.alloc (.cells #[.bool true, .bool true, .int .i64 fr] 92)) w3.heap.size ⟨true, true, fr⟩ := LfAt.new w3 92 ⟨true, true, fr⟩
  have HLX : Hid _ := LX
  have HU4 : Hid (Upd (fun _ => False) w (w3.alloc (.cells #[.bool true, .bool true, .int .i64 fr] 92))) := HU3.out.alloc _
  have HQ4 : Hid ((w3.alloc (.cells #[.bool true, .bool true, .int .i64 fr] 92)).cell? ⟨q, 0, none⟩ = some (.pointer (some ⟨bh, 0, none⟩))) := ((Upd.refl (fun _ => False) w3).alloc _).cell q3 (fun f => f)
  have hq3 := World.block_lt_of_cell? w3 _ q3
  simp only at hq3
  clear LX HU3
  go_wp2_with fail
  clear y0 y1 y2 z0 z1 z2 q3 hq3
  revert HLX HU4 HQ4
  generalize w3.alloc (.cells #[.bool true, .bool true, .int .i64 fr] 92) = w4
  generalize w3.heap.size = q5
  intro HLX HU4 HQ4
  refine Calls.mono (HFC.out _ HU4.out) ?_
  rintro e w5 ⟨rfl, hu5⟩
  have HU5 : Hid (Upd (fun _ => False) w w5) := HU4.out.trans hu5 (fun _ _ f => f)
  have LX5 := HLX.out.upd hu5 (fun f => f)
  have l1 := LX5.c1
  simp only at l1
  obtain ⟨y0, y1, z0, z1⟩ := boxF w5
  have F6 : FrAt (w5.alloc (.cells #[.int .i64 cl, .int .i64 rf] 67)) w5.heap.size cl rf := FrAt.new w5 cl rf
  have HF6 : Hid _ := F6
  have HU6 : Hid (Upd (fun _ => False) w (w5.alloc (.cells #[.int .i64 cl, .int .i64 rf] 67))) := HU5.out.alloc _
  have h5l := World.block_lt_of_cell? w5 _ l1
  simp only at h5l
  clear hu5 HFC HU5 HLX HU4 HQ4 LX5 F6
  go_wp2_with fail
  clear y0 y1 z0 z1 l1 h5l
  have HC1 : Hid (∀ w1 g, Upd (fun _ => False) w w1 → w1.cell? ⟨g, 0, none⟩ = some (.int .i64 st) → _) := fun w1 g u hc => told_at w1 (HS0.out.tab1 u) g st hst.1 (by omega) hc
  have HC2 : Hid (∀ w1 g, Upd (fun _ => False) w w1 → w1.cell? ⟨g, 0, none⟩ = some (.int .i64 rf) → _) := fun w1 g u hc => told_at w1 (HS0.out.tab1 u) g rf HRF.out.1 (by have := HRF.out.2; omega) hc
  revert HF6 HU6
  generalize w5.alloc (.cells #[.int .i64 cl, .int .i64 rf] 67) = w6
  generalize w5.heap.size = q6
  intro HF6 HU6
  have f1 := HF6.out.c1
  have hq6 := World.block_lt_of_cell? w6 _ f1
  simp only at hq6
  go_region_with (first
    | (go_at_call 51; refine Calls.mono (HC1.out _ _ (by repeat (first | exact HU6.out | apply Upd.drew | apply Upd.alloc)) (by first | exact cellA _ _ _ | exact cellA' _ _ _ | exact cellB _ _ _ _ | exact cellC _ _ _ _)) ?_; rintro e w8 ⟨rfl, hu8⟩; have f8 : w8.cell? ⟨q6, 1, none⟩ = some (.int .i64 rf) := hu8.cell (by first | exact ((Upd.refl (fun _ => False) w6).alloc _).drew.cell f1 (fun f => f) | exact (((Upd.refl (fun _ => False) w6).alloc _).alloc _).drew.cell f1 (fun f => f)) (fun f => f); have U8 : Upd (fun _ => False) w w8 := Upd.trans (by repeat (first | exact HU6.out | apply Upd.drew | apply Upd.alloc)) hu8 (fun _ _ f => f); have R8 : Hid (∀ g v, _ → w8.cell? ⟨g, 0, none⟩ = some v) := fun g v hc => hu8.cell hc (fun f => f); have l8 := World.block_lt_of_cell? w8 _ f8; simp only at l8)
    | (go_at_call 51; refine Calls.mono (HC2.out _ _ (by repeat (first | exact U8 | apply Upd.drew | apply Upd.alloc)) (by first | exact cellA _ _ _ | exact cellA' _ _ _ | exact R8.out _ _ (cellB _ _ _ _) | exact R8.out _ _ (cellC _ _ _ _))) ?_; rintro e w9 ⟨rfl, hu9⟩; have U9 : Upd (fun _ => False) w w9 := Upd.trans (by repeat (first | exact U8 | apply Upd.drew | apply Upd.alloc)) hu9 (fun _ _ f => f)))
  all_goals clear HC1 HC2
  all_goals go_wp2_with fail
  all_goals go_ret2
  all_goals exact ⟨by rw [← TX_append, ← TX_append]; rfl, (PM.refl HS0.out.m).more U9⟩
end Go.Proofs.YtadpibcgjgcjhabGreatDoor
/- The console's page, sealed. -/
namespace Go.Proofs.YtadpibcgjgcjhabGreatDoor
open Go.ChangeShapes Go.WideShapes Go.ChangeAt Go.RowKit
set_option maxRecDepth 100000
attribute [local go_sem ↓] Go.wp_at_zero Go.wp_at_succ
variable {W w w1 w2 w3 w' : World} {bh bp bf : Nat} {G G' : Nat → G3} {h h2 : Hs} {n k : Nat}

set_option maxHeartbeats 4000000 in
theorem ppage_sealed (s : PS W w n k bh bp bf G h) (bm : Value) (a b : Int) (h0 : (hState h a b).2 = 0) (h1 : (hLeaf h a b).2 = 0) (h2 : (hLeaf h a b).1.there = true) (h3 : (hLeaf h a b).1.wr = false) (h4 : (h.s.of (hLeaf h a b).1.fr).2.2 = 0) : Calls Tryz.prog 63 #[.agg #[.pointer (some ⟨bh, 0, none⟩), bm], .int .i64 a, .int .i64 b] w fun e w2 => e = .returned (.tuple #[.string (TX (numT (hState h a b).1 ++ [32, 115, 101, 97, 108, 101, 100, 32] ++ numT (h.s.of (hLeaf h a b).1.fr).2.1)), .nilIface]) ∧ PM w w2 bh bp bf G h h := by
  have HS0 : Hid _ := s
  have HAC : Hid (∀ w1, Upd (fun _ => False) w w1 → _) := fun w1 u => hState_any (s.m.same u) s.ok.inv a b
  have HLC : Hid (∀ w1, Upd (fun _ => False) w w1 → _) := fun w1 u => hLeaf_any (s.m.same u) s.ok.inv a b
  simp only [h0, errV_zero] at HAC
  simp only [h1, h2, h3, errV_zero] at HLC
  have hst := HOk.state s.ok a b
  have HCO : Hid _ := fun w1 (u : Upd (fun _ => False) w w1) => told_one w1 (s.tab1 u) (hState h a b).1 hst.1 (by omega)
  have hs1 := numT_le (hState h a b).1 (by omega)
  rw [← TX_size] at hs1
  have HFC : Hid (∀ w1, Upd (fun _ => False) w w1 → _) := fun w1 u => hFrame_any (s.m.same u) (hLeaf h a b).1.fr
  simp only [h4, errV_zero] at HFC
  have hrf := HOk.refs s.ok (hLeaf h a b).1.fr
  have HCF : Hid _ := fun w1 (u : Upd (fun _ => False) w w1) => told_one w1 (s.tab1 u) (h.s.of (hLeaf h a b).1.fr).2.1 hrf.2.2.1 (by omega)
  have hs2 := numT_le (h.s.of (hLeaf h a b).1.fr).2.1 (by omega)
  rw [← TX_size] at hs2
  have hz : ¬ 9223372036854775807 < (TX (numT (hState h a b).1)).size + 8 := by omega
  have hz2 : ¬ 9223372036854775807 < (TX (numT (hState h a b).1)).size + 8 + (TX (numT (h.s.of (hLeaf h a b).1.fr).2.1)).size := by omega
  have HRF : Hid (0 ≤ (h.s.of (hLeaf h a b).1.fr).2.1 ∧ (h.s.of (hLeaf h a b).1.fr).2.1 ≤ 64) := ⟨hrf.2.2.1, hrf.2.2.2.1⟩
  generalize (h.s.of (hLeaf h a b).1.fr).2.1 = rf at *
  generalize (h.s.of (hLeaf h a b).1.fr).1 = cl at *
  generalize (hLeaf h a b).1.fr = fr at *
  clear s h0 h1 h2 h3 h4 hrf
  generalize (hState h a b).1 = st at *
  go_enter Tryz.func63, Tryz.ntmps63
  go_wp2_with fail
  refine Calls.mono (HAC.out _ ((Upd.refl _ _).alloc _)) ?_
  rintro e w2 ⟨rfl, hu2⟩
  have HU2 : Hid (Upd (fun _ => False) w w2) := ((Upd.refl _ _).alloc _).trans hu2 (fun _ _ f => f)
  have q2 : w2.cell? ⟨w.heap.size, 0, none⟩ = some (.pointer (some ⟨bh, 0, none⟩)) := hu2.cell (by rw [World.cell?_alloc_new]; rfl) (fun f => f)
  clear hu2 HAC
  generalize w.heap.size = q at *
  go_wp2_with fail
  refine Calls.mono (HLC.out _ HU2.out) ?_
  rintro e w3 ⟨rfl, hu3⟩
  have HU3 : Hid (Upd (fun _ => False) w w3) := HU2.out.trans hu3 (fun _ _ f => f)
  have q3 := hu3.cell q2 (fun f => f)
  obtain ⟨y0, y1, y2, z0, z1, z2⟩ := box0 w3 92
  clear hu3 HLC q2 HU2
  have LX : LfAt (w3.alloc (.cells #[.bool true, .bool false, .int .i64 fr] 92)) w3.heap.size ⟨true, false, fr⟩ := LfAt.new w3 92 ⟨true, false, fr⟩
  have HLX : Hid _ := LX
  have HU4 : Hid (Upd (fun _ => False) w (w3.alloc (.cells #[.bool true, .bool false, .int .i64 fr] 92))) := HU3.out.alloc _
  have HQ4 : Hid ((w3.alloc (.cells #[.bool true, .bool false, .int .i64 fr] 92)).cell? ⟨q, 0, none⟩ = some (.pointer (some ⟨bh, 0, none⟩))) := ((Upd.refl (fun _ => False) w3).alloc _).cell q3 (fun f => f)
  have hq3 := World.block_lt_of_cell? w3 _ q3
  simp only at hq3
  clear LX HU3
  go_wp2_with fail
  clear y0 y1 y2 z0 z1 z2 q3 hq3
  revert HLX HU4 HQ4
  generalize w3.alloc (.cells #[.bool true, .bool false, .int .i64 fr] 92) = w4
  generalize w3.heap.size = q5
  intro HLX HU4 HQ4
  refine Calls.mono (HFC.out _ HU4.out) ?_
  rintro e w5 ⟨rfl, hu5⟩
  have HU5 : Hid (Upd (fun _ => False) w w5) := HU4.out.trans hu5 (fun _ _ f => f)
  have LX5 := HLX.out.upd hu5 (fun f => f)
  have l1 := LX5.c1
  simp only at l1
  obtain ⟨y0, y1, z0, z1⟩ := boxF w5
  have F6 : FrAt (w5.alloc (.cells #[.int .i64 cl, .int .i64 rf] 67)) w5.heap.size cl rf := FrAt.new w5 cl rf
  have HF6 : Hid _ := F6
  have HU6 : Hid (Upd (fun _ => False) w (w5.alloc (.cells #[.int .i64 cl, .int .i64 rf] 67))) := HU5.out.alloc _
  have h5l := World.block_lt_of_cell? w5 _ l1
  simp only at h5l
  clear hu5 HFC HU5 HLX HU4 HQ4 LX5 F6
  go_wp2_with fail
  clear y0 y1 z0 z1 l1 h5l
  have HC1 : Hid (∀ w1 g, Upd (fun _ => False) w w1 → w1.cell? ⟨g, 0, none⟩ = some (.int .i64 st) → _) := fun w1 g u hc => told_at w1 (HS0.out.tab1 u) g st hst.1 (by omega) hc
  have HC2 : Hid (∀ w1 g, Upd (fun _ => False) w w1 → w1.cell? ⟨g, 0, none⟩ = some (.int .i64 rf) → _) := fun w1 g u hc => told_at w1 (HS0.out.tab1 u) g rf HRF.out.1 (by have := HRF.out.2; omega) hc
  revert HF6 HU6
  generalize w5.alloc (.cells #[.int .i64 cl, .int .i64 rf] 67) = w6
  generalize w5.heap.size = q6
  intro HF6 HU6
  have f1 := HF6.out.c1
  have hq6 := World.block_lt_of_cell? w6 _ f1
  simp only at hq6
  go_region_with (first
    | (go_at_call 51; refine Calls.mono (HC1.out _ _ (by repeat (first | exact HU6.out | apply Upd.drew | apply Upd.alloc)) (by first | exact cellA _ _ _ | exact cellA' _ _ _ | exact cellB _ _ _ _ | exact cellC _ _ _ _)) ?_; rintro e w8 ⟨rfl, hu8⟩; have f8 : w8.cell? ⟨q6, 1, none⟩ = some (.int .i64 rf) := hu8.cell (by first | exact ((Upd.refl (fun _ => False) w6).alloc _).drew.cell f1 (fun f => f) | exact (((Upd.refl (fun _ => False) w6).alloc _).alloc _).drew.cell f1 (fun f => f)) (fun f => f); have U8 : Upd (fun _ => False) w w8 := Upd.trans (by repeat (first | exact HU6.out | apply Upd.drew | apply Upd.alloc)) hu8 (fun _ _ f => f); have R8 : Hid (∀ g v, _ → w8.cell? ⟨g, 0, none⟩ = some v) := fun g v hc => hu8.cell hc (fun f => f); have l8 := World.block_lt_of_cell? w8 _ f8; simp only at l8)
    | (go_at_call 51; refine Calls.mono (HC2.out _ _ (by repeat (first | exact U8 | apply Upd.drew | apply Upd.alloc)) (by first | exact cellA _ _ _ | exact cellA' _ _ _ | exact R8.out _ _ (cellB _ _ _ _) | exact R8.out _ _ (cellC _ _ _ _))) ?_; rintro e w9 ⟨rfl, hu9⟩; have U9 : Upd (fun _ => False) w w9 := Upd.trans (by repeat (first | exact U8 | apply Upd.drew | apply Upd.alloc)) hu9 (fun _ _ f => f)))
  all_goals clear HC1 HC2
  all_goals go_wp2_with fail
  all_goals go_ret2
  all_goals exact ⟨by rw [← TX_append, ← TX_append]; rfl, (PM.refl HS0.out.m).more U9⟩
end Go.Proofs.YtadpibcgjgcjhabGreatDoor
/- The console's obey: guests, frame, page; any command. -/
namespace Go.Proofs.YtadpibcgjgcjhabGreatDoor
open Go.ChangeShapes Go.WideShapes Go.ChangeAt Go.RowKit
set_option maxRecDepth 100000
attribute [local go_sem ↓] Go.wp_at_zero Go.wp_at_succ
variable {W w w1 w2 w3 w' : World} {bh bp bf : Nat} {G G' : Nat → G3} {h h2 : Hs} {n k : Nat}

theorem PS.same (s : PS W w n k bh bp bf G h) (u : Upd (fun _ => False) w w1) : PS W w1 n k bh bp bf G h := ⟨s.m.same u, s.ok, s.hk, s.new, s.up.trans u (fun _ _ f => f), s.tab⟩
theorem ppage_any (s : PS W w n k bh bp bf G h) (bm : Value) (a b : Int) : Calls Tryz.prog 63 #[.agg #[.pointer (some ⟨bh, 0, none⟩), bm], .int .i64 a, .int .i64 b] w (OB w bh bp bf G h (pageT h a b, h)) := by
  have hst := HOk.state s.ok a b
  by_cases h0 : 0 < (hState h a b).2
  · refine (ppage_bad s bm a b h0).mono ?_
    rintro e w2 ⟨rfl, hd⟩
    exact ⟨_, _, rfl, hst.2.2, by unfold pageT; rw [if_pos h0, if_pos h0], hd⟩
  · have e0 : (hState h a b).2 = 0 := by omega
    have hw : ¬ 0 < hWho h a := fun e => by unfold hState at e0; rw [if_pos e] at e0; simp only at e0; omega
    have hwc := who_code h a
    obtain ⟨j, x, rfl, hj, hx, hat⟩ := hWho_zero (show hWho h a = 0 by omega)
    obtain ⟨w1, w2⟩ := hWho_some hx hj
    have hb : onB b = true := by
      cases hb : onB b with
      | true => rfl
      | false => unfold hState stR at e0; rw [if_neg hw, hb] at e0; simp at e0
    have hp := (onB_iff b).1 hb
    have e1 : (hLeaf h (j : Int) b).2 = 0 := by unfold hLeaf lfR; rw [if_neg hw, hb]; rfl
    have eL : (hLeaf h (j : Int) b).1 = x.m.lf b.toNat := by unfold hLeaf lfR; rw [if_neg hw, w2, hb]; rfl
    cases e2 : (hLeaf h (j : Int) b).1.there with
    | false =>
      refine (ppage_none s bm (j : Int) b e0 e1 e2).mono ?_
      rintro e w3 ⟨rfl, hd⟩
      refine ⟨_, 0, by rw [errV_zero], ⟨Int.le_refl _, by decide⟩, ?_, hd⟩
      unfold pageT
      rw [if_neg (by decide), if_neg h0, if_neg (by rw [e2]; decide)]
    | true =>
      have hrg := s.ok.inv.cn.rng (16 * j + b.toNat) (by omega)
      have hrl : rowL h (16 * j + b.toNat) = x.m.lf b.toNat := by
        unfold rowL gLf
        rw [show (16 * j + b.toNat) / 16 = j by omega, show (16 * j + b.toNat) % 16 = b.toNat by omega, hx]
      rw [hrl, ← eL] at hrg
      have hrg2 := hrg e2
      have e4 : (h.s.of (hLeaf h (j : Int) b).1.fr).2.2 = 0 := by unfold Pl.of; rw [if_pos hrg2]
      cases e3 : (hLeaf h (j : Int) b).1.wr with
      | true =>
        refine (ppage_own s bm (j : Int) b e0 e1 e2 e3 e4).mono ?_
        rintro e w3 ⟨rfl, hd⟩
        refine ⟨_, 0, by rw [errV_zero], ⟨Int.le_refl _, by decide⟩, ?_, hd⟩
        unfold pageT
        rw [if_neg (by decide), if_neg h0, if_pos e2, if_pos e3]
      | false =>
        refine (ppage_sealed s bm (j : Int) b e0 e1 e2 e3 e4).mono ?_
        rintro e w3 ⟨rfl, hd⟩
        refine ⟨_, 0, by rw [errV_zero], ⟨Int.le_refl _, by decide⟩, ?_, hd⟩
        unfold pageT
        rw [if_neg (by decide), if_neg h0, if_pos e2, if_neg (by rw [e3]; decide)]
theorem obey_guests (s : PS W w n k bh bp bf G h) (bm : Value) (a b v : Int) : Calls Tryz.prog 36 #[.agg #[.pointer (some ⟨bh, 0, none⟩), bm], .string (TX kGuests), .agg #[.int .i64 a, .int .i64 b, .int .i64 v]] w (OB w bh bp bf G h (ansL h kGuests a b v)) := by
  rw [ans_guests]
  have hkk : (TX kGuests).toList = [103, 117, 101, 115, 116, 115] := TX_toList _
  have HAC : Hid (∀ w1, Upd (fun _ => False) w w1 → _) := fun w1 u => pguests_any (s.same u) bm
  have HS0 : Hid _ := s
  clear s
  go_enter Tryz.func36, Tryz.ntmps36
  go_wp2_with (go_at_call 61; refine Calls.mono (HAC.out _ (((Upd.refl _ _).alloc _).alloc _)) ?_; rintro e w2 ⟨rfl, hd2⟩)
  go_ret2
  exact ⟨_, 0, rfl, ⟨Int.le_refl _, by decide⟩, rfl, PM.fore (((Upd.refl _ _).alloc _).alloc _) hd2⟩
theorem obey_frame (s : PS W w n k bh bp bf G h) (bm : Value) (a b v : Int) : Calls Tryz.prog 36 #[.agg #[.pointer (some ⟨bh, 0, none⟩), bm], .string (TX kFrame), .agg #[.int .i64 a, .int .i64 b, .int .i64 v]] w (OB w bh bp bf G h (ansL h kFrame a b v)) := by
  rw [ans_frame]
  have hkk : (TX kFrame).toList = [102, 114, 97, 109, 101] := TX_toList _
  have HAC : Hid (∀ w1, Upd (fun _ => False) w w1 → _) := fun w1 u => pframe_any (s.same u) bm a
  have HB : Hid _ := HOk.refs s.ok a
  have HS0 : Hid _ := s
  clear s
  go_enter Tryz.func36, Tryz.ntmps36
  go_wp2_with (go_at_call 62; refine Calls.mono (HAC.out _ (((Upd.refl _ _).alloc _).alloc _)) ?_; rintro e w2 ⟨rfl, hd2⟩)
  go_ret2
  exact ⟨_, _, rfl, HB.out.2.2.2.2, rfl, PM.fore (((Upd.refl _ _).alloc _).alloc _) hd2⟩
theorem obey_page (s : PS W w n k bh bp bf G h) (bm : Value) (a b v : Int) : Calls Tryz.prog 36 #[.agg #[.pointer (some ⟨bh, 0, none⟩), bm], .string (TX kPage), .agg #[.int .i64 a, .int .i64 b, .int .i64 v]] w (OB w bh bp bf G h (ansL h kPage a b v)) := by
  rw [ans_page]
  have hkk : (TX kPage).toList = [112, 97, 103, 101] := TX_toList _
  have HAC : Hid (∀ w1, Upd (fun _ => False) w w1 → _) := fun w1 u => ppage_any (s.same u) bm a b
  have HS0 : Hid _ := s
  clear s
  go_enter Tryz.func36, Tryz.ntmps36
  go_wp2_with (go_at_call 63; refine Calls.mono (HAC.out _ (((Upd.refl _ _).alloc _).alloc _)) ?_; rintro e w2 ⟨t9, e9, rfl, hb9, hr9, hd2⟩)
  go_ret2
  exact ⟨t9, e9, rfl, hb9, hr9, PM.fore (((Upd.refl _ _).alloc _).alloc _) hd2⟩
theorem many_ob {c : List UInt8} {m : Nat} {P : Prop} (hm : manyL c = some m) (p0 : c = kAdd → m = 0 → P) (p1 : c = kScanall → m = 0 → P) (p2 : c = kLeft → m = 0 → P) (p3 : c = kPromised → m = 0 → P) (p4 : c = kGuests → m = 0 → P) (p5 : c = kRemove → m = 1 → P) (p6 : c = kFrame → m = 1 → P) (p7 : c = kPlug → m = 2 → P) (p8 : c = kUnplug → m = 2 → P) (p9 : c = kGive → m = 2 → P) (p10 : c = kBack → m = 2 → P) (p11 : c = kLoad → m = 2 → P) (p12 : c = kRoot → m = 2 → P) (p13 : c = kForget → m = 2 → P) (p14 : c = kDrop → m = 2 → P) (p15 : c = kScan → m = 2 → P) (p16 : c = kPage → m = 2 → P) (p17 : c = kStore → m = 3 → P) : P := by
  unfold manyL at hm
  by_cases e0 : c = kAdd
  · rw [if_pos e0] at hm; cases hm; exact p0 e0 rfl
  rw [if_neg e0] at hm
  by_cases e1 : c = kScanall
  · rw [if_pos e1] at hm; cases hm; exact p1 e1 rfl
  rw [if_neg e1] at hm
  by_cases e2 : c = kLeft
  · rw [if_pos e2] at hm; cases hm; exact p2 e2 rfl
  rw [if_neg e2] at hm
  by_cases e3 : c = kPromised
  · rw [if_pos e3] at hm; cases hm; exact p3 e3 rfl
  rw [if_neg e3] at hm
  by_cases e4 : c = kGuests
  · rw [if_pos e4] at hm; cases hm; exact p4 e4 rfl
  rw [if_neg e4] at hm
  by_cases e5 : c = kRemove
  · rw [if_pos e5] at hm; cases hm; exact p5 e5 rfl
  rw [if_neg e5] at hm
  by_cases e6 : c = kFrame
  · rw [if_pos e6] at hm; cases hm; exact p6 e6 rfl
  rw [if_neg e6] at hm
  by_cases e7 : c = kPlug
  · rw [if_pos e7] at hm; cases hm; exact p7 e7 rfl
  rw [if_neg e7] at hm
  by_cases e8 : c = kUnplug
  · rw [if_pos e8] at hm; cases hm; exact p8 e8 rfl
  rw [if_neg e8] at hm
  by_cases e9 : c = kGive
  · rw [if_pos e9] at hm; cases hm; exact p9 e9 rfl
  rw [if_neg e9] at hm
  by_cases e10 : c = kBack
  · rw [if_pos e10] at hm; cases hm; exact p10 e10 rfl
  rw [if_neg e10] at hm
  by_cases e11 : c = kLoad
  · rw [if_pos e11] at hm; cases hm; exact p11 e11 rfl
  rw [if_neg e11] at hm
  by_cases e12 : c = kRoot
  · rw [if_pos e12] at hm; cases hm; exact p12 e12 rfl
  rw [if_neg e12] at hm
  by_cases e13 : c = kForget
  · rw [if_pos e13] at hm; cases hm; exact p13 e13 rfl
  rw [if_neg e13] at hm
  by_cases e14 : c = kDrop
  · rw [if_pos e14] at hm; cases hm; exact p14 e14 rfl
  rw [if_neg e14] at hm
  by_cases e15 : c = kScan
  · rw [if_pos e15] at hm; cases hm; exact p15 e15 rfl
  rw [if_neg e15] at hm
  by_cases e16 : c = kPage
  · rw [if_pos e16] at hm; cases hm; exact p16 e16 rfl
  rw [if_neg e16] at hm
  by_cases e17 : c = kStore
  · rw [if_pos e17] at hm; cases hm; exact p17 e17 rfl
  rw [if_neg e17] at hm
  cases hm
theorem obey_any (s : PS W w n k bh bp bf G h) (bm : Value) (c : List UInt8) {m : Nat} (hm : manyL c = some m) (a b v : Int) : Calls Tryz.prog 36 #[.agg #[.pointer (some ⟨bh, 0, none⟩), bm], .string (TX c), .agg #[.int .i64 a, .int .i64 b, .int .i64 v]] w (OB w bh bp bf G h (ansL h c a b v)) := by
  have hm' := hm
  exact many_ob (m := m) hm' (fun e _ => by subst e; exact obey_add s bm a b v) (fun e _ => by subst e; exact obey_scanall s bm a b v) (fun e _ => by subst e; exact obey_left s bm a b v) (fun e _ => by subst e; exact obey_promised s bm a b v) (fun e _ => by subst e; exact obey_guests s bm a b v) (fun e _ => by subst e; exact obey_remove s bm a b v) (fun e _ => by subst e; exact obey_frame s bm a b v) (fun e _ => by subst e; exact obey_plug s bm a b v) (fun e _ => by subst e; exact obey_unplug s bm a b v) (fun e _ => by subst e; exact obey_give s bm a b v) (fun e _ => by subst e; exact obey_back s bm a b v) (fun e _ => by subst e; exact obey_load s bm a b v) (fun e _ => by subst e; exact obey_root s bm a b v) (fun e _ => by subst e; exact obey_forget s bm a b v) (fun e _ => by subst e; exact obey_drop s bm a b v) (fun e _ => by subst e; exact obey_scan s bm a b v) (fun e _ => by subst e; exact obey_page s bm a b v) (fun e _ => by subst e; exact obey_store s bm a b v)
end Go.Proofs.YtadpibcgjgcjhabGreatDoor
/- The console's number. -/
namespace Go.Proofs.YtadpibcgjgcjhabGreatDoor
open Go.ChangeShapes Go.WideShapes Go.ChangeAt Go.RowKit
set_option maxRecDepth 100000
attribute [local go_sem ↓] Go.wp_at_zero Go.wp_at_succ
variable {w w' : World}

def numV (o : Option Int) : Value := match o with
  | some v => .tuple #[.int .i64 v, .nilIface]
  | none => .tuple #[.int .i64 0, .iface 37 (.int .i64 9)]
theorem numW_bad2 {s : List UInt8} (h : ¬ s = [45, 49]) (hg : goodW s = false) : numW s = none := by unfold numW; rw [if_neg h, if_neg (fun e => by rw [hg] at e; exact absurd e.2.1 (by decide))]
theorem good_list : ∀ (l : List UInt8) (h : 0 < l.length), goodW l = !(l[0].toNat == 48 && !(l == [48]))
  | [], h => absurd h (Nat.lt_irrefl _)
  | b :: r, _ => by
    have e : (b.toNat == 48) = (b == 48) := by
      rw [Bool.eq_iff_iff]
      simp only [beq_iff_eq]
      exact ⟨fun h => UInt8.toNat_inj.1 h, fun h => by rw [h]; rfl⟩
    simp only [goodW, List.getElem_cons_zero]
    rw [e]
    by_cases h48 : b = 48
    · subst h48
      cases r <;> simp
    · have : (b == 48) = false := by simpa using h48
      rw [this]
      rfl
theorem good_iff {s : ByteArray} (h0 : 0 < s.size) : goodW s.data.toList = !(s[0].toNat == 48 && !(s.data.toList == [48])) := by
  have hl : 0 < s.data.toList.length := by simpa using h0
  have hb : s[0] = s.data.toList[0] := by simp; rfl
  rw [hb]
  exact good_list _ hl
theorem number_any (w : World) (s : ByteArray) : Calls Tryz.prog 50 #[.string s] w fun e w' => e = .returned (numV (numW s.data.toList)) ∧ w' = w := by
  have hz : s.size = s.data.toList.length := (Array.length_toList (xs := s.data)).symm
  by_cases h1 : s.data.toList = [45, 49]
  · have t1 : (s.toList == [45, 49]) = true := by rw [toList_data, h1]; rfl
    have HN : Hid (numV (numW s.data.toList) = .tuple #[.int .i64 (-1), .nilIface]) := show _ = _ by rw [numW_neg h1]; rfl
    clear h1
    go_enter Tryz.func50, Tryz.ntmps50
    go_wp2_with fail
    go_ret2
    exact ⟨by rw [HN.out]; rfl, rfl⟩
  have t1 : (s.toList == [45, 49]) = false := by rw [toList_data]; simpa using h1
  by_cases h2 : s.data.toList = []
  · have t2 : (s.toList == []) = true := by rw [toList_data, h2]; rfl
    have HN : Hid (numV (numW s.data.toList) = numV none) := show _ = _ by rw [numW_bad2 h1 (by rw [h2]; rfl)]
    clear h1 h2
    go_enter Tryz.func50, Tryz.ntmps50
    go_wp2_with fail
    go_ret2
    exact ⟨by rw [HN.out]; rfl, rfl⟩
  have t2 : (s.toList == []) = false := by rw [toList_data]; simpa using h2
  have h0 : 0 < s.size := by
    rcases Nat.eq_zero_or_pos s.size with e | e
    · exact absurd (List.length_eq_zero_iff.1 (by rw [← hz, e])) h2
    · exact e
  by_cases h5 : 5 < s.size
  · have t5 : decide (5 < (s.size : Int)) = true := by simp; omega
    have HN : Hid (numV (numW s.data.toList) = numV none) := show _ = _ by rw [numW_long h1 (by omega)]
    clear h1 h2 hz
    go_enter Tryz.func50, Tryz.ntmps50
    go_wp2_with fail
    go_ret2
    exact ⟨by rw [HN.out]; rfl, rfl⟩
  have t5 : decide (5 < (s.size : Int)) = false := by simp; omega
  have HG : Hid _ := good_iff h0
  have H1 : Hid (s.data.toList ≠ [45, 49]) := h1
  have HZ : Hid (s.size = s.data.toList.length) := hz
  have e30 : (s.toList == [48]) = (s.data.toList == [48]) := by rw [toList_data]
  clear h1 h2 hz
  cases hg : goodW s.data.toList with
  | false =>
    have HN : Hid (numV (numW s.data.toList) = numV none) := show _ = _ by rw [numW_bad2 H1.out hg]
    have hg2 := HG.out
    rw [hg] at hg2
    have hg3 : s[0].toNat = 48 ∧ (s.data.toList == [48]) = false := by
      simp only [Bool.false_eq, Bool.not_eq_false', Bool.and_eq_true, beq_iff_eq, Bool.not_eq_true'] at hg2
      exact hg2
    have c1 : ((s[0].toNat : Int) == 48) = true := by simp; omega
    rw [hg3.2] at e30
    clear hg hg2 hg3 HG
    go_enter Tryz.func50, Tryz.ntmps50
    go_wp2_with fail
    go_ret2
    exact ⟨by rw [HN.out]; rfl, rfl⟩
  | true =>
    have HGG : Hid (goodW s.data.toList = true) := hg
    have hg2 := HG.out
    rw [hg] at hg2
    have hg3 : s[0].toNat ≠ 48 ∨ s[0].toNat = 48 ∧ (s.data.toList == [48]) = true := by
      by_cases e : s[0].toNat = 48
      · refine Or.inr ⟨e, ?_⟩
        cases h3 : (s.data.toList == [48]) with
        | true => rfl
        | false =>
          rw [h3, e] at hg2
          cases hg2
      · exact Or.inl e
    clear hg hg2 HG
    rcases hg3 with hg3 | ⟨hg3, hg4⟩
    · have c1 : ((s[0].toNat : Int) == 48) = false := by simp; omega
      clear e30
      go_enter Tryz.func50, Tryz.ntmps50
      go_wp2_with fail
      go_loopg [4, 27] s.size (fun g nv iv wr => ∃ k v : Nat, k + g = s.size ∧ iv = .int .i64 k ∧ nv = .int .i64 (v : Int) ∧ v < 100000 ∧ Hid (v = valB (s.data.toList.take k)) ∧ Hid ((s.data.toList.take k).all digB = true) ∧ wr = w)
      case atStart => exact ⟨0, 0, by omega, rfl, rfl, by omega, rfl, rfl, rfl⟩
      case round =>
        obtain ⟨k, v, hk, rfl, rfl, hv, HV, HD, rfl⟩ := hrel
        have HK : Hid _ := hk
        clear c1 hg3
        by_cases hlt : k < s.size
        · clear hk
          by_cases hA : ((s[k].toNat : Int) < 48)
          · have HN : Hid (numV (numW s.data.toList) = numV none) := show _ = _ by
              rw [numW_bad H1.out (all_no (k := k) (by rw [← HZ.out]; exact hlt) (by
                have : s.data.toList[k]'(by rw [← HZ.out]; exact hlt) = s[k] := by simp; rfl
                rw [this]
                simp only [digB, Bool.and_eq_false_iff, decide_eq_false_iff_not]
                omega))]
            have dA : decide ((s[k].toNat : Int) < 48) = true := by simp; omega
            go_wp2_with fail
            go_ret2
            exact ⟨by rw [HN.out]; rfl, rfl⟩
          · have dA : decide ((s[k].toNat : Int) < 48) = false := by simp; omega
            by_cases hB : 57 < (s[k].toNat : Int)
            · have HN : Hid (numV (numW s.data.toList) = numV none) := show _ = _ by
                rw [numW_bad H1.out (all_no (k := k) (by rw [← HZ.out]; exact hlt) (by
                  have : s.data.toList[k]'(by rw [← HZ.out]; exact hlt) = s[k] := by simp; rfl
                  rw [this]
                  simp only [digB, Bool.and_eq_false_iff, decide_eq_false_iff_not]
                  omega))]
              have dB : decide (57 < (s[k].toNat : Int)) = true := by simp; omega
              go_wp2_with fail
              go_ret2
              exact ⟨by rw [HN.out]; rfl, rfl⟩
            · have dB : decide (57 < (s[k].toNat : Int)) = false := by simp; omega
              have hd1 : (s.data.toList.take (k + 1)).all digB = true := by
                rw [take_snoc hlt, List.all_append, HD.out]
                simp [digB]
                omega
              have HD1 : Hid _ := hd1
              have HV1 : Hid (10 * v + (s[k].toNat - 48) = valB (s.data.toList.take (k + 1))) := by
                show _ = _
                rw [take_snoc hlt, valB_snoc, ← HV.out]
              have hb := val_bound _ rfl hd1
              rw [← HV1.out, List.length_take, ← HZ.out, Nat.min_eq_left (by omega)] at hb
              have hb2 : 10 ^ (k + 1) ≤ 10 ^ 5 := Nat.pow_le_pow_right (by omega) (by omega)
              have hb3 : 10 * v + (s[k].toNat - 48) < 100000 := Nat.lt_of_lt_of_le hb hb2
              clear hb hb2 hd1
              go_wp2_with fail
              go_roundg (s.size - (k + 1))
              case rel => exact ⟨k + 1, 10 * v + (s[k].toNat - 48), by omega, by go_num, by go_num, hb3, HV1.out, HD1.out, rfl⟩
              case measure => have := HK.out; omega
        · have hkk : k = s.size := by omega
          subst hkk
          have hall : s.data.toList.take s.size = s.data.toList := by rw [HZ.out]; exact List.take_length
          have hd := HD.out
          have hvv := HV.out
          rw [hall] at hd hvv
          have HN : Hid (numV (numW s.data.toList) = .tuple #[.int .i64 (v : Int), .nilIface]) := show _ = _ by rw [numW_good H1.out (by rw [← HZ.out]; omega) hd, if_pos HGG.out, ← hvv]; rfl
          clear hd hall hvv
          go_wp2_with fail
          go_ret2
          exact ⟨by rw [HN.out]; rfl, rfl⟩
    · have c1 : ((s[0].toNat : Int) == 48) = true := by simp; omega
      rw [hg4] at e30
      clear hg4
      go_enter Tryz.func50, Tryz.ntmps50
      go_wp2_with fail
      go_loopg [4, 27] s.size (fun g nv iv wr => ∃ k v : Nat, k + g = s.size ∧ iv = .int .i64 k ∧ nv = .int .i64 (v : Int) ∧ v < 100000 ∧ Hid (v = valB (s.data.toList.take k)) ∧ Hid ((s.data.toList.take k).all digB = true) ∧ wr = w)
      case atStart => exact ⟨0, 0, by omega, rfl, rfl, by omega, rfl, rfl, rfl⟩
      case round =>
        obtain ⟨k, v, hk, rfl, rfl, hv, HV, HD, rfl⟩ := hrel
        have HK : Hid _ := hk
        clear c1 hg3 e30
        by_cases hlt : k < s.size
        · clear hk
          by_cases hA : ((s[k].toNat : Int) < 48)
          · have HN : Hid (numV (numW s.data.toList) = numV none) := show _ = _ by
              rw [numW_bad H1.out (all_no (k := k) (by rw [← HZ.out]; exact hlt) (by
                have : s.data.toList[k]'(by rw [← HZ.out]; exact hlt) = s[k] := by simp; rfl
                rw [this]
                simp only [digB, Bool.and_eq_false_iff, decide_eq_false_iff_not]
                omega))]
            have dA : decide ((s[k].toNat : Int) < 48) = true := by simp; omega
            go_wp2_with fail
            go_ret2
            exact ⟨by rw [HN.out]; rfl, rfl⟩
          · have dA : decide ((s[k].toNat : Int) < 48) = false := by simp; omega
            by_cases hB : 57 < (s[k].toNat : Int)
            · have HN : Hid (numV (numW s.data.toList) = numV none) := show _ = _ by
                rw [numW_bad H1.out (all_no (k := k) (by rw [← HZ.out]; exact hlt) (by
                  have : s.data.toList[k]'(by rw [← HZ.out]; exact hlt) = s[k] := by simp; rfl
                  rw [this]
                  simp only [digB, Bool.and_eq_false_iff, decide_eq_false_iff_not]
                  omega))]
              have dB : decide (57 < (s[k].toNat : Int)) = true := by simp; omega
              go_wp2_with fail
              go_ret2
              exact ⟨by rw [HN.out]; rfl, rfl⟩
            · have dB : decide (57 < (s[k].toNat : Int)) = false := by simp; omega
              have hd1 : (s.data.toList.take (k + 1)).all digB = true := by
                rw [take_snoc hlt, List.all_append, HD.out]
                simp [digB]
                omega
              have HD1 : Hid _ := hd1
              have HV1 : Hid (10 * v + (s[k].toNat - 48) = valB (s.data.toList.take (k + 1))) := by
                show _ = _
                rw [take_snoc hlt, valB_snoc, ← HV.out]
              have hb := val_bound _ rfl hd1
              rw [← HV1.out, List.length_take, ← HZ.out, Nat.min_eq_left (by omega)] at hb
              have hb2 : 10 ^ (k + 1) ≤ 10 ^ 5 := Nat.pow_le_pow_right (by omega) (by omega)
              have hb3 : 10 * v + (s[k].toNat - 48) < 100000 := Nat.lt_of_lt_of_le hb hb2
              clear hb hb2 hd1
              go_wp2_with fail
              go_roundg (s.size - (k + 1))
              case rel => exact ⟨k + 1, 10 * v + (s[k].toNat - 48), by omega, by go_num, by go_num, hb3, HV1.out, HD1.out, rfl⟩
              case measure => have := HK.out; omega
        · have hkk : k = s.size := by omega
          subst hkk
          have hall : s.data.toList.take s.size = s.data.toList := by rw [HZ.out]; exact List.take_length
          have hd := HD.out
          have hvv := HV.out
          rw [hall] at hd hvv
          have HN : Hid (numV (numW s.data.toList) = .tuple #[.int .i64 (v : Int), .nilIface]) := show _ = _ by rw [numW_good H1.out (by rw [← HZ.out]; omega) hd, if_pos HGG.out, ← hvv]; rfl
          clear hd hall hvv
          go_wp2_with fail
          go_ret2
          exact ⟨by rw [HN.out]; rfl, rfl⟩
end Go.Proofs.YtadpibcgjgcjhabGreatDoor
/- The console's table of commands. -/
namespace Go.Proofs.YtadpibcgjgcjhabGreatDoor
open Go.ChangeShapes Go.WideShapes Go.ChangeAt Go.RowKit Go.WideMaps Go.Maps
set_option maxRecDepth 100000
attribute [local go_sem ↓] Go.wp_at_zero Go.wp_at_succ
variable {W w w1 w2 w' : World}

/-- A table that says of each word how many numbers it has. -/
def Ag (D : DataW Unit) (f : List UInt8 → Option Nat) : Prop := IsMap D ∧ ∀ c, Maps.has D (.string c) = (f c).isSome ∧ ∀ m, f c = some m → D.atKey (.string c) (.lit (.int .i64 0)) = .lit (.int .i64 (m : Int))
def ins (k : List UInt8) (m : Nat) (f : List UInt8 → Option Nat) : List UInt8 → Option Nat := fun c => if c = k then some m else f c
theorem Ag.put {D : DataW Unit} {f : List UInt8 → Option Nat} (h : Ag D f) (k : List UInt8) (m : Nat) : Ag (D.put (.string k) (.lit (.int .i64 (m : Int)))) (ins k m f) := by
  refine ⟨h.1.put _ _, fun c => ?_⟩
  unfold ins
  by_cases e : c = k
  · subst e
    rw [if_pos rfl]
    exact ⟨has_put_same (k := .string c) h.1 (show WideAt.IsKeyLit (.string c) from trivial) _, fun m' hm => by cases hm; exact atKey_put_same (k := .string c) h.1 (show WideAt.IsKeyLit (.string c) from trivial) _ _⟩
  · rw [if_neg e, has_put_other (by intro e'; cases e'; exact e rfl)]
    exact ⟨(h.2 c).1, fun m' hm => by rw [atKey_put_other (by intro e'; cases e'; exact e rfl)]; exact (h.2 c).2 m' hm⟩
/-- The table, in memory. -/
def MapAt (w : World) (b : Nat) (f : List UInt8 → Option Nat) : Prop := ∃ D nn, w.ownsMap Tryz.prog 9 (plainElem Tryz.prog 3) b nn D ∧ nn ≤ 100 ∧ Ag D f
theorem MapAt.upd {S : Nat → Prop} {b : Nat} {f : List UInt8 → Option Nat} (h : MapAt w b f) (u : Upd S w w') (hb : ¬ S b) : MapAt w' b f := by
  obtain ⟨D, nn, ⟨es, clock, hh, r⟩, hn, ha⟩ := h
  have hl : b < w.heap.size := (Array.getElem?_eq_some_iff.1 hh).1
  exact ⟨D, nn, ⟨es, clock, by rw [u.block b hl hb]; exact hh, r⟩, hn, ha⟩
theorem MapAt.lt {b : Nat} {f : List UInt8 → Option Nat} (h : MapAt w b f) : b < w.heap.size := by
  obtain ⟨D, nn, hh, _⟩ := h
  exact hh.lt
theorem keyed : Keyed Tryz.prog 9 := string_keyed Tryz.underlying9
/-- What is laid in so far. -/
structure MapTo (w w1 : World) (b nn : Nat) (f : List UInt8 → Option Nat) : Prop where
  own : ∃ D, w1.ownsMap Tryz.prog 9 (plainElem Tryz.prog 3) b nn D ∧ Ag D f
  up : Upd (fun _ => False) w w1
  new : w.heap.size ≤ b
theorem MapTo.start (w : World) : MapTo w (w.alloc (.map #[] 0)) w.heap.size 0 (fun _ => none) :=
  ⟨⟨.map [], World.ownsMap_made _ _ _ _, ⟨isMap_empty, fun c => ⟨rfl, fun m hm => by cases hm⟩⟩⟩, (Upd.refl _ _).alloc _, Nat.le_refl _⟩
theorem int_wf (m : Nat) (h : m ≤ 100) : (Lit.int .i64 (m : Int)).wf = true := by
  have : m ≤ 100 := h
  simp [Lit.wf]
  have h1 : IntKind.i64.min = -9223372036854775808 := by decide
  rw [h1]
  omega
theorem MapTo.step {b nn : Nat} {f : List UInt8 → Option Nat} (h : MapTo w w1 b nn f) (hn : nn ≤ 90) (k : List UInt8) (hk : k.length ≤ 100) (m : Nat) (hm : m ≤ 100) : ∃ w2, (Instr.mapUpdate 38 (.map (some b)) (.string (TX k)) (.int .i64 (m : Int))).run Tryz.prog w1 = .ok () w2 ∧ MapTo w w2 b (nn + 1) (ins k m f) := by
  obtain ⟨D, ho, ha⟩ := h.own
  have hkey : keyOf Tryz.prog 9 (.string (TX k)) = some (.string k) := keyOf_string_mk Tryz.underlying9 (by rw [TX_size]; unfold maxLen; omega)
  obtain ⟨w2, hr, ho2, hg⟩ := ho.update keyed Tryz.underlying38 (by unfold maxLen; omega) hkey (plainElem_int Tryz.underlying3 (int_wf m hm))
  refine ⟨w2, hr, ⟨_, ho2, ha.put k m⟩, h.up.trans (⟨hg.os, hg.tape, hg.output, hg.size, fun i hi hn => hg.block i hi (fun e => hn (by cases e; rfl))⟩ : Upd (fun i => i = b) w1 w2) (fun i hi e => by have := h.new; omega), h.new⟩
def allCmds : List UInt8 → Option Nat := ins kStore 3 (ins kPage 2 (ins kScan 2 (ins kDrop 2 (ins kForget 2 (ins kRoot 2 (ins kLoad 2 (ins kBack 2 (ins kGive 2 (ins kUnplug 2 (ins kPlug 2 (ins kFrame 1 (ins kRemove 1 (ins kGuests 0 (ins kPromised 0 (ins kLeft 0 (ins kScanall 0 (ins kAdd 0 (fun _ => none))))))))))))))))))
theorem all_many : allCmds = manyL := by
  funext c
  unfold manyL
  by_cases e0 : c = kAdd
  · rw [if_pos e0, e0]; decide
  rw [if_neg e0]
  by_cases e1 : c = kScanall
  · rw [if_pos e1, e1]; decide
  rw [if_neg e1]
  by_cases e2 : c = kLeft
  · rw [if_pos e2, e2]; decide
  rw [if_neg e2]
  by_cases e3 : c = kPromised
  · rw [if_pos e3, e3]; decide
  rw [if_neg e3]
  by_cases e4 : c = kGuests
  · rw [if_pos e4, e4]; decide
  rw [if_neg e4]
  by_cases e5 : c = kRemove
  · rw [if_pos e5, e5]; decide
  rw [if_neg e5]
  by_cases e6 : c = kFrame
  · rw [if_pos e6, e6]; decide
  rw [if_neg e6]
  by_cases e7 : c = kPlug
  · rw [if_pos e7, e7]; decide
  rw [if_neg e7]
  by_cases e8 : c = kUnplug
  · rw [if_pos e8, e8]; decide
  rw [if_neg e8]
  by_cases e9 : c = kGive
  · rw [if_pos e9, e9]; decide
  rw [if_neg e9]
  by_cases e10 : c = kBack
  · rw [if_pos e10, e10]; decide
  rw [if_neg e10]
  by_cases e11 : c = kLoad
  · rw [if_pos e11, e11]; decide
  rw [if_neg e11]
  by_cases e12 : c = kRoot
  · rw [if_pos e12, e12]; decide
  rw [if_neg e12]
  by_cases e13 : c = kForget
  · rw [if_pos e13, e13]; decide
  rw [if_neg e13]
  by_cases e14 : c = kDrop
  · rw [if_pos e14, e14]; decide
  rw [if_neg e14]
  by_cases e15 : c = kScan
  · rw [if_pos e15, e15]; decide
  rw [if_neg e15]
  by_cases e16 : c = kPage
  · rw [if_pos e16, e16]; decide
  rw [if_neg e16]
  by_cases e17 : c = kStore
  · rw [if_pos e17, e17]; decide
  rw [if_neg e17]
  unfold allCmds ins
  rw [if_neg e17, if_neg e16, if_neg e15, if_neg e14, if_neg e13, if_neg e12, if_neg e11, if_neg e10, if_neg e9, if_neg e8, if_neg e7, if_neg e6, if_neg e5, if_neg e4, if_neg e3, if_neg e2, if_neg e1, if_neg e0]
theorem commands_any (w : World) : Calls Tryz.prog 11 #[] w fun e w' => e = .returned (.map (some w.heap.size)) ∧ MapAt w' w.heap.size manyL ∧ Upd (fun _ => False) w w' := by
  have hmm := @run_makeMap Tryz.prog
  have m0 := MapTo.start w
  obtain ⟨w1, r1, m1⟩ := m0.step (by omega) kAdd (by decide) 0 (by omega)
  obtain ⟨w2, r2, m2⟩ := m1.step (by omega) kScanall (by decide) 0 (by omega)
  obtain ⟨w3, r3, m3⟩ := m2.step (by omega) kLeft (by decide) 0 (by omega)
  obtain ⟨w4, r4, m4⟩ := m3.step (by omega) kPromised (by decide) 0 (by omega)
  obtain ⟨w5, r5, m5⟩ := m4.step (by omega) kGuests (by decide) 0 (by omega)
  obtain ⟨w6, r6, m6⟩ := m5.step (by omega) kRemove (by decide) 1 (by omega)
  obtain ⟨w7, r7, m7⟩ := m6.step (by omega) kFrame (by decide) 1 (by omega)
  obtain ⟨w8, r8, m8⟩ := m7.step (by omega) kPlug (by decide) 2 (by omega)
  obtain ⟨w9, r9, m9⟩ := m8.step (by omega) kUnplug (by decide) 2 (by omega)
  obtain ⟨w10, r10, m10⟩ := m9.step (by omega) kGive (by decide) 2 (by omega)
  obtain ⟨w11, r11, m11⟩ := m10.step (by omega) kBack (by decide) 2 (by omega)
  obtain ⟨w12, r12, m12⟩ := m11.step (by omega) kLoad (by decide) 2 (by omega)
  obtain ⟨w13, r13, m13⟩ := m12.step (by omega) kRoot (by decide) 2 (by omega)
  obtain ⟨w14, r14, m14⟩ := m13.step (by omega) kForget (by decide) 2 (by omega)
  obtain ⟨w15, r15, m15⟩ := m14.step (by omega) kDrop (by decide) 2 (by omega)
  obtain ⟨w16, r16, m16⟩ := m15.step (by omega) kScan (by decide) 2 (by omega)
  obtain ⟨w17, r17, m17⟩ := m16.step (by omega) kPage (by decide) 2 (by omega)
  obtain ⟨w18, r18, m18⟩ := m17.step (by omega) kStore (by decide) 3 (by omega)
  have HM : Hid _ := m18
  clear m0 m1 m2 m3 m4 m5 m6 m7 m8 m9 m10 m11 m12 m13 m14 m15 m16 m17 m18
  have r1 : (Instr.mapUpdate 38 (.map (some w.heap.size)) (.string ⟨#[97, 100, 100]⟩) (.int .i64 0)).run Tryz.prog _ = .ok () w1 := r1
  have r2 : (Instr.mapUpdate 38 (.map (some w.heap.size)) (.string ⟨#[115, 99, 97, 110, 97, 108, 108]⟩) (.int .i64 0)).run Tryz.prog _ = .ok () w2 := r2
  have r3 : (Instr.mapUpdate 38 (.map (some w.heap.size)) (.string ⟨#[108, 101, 102, 116]⟩) (.int .i64 0)).run Tryz.prog _ = .ok () w3 := r3
  have r4 : (Instr.mapUpdate 38 (.map (some w.heap.size)) (.string ⟨#[112, 114, 111, 109, 105, 115, 101, 100]⟩) (.int .i64 0)).run Tryz.prog _ = .ok () w4 := r4
  have r5 : (Instr.mapUpdate 38 (.map (some w.heap.size)) (.string ⟨#[103, 117, 101, 115, 116, 115]⟩) (.int .i64 0)).run Tryz.prog _ = .ok () w5 := r5
  have r6 : (Instr.mapUpdate 38 (.map (some w.heap.size)) (.string ⟨#[114, 101, 109, 111, 118, 101]⟩) (.int .i64 1)).run Tryz.prog _ = .ok () w6 := r6
  have r7 : (Instr.mapUpdate 38 (.map (some w.heap.size)) (.string ⟨#[102, 114, 97, 109, 101]⟩) (.int .i64 1)).run Tryz.prog _ = .ok () w7 := r7
  have r8 : (Instr.mapUpdate 38 (.map (some w.heap.size)) (.string ⟨#[112, 108, 117, 103]⟩) (.int .i64 2)).run Tryz.prog _ = .ok () w8 := r8
  have r9 : (Instr.mapUpdate 38 (.map (some w.heap.size)) (.string ⟨#[117, 110, 112, 108, 117, 103]⟩) (.int .i64 2)).run Tryz.prog _ = .ok () w9 := r9
  have r10 : (Instr.mapUpdate 38 (.map (some w.heap.size)) (.string ⟨#[103, 105, 118, 101]⟩) (.int .i64 2)).run Tryz.prog _ = .ok () w10 := r10
  have r11 : (Instr.mapUpdate 38 (.map (some w.heap.size)) (.string ⟨#[98, 97, 99, 107]⟩) (.int .i64 2)).run Tryz.prog _ = .ok () w11 := r11
  have r12 : (Instr.mapUpdate 38 (.map (some w.heap.size)) (.string ⟨#[108, 111, 97, 100]⟩) (.int .i64 2)).run Tryz.prog _ = .ok () w12 := r12
  have r13 : (Instr.mapUpdate 38 (.map (some w.heap.size)) (.string ⟨#[114, 111, 111, 116]⟩) (.int .i64 2)).run Tryz.prog _ = .ok () w13 := r13
  have r14 : (Instr.mapUpdate 38 (.map (some w.heap.size)) (.string ⟨#[102, 111, 114, 103, 101, 116]⟩) (.int .i64 2)).run Tryz.prog _ = .ok () w14 := r14
  have r15 : (Instr.mapUpdate 38 (.map (some w.heap.size)) (.string ⟨#[100, 114, 111, 112]⟩) (.int .i64 2)).run Tryz.prog _ = .ok () w15 := r15
  have r16 : (Instr.mapUpdate 38 (.map (some w.heap.size)) (.string ⟨#[115, 99, 97, 110]⟩) (.int .i64 2)).run Tryz.prog _ = .ok () w16 := r16
  have r17 : (Instr.mapUpdate 38 (.map (some w.heap.size)) (.string ⟨#[112, 97, 103, 101]⟩) (.int .i64 2)).run Tryz.prog _ = .ok () w17 := r17
  have r18 : (Instr.mapUpdate 38 (.map (some w.heap.size)) (.string ⟨#[115, 116, 111, 114, 101]⟩) (.int .i64 3)).run Tryz.prog _ = .ok () w18 := r18
  go_enter Tryz.func11, Tryz.ntmps11
  go_wp2_with fail
  go_ret
  obtain ⟨D, ho, ha⟩ := HM.out.own
  have ha2 : Ag D allCmds := ha
  rw [all_many] at ha2
  exact ⟨rfl, ⟨D, _, ho, by decide, ha2⟩, HM.out.up⟩
end Go.Proofs.YtadpibcgjgcjhabGreatDoor
