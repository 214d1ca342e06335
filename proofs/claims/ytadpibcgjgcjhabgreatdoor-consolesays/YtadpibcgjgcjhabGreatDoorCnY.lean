/- The console's guests, frame, page. -/
import Derived.Test.YtadpibcgjgcjhabGreatDoorCnX
namespace Go.Proofs.YtadpibcgjgcjhabGreatDoor
open Go.ChangeShapes Go.WideShapes Go.ChangeAt Go.RowKit
set_option maxRecDepth 100000
attribute [local go_sem ↓] Go.wp_at_zero Go.wp_at_succ
variable {W w w1 w2 w3 w' : World} {bh bp bf : Nat} {G G' : Nat → G3} {h h2 : Hs} {n k : Nat}

theorem told_two (w : World) (ht : Tab w) (x y : Int) (h0 : 0 ≤ x) (h1 : x ≤ 1000000) (h2 : 0 ≤ y) (h3 : y ≤ 1000000) : Calls Tryz.prog 51 #[.slice (some ⟨w.heap.size, 0, none⟩) 2 2] (w.alloc (.cells #[.int .i64 x, .int .i64 y] 3)) fun e w' => e = .returned (.string (TX (listT [x, y]))) ∧ Upd (fun _ => False) w w' :=
  (told_any (w.alloc (.cells #[.int .i64 x, .int .i64 y] 3)) (ht.upd ((Upd.refl _ _).alloc _)) (some ⟨w.heap.size, 0, none⟩) 2 [x, y] (twoInts (by rw [World.cell?_alloc_new]; rfl) (by rw [World.cell?_alloc_new]; rfl)) (by simp) (fun z hz => by simp at hz; rcases hz with rfl | rfl <;> omega)).mono fun _ _ ⟨he, hu⟩ => ⟨he, ((Upd.refl _ _).alloc _).trans hu (fun _ _ f => f)⟩
theorem pguests_any (s : PS W w n k bh bp bf G h) (bm : Value) : Calls Tryz.prog 61 #[.agg #[.pointer (some ⟨bh, 0, none⟩), bm]] w fun e w2 => e = .returned (.string (TX (guestsT (hNums h 4)))) ∧ PM w w2 bh bp bf G h h := by
  have HS0 : Hid _ := s
  have HAC : Hid (∀ w1, Upd (fun _ => False) w w1 → _) := fun w1 u => hGuests_any (s.m.same u)
  clear s
  go_enter Tryz.func61, Tryz.ntmps61
  go_wp2_with fail
  refine Calls.mono (HAC.out _ ((Upd.refl _ _).alloc _)) ?_
  rintro e w2 ⟨v2, rfl, hs2, hu2⟩
  obtain ⟨a2, cap2, rfl, hc2⟩ := hs2.form
  have HU2 : Hid (Upd (fun _ => False) w w2) := ((Upd.refl _ _).alloc _).trans hu2 (fun _ _ f => f)
  have HTO : Hid _ := told_any w2 (HS0.out.tab1 HU2.out) a2 cap2 ((hNums h 4).map fun (i : Nat) => (i : Int)) (ints_of hc2) (by rw [List.length_map]; exact hNums_len h 4) (nums_le h)
  rw [List.length_map] at HTO
  clear hs2 hc2 hu2 HAC
  by_cases h0 : hNums h 4 = []
  · have e0 : (hNums h 4).length = 0 := by rw [h0]; rfl
    have HE : Hid (guestsT (hNums h 4) = [45]) := show _ = _ by unfold guestsT; rw [if_pos h0]
    clear h0
    go_wp2_with fail
    go_ret
    exact ⟨by rw [HE.out]; rfl, (PM.refl HS0.out.m).more HU2.out⟩
  · have e0 : ¬ (hNums h 4).length = 0 := fun e => h0 (List.length_eq_zero_iff.1 e)
    have e1 : (((hNums h 4).length : Int) == 0) = false := by simp; exact h0
    have HE : Hid (guestsT (hNums h 4) = listT ((hNums h 4).map fun (i : Nat) => (i : Int))) := show _ = _ by unfold guestsT; rw [if_neg h0]
    clear h0
    go_wp2_with (go_at_call 51; refine Calls.mono HTO.out ?_; rintro e w3 ⟨rfl, hu3⟩)
    go_ret
    exact ⟨by rw [HE.out]; rfl, ((PM.refl HS0.out.m).more HU2.out).more hu3⟩
theorem pframe_any (s : PS W w n k bh bp bf G h) (bm : Value) (f : Int) : Calls Tryz.prog 62 #[.agg #[.pointer (some ⟨bh, 0, none⟩), bm], .int .i64 f] w fun e w2 => e = .returned (.tuple #[.string (TX (listT [(h.s.of f).1, (h.s.of f).2.1])), errV (h.s.of f).2.2]) ∧ PM w w2 bh bp bf G h h := by
  have HS0 : Hid _ := s
  have HAC : Hid (∀ w1, Upd (fun _ => False) w w1 → _) := fun w1 u => hFrame_any (s.m.same u) f
  have HB : Hid _ := HOk.refs s.ok f
  clear s
  go_enter Tryz.func62, Tryz.ntmps62
  go_wp2_with fail
  refine Calls.mono (HAC.out _ ((Upd.refl _ _).alloc _)) ?_
  rintro e w2 ⟨rfl, hu2⟩
  have HU2 : Hid (Upd (fun _ => False) w w2) := ((Upd.refl _ _).alloc _).trans hu2 (fun _ _ f => f)
  obtain ⟨y0, y1, z0, z1⟩ := boxF w2
  have HTO : Hid (∀ w1, Upd (fun _ => False) w w1 → _) := fun w1 u => told_two w1 (HS0.out.tab1 u) (h.s.of f).1 (h.s.of f).2.1 HB.out.1 (by have := HB.out.2.1; omega) HB.out.2.2.1 (by have := HB.out.2.2.2.1; omega)
  have hto := HTO.out (w2.alloc (.cells #[.int .i64 (h.s.of f).1, .int .i64 (h.s.of f).2.1] 67)) (HU2.out.alloc _)
  rw [World.size_alloc] at hto
  have HTO2 : Hid _ := hto
  clear hu2 HAC hto HTO
  go_wp2_with (go_at_call 51; refine Calls.mono HTO2.out ?_; rintro e w3 ⟨rfl, hu3⟩)
  go_ret2
  exact ⟨rfl, ((PM.refl HS0.out.m).more (HU2.out.alloc _)).more hu3⟩
theorem cellA (w : World) (v : Value) (t : TypeId) : (w.alloc (.cells #[v] t)).drew.cell? ⟨w.heap.size, 0, none⟩ = some v := by
  show (w.alloc (.cells #[v] t)).cell? _ = _
  rw [World.cell?_alloc_new]; rfl
theorem cellA' (w : World) (v : Value) (t : TypeId) : (w.alloc (.cells #[v] t)).cell? ⟨w.heap.size, 0, none⟩ = some v := by
  rw [World.cell?_alloc_new]; rfl
theorem cellB (w : World) (v : Value) (t : TypeId) (o : Obj) : ((w.alloc (.cells #[v] t)).alloc o).drew.cell? ⟨w.heap.size, 0, none⟩ = some v :=
  (((Upd.refl (fun _ => False) (w.alloc (.cells #[v] t))).alloc o).drew).cell (cellA' w v t) (fun f => f)
theorem cellC (w : World) (v : Value) (t : TypeId) (o : Obj) : ((w.alloc o).alloc (.cells #[v] t)).drew.cell? ⟨w.heap.size + 1, 0, none⟩ = some v := by
  have := cellA (w.alloc o) v t
  rw [World.size_alloc] at this
  exact this
theorem told_at (w : World) (ht : Tab w) (g : Nat) (x : Int) (h0 : 0 ≤ x) (h1 : x ≤ 1000000) (hc : w.cell? ⟨g, 0, none⟩ = some (.int .i64 x)) : Calls Tryz.prog 51 #[.slice (some ⟨g, 0, none⟩) 1 1] w fun e w' => e = .returned (.string (TX (numT x))) ∧ Upd (fun _ => False) w w' := by
  have := told_any w ht (some ⟨g, 0, none⟩) 1 [x] (fun i hi => ⟨_, rfl, by
    have : i = 0 := by simp at hi; omega
    subst this
    exact hc⟩) (by simp) (fun y hy => by simp at hy; subst hy; exact ⟨h0, h1⟩)
  rw [listT_one] at this
  exact this
theorem ppage_bad (s : PS W w n k bh bp bf G h) (bm : Value) (a b : Int) (h0 : 0 < (hState h a b).2) : Calls Tryz.prog 63 #[.agg #[.pointer (some ⟨bh, 0, none⟩), bm], .int .i64 a, .int .i64 b] w fun e w2 => e = .returned (.tuple #[.string (TX []), errV (hState h a b).2]) ∧ PM w w2 bh bp bf G h h := by
  have HS0 : Hid _ := s
  have HAC : Hid (∀ w1, Upd (fun _ => False) w w1 → _) := fun w1 u => hState_any (s.m.same u) s.ok.inv a b
  rw [errV_no (by omega)] at HAC ⊢
  clear s
  go_enter Tryz.func63, Tryz.ntmps63
  go_wp2_with (go_at_call 81; refine Calls.mono (HAC.out _ ((Upd.refl _ _).alloc _)) ?_; rintro e w2 ⟨rfl, hu2⟩)
  go_ret2
  exact ⟨rfl, ((PM.refl HS0.out.m).more ((Upd.refl _ _).alloc _)).more hu2⟩
theorem ppage_none (s : PS W w n k bh bp bf G h) (bm : Value) (a b : Int) (h0 : (hState h a b).2 = 0) (h1 : (hLeaf h a b).2 = 0) (h2 : (hLeaf h a b).1.there = false) : Calls Tryz.prog 63 #[.agg #[.pointer (some ⟨bh, 0, none⟩), bm], .int .i64 a, .int .i64 b] w fun e w2 => e = .returned (.tuple #[.string (TX (numT (hState h a b).1 ++ [32, 110, 111, 119, 104, 101, 114, 101])), .nilIface]) ∧ PM w w2 bh bp bf G h h := by
  have HS0 : Hid _ := s
  have HAC : Hid (∀ w1, Upd (fun _ => False) w w1 → _) := fun w1 u => hState_any (s.m.same u) s.ok.inv a b
  have HLC : Hid (∀ w1, Upd (fun _ => False) w w1 → _) := fun w1 u => hLeaf_any (s.m.same u) s.ok.inv a b
  simp only [h0, errV_zero] at HAC
  simp only [h1, h2, errV_zero] at HLC
  have hst := HOk.state s.ok a b
  have HCO : Hid _ := fun w1 (u : Upd (fun _ => False) w w1) => told_one w1 (s.tab1 u) (hState h a b).1 hst.1 (by omega)
  have hs1 := numT_le (hState h a b).1 (by omega)
  rw [← TX_size] at hs1
  have hz : ¬ 9223372036854775807 < (TX (numT (hState h a b).1)).size + 8 := by omega
  clear s h0 h1 h2
  generalize (hState h a b).1 = st at *
  go_enter Tryz.func63, Tryz.ntmps63
  go_wp2_with fail
  refine Calls.mono (HAC.out _ ((Upd.refl _ _).alloc _)) ?_
  rintro e w2 ⟨rfl, hu2⟩
  have HU2 : Hid (Upd (fun _ => False) w w2) := ((Upd.refl _ _).alloc _).trans hu2 (fun _ _ f => f)
  have q2 : w2.cell? ⟨w.heap.size, 0, none⟩ = some (.pointer (some ⟨bh, 0, none⟩)) := hu2.cell (by rw [World.cell?_alloc_new]; rfl) (fun f => f)
  clear hu2 HAC
  generalize w.heap.size = q at *
  go_wp2_with fail
  refine Calls.mono (HLC.out _ HU2.out) ?_
  rintro e w3 ⟨rfl, hu3⟩
  have HU3 : Hid (Upd (fun _ => False) w w3) := HU2.out.trans hu3 (fun _ _ f => f)
  have q3 := hu3.cell q2 (fun f => f)
  obtain ⟨y0, y1, y2, z0, z1, z2⟩ := box0 w3 92
  clear hu3 HLC q2 HU2
  have hto := HCO.out (w3.alloc (.cells #[.bool false, .bool (hLeaf h a b).1.wr, .int .i64 (hLeaf h a b).1.fr] 92)) (HU3.out.alloc _)
  rw [World.size_alloc] at hto
  have HTO : Hid _ := hto
  clear hto HCO
  go_wp2_with (go_at_call 51; refine Calls.mono HTO.out ?_; rintro e w5 ⟨rfl, hu5⟩)
  go_ret2
  exact ⟨by rw [← TX_append]; rfl, ((PM.refl HS0.out.m).more (HU3.out.alloc _)).more hu5⟩
set_option maxHeartbeats 4000000 in
theorem ppage_own (s : PS W w n k bh bp bf G h) (bm : Value) (a b : Int) (h0 : (hState h a b).2 = 0) (h1 : (hLeaf h a b).2 = 0) (h2 : (hLeaf h a b).1.there = true) (h3 : (hLeaf h a b).1.wr = true) (h4 : (h.s.of (hLeaf h a b).1.fr).2.2 = 0) : Calls Tryz.prog 63 #[.agg #[.pointer (some ⟨bh, 0, none⟩), bm], .int .i64 a, .int .i64 b] w fun e w2 => e = .returned (.tuple #[.string (TX (numT (hState h a b).1 ++ [32, 111, 119, 110, 32] ++ numT (h.s.of (hLeaf h a b).1.fr).2.1)), .nilIface]) ∧ PM w w2 bh bp bf G h h := by
  have HS0 : Hid _ := s
  have HAC : Hid (∀ w1, Upd (fun _ => False) w w1 → _) := fun w1 u => hState_any (s.m.same u) s.ok.inv a b
  have HLC : Hid (∀ w1, Upd (fun _ => False) w w1 → _) := fun w1 u => hLeaf_any (s.m.same u) s.ok.inv a b
  simp only [h0, errV_zero] at HAC
  simp only [h1, h2, h3, errV_zero] at HLC
  have hst := HOk.state s.ok a b
  have HCO : Hid _ := fun w1 (u : Upd (fun _ => False) w w1) => told_one w1 (s.tab1 u) (hState h a b).1 hst.1 (by omega)
  have hs1 := numT_le (hState h a b).1 (by omega)
  rw [← TX_size] at hs1
  have HFC : Hid (∀ w1, Upd (fun _ => False) w w1 → _) := fun w1 u => hFrame_any (s.m.same u) (hLeaf h a b).1.fr
  simp only [h4, errV_zero] at HFC
  have hrf := HOk.refs s.ok (hLeaf h a b).1.fr
  have HCF : Hid _ := fun w1 (u : Upd (fun _ => False) w w1) => told_one w1 (s.tab1 u) (h.s.of (hLeaf h a b).1.fr).2.1 hrf.2.2.1 (by omega)
  have hs2 := numT_le (h.s.of (hLeaf h a b).1.fr).2.1 (by omega)
  rw [← TX_size] at hs2
  have hz : ¬ 9223372036854775807 < (TX (numT (hState h a b).1)).size + 5 := by omega
  have hz2 : ¬ 9223372036854775807 < (TX (numT (hState h a b).1)).size + 5 + (TX (numT (h.s.of (hLeaf h a b).1.fr).2.1)).size := by omega
  have HRF : Hid (0 ≤ (h.s.of (hLeaf h a b).1.fr).2.1 ∧ (h.s.of (hLeaf h a b).1.fr).2.1 ≤ 64) := ⟨hrf.2.2.1, hrf.2.2.2.1⟩
  generalize (h.s.of (hLeaf h a b).1.fr).2.1 = rf at *
  generalize (h.s.of (hLeaf h a b).1.fr).1 = cl at *
  generalize (hLeaf h a b).1.fr = fr at *
  clear s h0 h1 h2 h3 h4 hrf
  generalize (hState h a b).1 = st at *
  go_enter Tryz.func63, Tryz.ntmps63
  go_wp2_with fail
  refine Calls.mono (HAC.out _ ((Upd.refl _ _).alloc _)) ?_
  rintro e w2 ⟨rfl, hu2⟩
  have HU2 : Hid (Upd (fun _ => False) w w2) := ((Upd.refl _ _).alloc _).trans hu2 (fun _ _ f => f)
  have q2 : w2.cell? ⟨w.heap.size, 0, none⟩ = some (.pointer (some ⟨bh, 0, none⟩)) := hu2.cell (by rw [World.cell?_alloc_new]; rfl) (fun f => f)
  clear hu2 HAC
  generalize w.heap.size = q at *
  go_wp2_with fail
  refine Calls.mono (HLC.out _ HU2.out) ?_
  rintro e w3 ⟨rfl, hu3⟩
  have HU3 : Hid (Upd (fun _ => False) w w3) := HU2.out.trans hu3 (fun _ _ f => f)
  have q3 := hu3.cell q2 (fun f => f)
  obtain ⟨y0, y1, y2, z0, z1, z2⟩ := box0 w3 92
  clear hu3 HLC q2 HU2
  have LX : LfAt (w3.alloc (.cells #[.bool true, .bool true, .int .i64 fr] 92)) w3.heap.size ⟨true, true, fr⟩ := LfAt.new w3 92 ⟨true, true, fr⟩
  have HLX : Hid _ := LX
  have HU4 : Hid (Upd (fun _ => False) w (w3.alloc (.cells #[.bool true, .bool true, .int .i64 fr] 92))) := HU3.out.alloc _
  have HQ4 : Hid ((w3.alloc (.cells #[.bool true, .bool true, .int .i64 fr] 92)).cell? ⟨q, 0, none⟩ = some (.pointer (some ⟨bh, 0, none⟩))) := ((Upd.refl (fun _ => False) w3).alloc _).cell q3 (fun f => f)
  have hq3 := World.block_lt_of_cell? w3 _ q3
  simp only at hq3
  clear LX HU3
  go_wp2_with fail
  clear y0 y1 y2 z0 z1 z2 q3 hq3
  revert HLX HU4 HQ4
  generalize w3.alloc (.cells #[.bool true, .bool true, .int .i64 fr] 92) = w4
  generalize w3.heap.size = q5
  intro HLX HU4 HQ4
  refine Calls.mono (HFC.out _ HU4.out) ?_
  rintro e w5 ⟨rfl, hu5⟩
  have HU5 : Hid (Upd (fun _ => False) w w5) := HU4.out.trans hu5 (fun _ _ f => f)
  have LX5 := HLX.out.upd hu5 (fun f => f)
  have l1 := LX5.c1
  simp only at l1
  obtain ⟨y0, y1, z0, z1⟩ := boxF w5
  have F6 : FrAt (w5.alloc (.cells #[.int .i64 cl, .int .i64 rf] 67)) w5.heap.size cl rf := FrAt.new w5 cl rf
  have HF6 : Hid _ := F6
  have HU6 : Hid (Upd (fun _ => False) w (w5.alloc (.cells #[.int .i64 cl, .int .i64 rf] 67))) := HU5.out.alloc _
  have h5l := World.block_lt_of_cell? w5 _ l1
  simp only at h5l
  clear hu5 HFC HU5 HLX HU4 HQ4 LX5 F6
  go_wp2_with fail
  clear y0 y1 z0 z1 l1 h5l
  have HC1 : Hid (∀ w1 g, Upd (fun _ => False) w w1 → w1.cell? ⟨g, 0, none⟩ = some (.int .i64 st) → _) := fun w1 g u hc => told_at w1 (HS0.out.tab1 u) g st hst.1 (by omega) hc
  have HC2 : Hid (∀ w1 g, Upd (fun _ => False) w w1 → w1.cell? ⟨g, 0, none⟩ = some (.int .i64 rf) → _) := fun w1 g u hc => told_at w1 (HS0.out.tab1 u) g rf HRF.out.1 (by have := HRF.out.2; omega) hc
  revert HF6 HU6
  generalize w5.alloc (.cells #[.int .i64 cl, .int .i64 rf] 67) = w6
  generalize w5.heap.size = q6
  intro HF6 HU6
  have f1 := HF6.out.c1
  have hq6 := World.block_lt_of_cell? w6 _ f1
  simp only at hq6
  go_region_with (first
    | (go_at_call 51; refine Calls.mono (HC1.out _ _ (by repeat (first | exact HU6.out | apply Upd.drew | apply Upd.alloc)) (by first | exact cellA _ _ _ | exact cellA' _ _ _ | exact cellB _ _ _ _ | exact cellC _ _ _ _)) ?_; rintro e w8 ⟨rfl, hu8⟩; have f8 : w8.cell? ⟨q6, 1, none⟩ = some (.int .i64 rf) := hu8.cell (by first | exact ((Upd.refl (fun _ => False) w6).alloc _).drew.cell f1 (fun f => f) | exact (((Upd.refl (fun _ => False) w6).alloc _).alloc _).drew.cell f1 (fun f => f)) (fun f => f); have U8 : Upd (fun _ => False) w w8 := Upd.trans (by repeat (first | exact HU6.out | apply Upd.drew | apply Upd.alloc)) hu8 (fun _ _ f => f); have R8 : Hid (∀ g v, _ → w8.cell? ⟨g, 0, none⟩ = some v) := fun g v hc => hu8.cell hc (fun f => f); have l8 := World.block_lt_of_cell? w8 _ f8; simp only at l8)
    | (go_at_call 51; refine Calls.mono (HC2.out _ _ (by repeat (first | exact U8 | apply Upd.drew | apply Upd.alloc)) (by first | exact cellA _ _ _ | exact cellA' _ _ _ | exact R8.out _ _ (cellB _ _ _ _) | exact R8.out _ _ (cellC _ _ _ _))) ?_; rintro e w9 ⟨rfl, hu9⟩; have U9 : Upd (fun _ => False) w w9 := Upd.trans (by repeat (first | exact U8 | apply Upd.drew | apply Upd.alloc)) hu9 (fun _ _ f => f)))
  all_goals clear HC1 HC2
  all_goals go_wp2_with fail
  all_goals go_ret2
  all_goals exact ⟨by rw [← TX_append, ← TX_append]; rfl, (PM.refl HS0.out.m).more U9⟩
end Go.Proofs.YtadpibcgjgcjhabGreatDoor
