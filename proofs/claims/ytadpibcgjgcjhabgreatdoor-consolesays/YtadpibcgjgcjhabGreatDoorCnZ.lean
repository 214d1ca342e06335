/- The console's page, sealed. -/
import Derived.Test.YtadpibcgjgcjhabGreatDoorCnY
namespace Go.Proofs.YtadpibcgjgcjhabGreatDoor
open Go.ChangeShapes Go.WideShapes Go.ChangeAt Go.RowKit
set_option maxRecDepth 100000
attribute [local go_sem ↓] Go.wp_at_zero Go.wp_at_succ
variable {W w w1 w2 w3 w' : World} {bh bp bf : Nat} {G G' : Nat → G3} {h h2 : Hs} {n k : Nat}

set_option maxHeartbeats 4000000 in
theorem ppage_sealed (s : PS W w n k bh bp bf G h) (bm : Value) (a b : Int) (h0 : (hState h a b).2 = 0) (h1 : (hLeaf h a b).2 = 0) (h2 : (hLeaf h a b).1.there = true) (h3 : (hLeaf h a b).1.wr = false) (h4 : (h.s.of (hLeaf h a b).1.fr).2.2 = 0) : Calls Tryz.prog 63 #[.agg #[.pointer (some ⟨bh, 0, none⟩), bm], .int .i64 a, .int .i64 b] w fun e w2 => e = .returned (.tuple #[.string (TX (numT (hState h a b).1 ++ [32, 115, 101, 97, 108, 101, 100, 32] ++ numT (h.s.of (hLeaf h a b).1.fr).2.1)), .nilIface]) ∧ PM w w2 bh bp bf G h h := by
  have HS0 : Hid _ := s
  have HAC : Hid (∀ w1, Upd (fun _ => False) w w1 → _) := fun w1 u => hState_any (s.m.same u) s.ok.inv a b
  have HLC : Hid (∀ w1, Upd (fun _ => False) w w1 → _) := fun w1 u => hLeaf_any (s.m.same u) s.ok.inv a b
  simp only [h0, errV_zero] at HAC
  simp only [h1, h2, h3, errV_zero] at HLC
  have hst := HOk.state s.ok a b
  have HCO : Hid _ := fun w1 (u : Upd (fun _ => False) w w1) => told_one w1 (s.tab1 u) (hState h a b).1 hst.1 (by omega)
  have hs1 := numT_le (hState h a b).1 (by omega)
  rw [← TX_size] at hs1
  have HFC : Hid (∀ w1, Upd (fun _ => False) w w1 → _) := fun w1 u => hFrame_any (s.m.same u) (hLeaf h a b).1.fr
  simp only [h4, errV_zero] at HFC
  have hrf := HOk.refs s.ok (hLeaf h a b).1.fr
  have HCF : Hid _ := fun w1 (u : Upd (fun _ => False) w w1) => told_one w1 (s.tab1 u) (h.s.of (hLeaf h a b).1.fr).2.1 hrf.2.2.1 (by omega)
  have hs2 := numT_le (h.s.of (hLeaf h a b).1.fr).2.1 (by omega)
  rw [← TX_size] at hs2
  have hz : ¬ 9223372036854775807 < (TX (numT (hState h a b).1)).size + 8 := by omega
  have hz2 : ¬ 9223372036854775807 < (TX (numT (hState h a b).1)).size + 8 + (TX (numT (h.s.of (hLeaf h a b).1.fr).2.1)).size := by omega
  have HRF : Hid (0 ≤ (h.s.of (hLeaf h a b).1.fr).2.1 ∧ (h.s.of (hLeaf h a b).1.fr).2.1 ≤ 64) := ⟨hrf.2.2.1, hrf.2.2.2.1⟩
  generalize (h.s.of (hLeaf h a b).1.fr).2.1 = rf at *
  generalize (h.s.of (hLeaf h a b).1.fr).1 = cl at *
  generalize (hLeaf h a b).1.fr = fr at *
  clear s h0 h1 h2 h3 h4 hrf
  generalize (hState h a b).1 = st at *
  go_enter Tryz.func63, Tryz.ntmps63
  go_wp2_with fail
  refine Calls.mono (HAC.out _ ((Upd.refl _ _).alloc _)) ?_
  rintro e w2 ⟨rfl, hu2⟩
  have HU2 : Hid (Upd (fun _ => False) w w2) := ((Upd.refl _ _).alloc _).trans hu2 (fun _ _ f => f)
  have q2 : w2.cell? ⟨w.heap.size, 0, none⟩ = some (.pointer (some ⟨bh, 0, none⟩)) := hu2.cell (by rw [World.cell?_alloc_new]; rfl) (fun f => f)
  clear hu2 HAC
  generalize w.heap.size = q at *
  go_wp2_with fail
  refine Calls.mono (HLC.out _ HU2.out) ?_
  rintro e w3 ⟨rfl, hu3⟩
  have HU3 : Hid (Upd (fun _ => False) w w3) := HU2.out.trans hu3 (fun _ _ f => f)
  have q3 := hu3.cell q2 (fun f => f)
  obtain ⟨y0, y1, y2, z0, z1, z2⟩ := box0 w3 92
  clear hu3 HLC q2 HU2
  have LX : LfAt (w3.alloc (.cells #[.bool true, .bool false, .int .i64 fr] 92)) w3.heap.size ⟨true, false, fr⟩ := LfAt.new w3 92 ⟨true, false, fr⟩
  have HLX : Hid _ := LX
  have HU4 : Hid (Upd (fun _ => False) w (w3.alloc (.cells #[.bool true, .bool false, .int .i64 fr] 92))) := HU3.out.alloc _
  have HQ4 : Hid ((w3.alloc (.cells #[.bool true, .bool false, .int .i64 fr] 92)).cell? ⟨q, 0, none⟩ = some (.pointer (some ⟨bh, 0, none⟩))) := ((Upd.refl (fun _ => False) w3).alloc _).cell q3 (fun f => f)
  have hq3 := World.block_lt_of_cell? w3 _ q3
  simp only at hq3
  clear LX HU3
  go_wp2_with fail
  clear y0 y1 y2 z0 z1 z2 q3 hq3
  revert HLX HU4 HQ4
  generalize w3.alloc (.cells #[.bool true, .bool false, .int .i64 fr] 92) = w4
  generalize w3.heap.size = q5
  intro HLX HU4 HQ4
  refine Calls.mono (HFC.out _ HU4.out) ?_
  rintro e w5 ⟨rfl, hu5⟩
  have HU5 : Hid (Upd (fun _ => False) w w5) := HU4.out.trans hu5 (fun _ _ f => f)
  have LX5 := HLX.out.upd hu5 (fun f => f)
  have l1 := LX5.c1
  simp only at l1
  obtain ⟨y0, y1, z0, z1⟩ := boxF w5
  have F6 : FrAt (w5.alloc (.cells #[.int .i64 cl, .int .i64 rf] 67)) w5.heap.size cl rf := FrAt.new w5 cl rf
  have HF6 : Hid _ := F6
  have HU6 : Hid (Upd (fun _ => False) w (w5.alloc (.cells #[.int .i64 cl, .int .i64 rf] 67))) := HU5.out.alloc _
  have h5l := World.block_lt_of_cell? w5 _ l1
  simp only at h5l
  clear hu5 HFC HU5 HLX HU4 HQ4 LX5 F6
  go_wp2_with fail
  clear y0 y1 z0 z1 l1 h5l
  have HC1 : Hid (∀ w1 g, Upd (fun _ => False) w w1 → w1.cell? ⟨g, 0, none⟩ = some (.int .i64 st) → _) := fun w1 g u hc => told_at w1 (HS0.out.tab1 u) g st hst.1 (by omega) hc
  have HC2 : Hid (∀ w1 g, Upd (fun _ => False) w w1 → w1.cell? ⟨g, 0, none⟩ = some (.int .i64 rf) → _) := fun w1 g u hc => told_at w1 (HS0.out.tab1 u) g rf HRF.out.1 (by have := HRF.out.2; omega) hc
  revert HF6 HU6
  generalize w5.alloc (.cells #[.int .i64 cl, .int .i64 rf] 67) = w6
  generalize w5.heap.size = q6
  intro HF6 HU6
  have f1 := HF6.out.c1
  have hq6 := World.block_lt_of_cell? w6 _ f1
  simp only at hq6
  go_region_with (first
    | (go_at_call 51; refine Calls.mono (HC1.out _ _ (by repeat (first | exact HU6.out | apply Upd.drew | apply Upd.alloc)) (by first | exact cellA _ _ _ | exact cellA' _ _ _ | exact cellB _ _ _ _ | exact cellC _ _ _ _)) ?_; rintro e w8 ⟨rfl, hu8⟩; have f8 : w8.cell? ⟨q6, 1, none⟩ = some (.int .i64 rf) := hu8.cell (by first | exact ((Upd.refl (fun _ => False) w6).alloc _).drew.cell f1 (fun f => f) | exact (((Upd.refl (fun _ => False) w6).alloc _).alloc _).drew.cell f1 (fun f => f)) (fun f => f); have U8 : Upd (fun _ => False) w w8 := Upd.trans (by repeat (first | exact HU6.out | apply Upd.drew | apply Upd.alloc)) hu8 (fun _ _ f => f); have R8 : Hid (∀ g v, _ → w8.cell? ⟨g, 0, none⟩ = some v) := fun g v hc => hu8.cell hc (fun f => f); have l8 := World.block_lt_of_cell? w8 _ f8; simp only at l8)
    | (go_at_call 51; refine Calls.mono (HC2.out _ _ (by repeat (first | exact U8 | apply Upd.drew | apply Upd.alloc)) (by first | exact cellA _ _ _ | exact cellA' _ _ _ | exact R8.out _ _ (cellB _ _ _ _) | exact R8.out _ _ (cellC _ _ _ _))) ?_; rintro e w9 ⟨rfl, hu9⟩; have U9 : Upd (fun _ => False) w w9 := Upd.trans (by repeat (first | exact U8 | apply Upd.drew | apply Upd.alloc)) hu9 (fun _ _ f => f)))
  all_goals clear HC1 HC2
  all_goals go_wp2_with fail
  all_goals go_ret2
  all_goals exact ⟨by rw [← TX_append, ← TX_append]; rfl, (PM.refl HS0.out.m).more U9⟩
end Go.Proofs.YtadpibcgjgcjhabGreatDoor
