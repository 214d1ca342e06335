/- The document's Host.Say, command by command (load, root, forget). -/
import Derived.Test.YtadpibcgjgcjhabGreatDoorPart22
import Derived.Test.YtadpibcgjgcjhabGreatDoorPart25
import Derived.Test.YtadpibcgjgcjhabGreatDoorPart26
namespace Go.Proofs.YtadpibcgjgcjhabGreatDoor
open Go.ChangeShapes Go.WideShapes Go.ChangeAt Go.RowKit
set_option maxRecDepth 100000
attribute [local go_sem ↓] Go.wp_at_zero Go.wp_at_succ
variable {W w w1 w2 w3 w' : World} {rh rm base : Nat} {bx bx2 : Nat → Nat} {v v2 : Nat → Value} {h h2 : Hs} {x : Gs} {n k j : Nat}

set_option maxHeartbeats 2000000 in
theorem Say_load (r : RHo w rh rm base bx v h) (ok : HOk h n k) (hk : k ≤ 1000) (s : ByteArray) (hs : s.size ≤ 200) (args : List (List UInt8)) (hw : wordsL s.data.toList = kLoad :: args) (hl : args.length = 2) (ms : List Int) (hn : args.mapM numW = some ms) :
    Calls Tryz.prog 8 #[.pointer (some ⟨rh, 0, none⟩), .string s] w (DP w rh rm base bx h (ansL h kLoad (ms.getD 0 0) (ms.getD 1 0) (ms.getD 2 0))) := by
  rw [ans_load]
  have HR : Hid _ := r
  have HOK : Hid _ := ok
  have HKK : Hid _ := hk
  have HW : Hid _ := words_any w s (by omega)
  rw [hw] at HW
  have HM : Hid (∀ w, Calls Tryz.prog 14 #[.string (TX kLoad)] w fun e w' => e = .returned (.int .i64 (args.length : Int)) ∧ w' = w) := fun w => by
    rw [hl]
    exact many_load w
  have HMS : Hid _ := hn
  have ht0 : (TX kLoad).toList = [108, 111, 97, 100] := TX_toList _
  have hz : s.size = s.data.toList.length := (Array.length_toList (xs := s.data)).symm
  have HA : Hid (∀ i, i < args.length → (TX (args.getD i [])).size ≤ 300) := fun i hi => by
    have := words_len s.data.toList (args.getD i []) (by rw [hw, List.getD_eq_getElem?_getD, List.getElem?_eq_getElem hi]; exact List.mem_cons_of_mem _ (List.getElem_mem hi))
    rw [TX_size]
    omega
  have h3 : args.length ≤ 3 := by omega
  clear r hw hn hz ok hk
  have HLL : Hid _ := hl
  clear hl
  have hI : ((args.length : Int) != (args.length : Int)) = false := by simp
  have hI2 : decide (200 < (s.size : Int)) = false := by simp; omega
  go_enter Tryz.func8, Tryz.ntmps8
  go_wp2_with fail
  refine Calls.mono HW.out ?_
  rintro e w2 ⟨v2, rfl, hs2, hu2⟩
  obtain ⟨a, cap, rfl, ht, hbs⟩ := hs2.txAt
  obtain ⟨g, o, rfl, hg, hc⟩ := ht 0 (by rw [txs_length]; simp)
  rw [txs_get (by simp), Nat.add_zero] at hc
  rw [txs_length]
  simp only [List.getD_cons_zero, List.length_cons] at hc ⊢
  have HT : Hid (TxAt w2 (some ⟨g, o, none⟩) (txs (kLoad :: args))) := ht
  have HBS : Hid (w.heap.size ≤ g) := hbs g o rfl
  have HU2 : Hid _ := hu2
  clear hs2 ht hbs HW hu2
  go_wp2_with (first
    | (go_at_call 14; refine Calls.mono (HM.out _) ?_; rintro e w3 ⟨rfl, hw3⟩; subst hw3))
  have N0 : NAt (w3.alloc (.cells #[.int .i64 0, .int .i64 0, .int .i64 0] 56)) w3.heap.size [] := NAt.new w3 _
  have HU3 : Hid (Upd (fun _ => False) w (w3.alloc (.cells #[.int .i64 0, .int .i64 0, .int .i64 0] 56))) := HU2.out.alloc _
  have HT3 : Hid (TxAt (w3.alloc (.cells #[.int .i64 0, .int .i64 0, .int .i64 0] 56)) (some ⟨g, o, none⟩) (txs (kLoad :: args))) := HT.out.upd ((Upd.refl (fun _ => False) w3).alloc _) (fun _ _ _ f => f)
  have hqg : g < w3.heap.size := hg
  have HQW : Hid (w.heap.size ≤ w3.heap.size) := HU2.out.size
  have HN0 : Hid _ := N0
  clear HT hc hg N0
  revert HN0 HU3 HT3
  generalize w3.alloc (.cells #[.int .i64 0, .int .i64 0, .int .i64 0] 56) = wb
  generalize w3.heap.size = q at *
  intro HU3 HT3 HN0
  go_loopg [7] args.length (fun gk iv wr => ∃ (k : Nat) (ns : List Int), k + gk = args.length ∧ iv = .int .i64 ((k : Int) + 1) ∧ Hid (RdAt args k ns) ∧ Hid (NAt wr q ns) ∧ Hid (TxAt wr (some ⟨g, o, none⟩) (txs (kLoad :: args))) ∧ Hid (Upd (fun _ => False) w wr))
  case atStart => exact ⟨0, [], by omega, by rfl, RdAt.start _, HN0.out, HT3.out, HU3.out⟩
  case round =>
    clear HN0 HU3 HT3
    obtain ⟨k, ns, hk, rfl, HD, HQ, HT, HU⟩ := hrel
    have HK : Hid _ := hk
    clear hk
    by_cases hlt : k < args.length
    · obtain ⟨g', o', e, _, hc⟩ := HT.out (k + 1) (by rw [txs_length]; simp; exact hlt)
      cases e
      rw [txs_get (by simp; exact hlt), List.getD_cons_succ] at hc
      have HFI : Hid _ := fun w => figures_any w (TX (args.getD k [])) (HA.out k hlt)
      cases hx : numW (args.getD k []) with
      | none =>
        have := read_bad hlt hx
        rw [HMS.out] at this
        cases this
      | some y =>
        have HX : Hid (numW (TX (args.getD k [])).data.toList = some y) := hx
        have HD2 : Hid _ := HD.out.next hlt hx
        have hnl := HD.out.len
        clear hx
        generalize TX (args.getD k []) = word at *
        go_wp2_with fail
        refine Calls.mono (HFI.out _) ?_
        rintro e w4 ⟨⟨x, ok, rfl, hok, _⟩, hu4⟩
        obtain ⟨rfl, rfl⟩ := hok _ HX.out
        have HQ4 : Hid (NAt w4 q ns) := HQ.out.upd hu4 (fun f => f)
        have hck := HQ4.out.at (k := k) (by omega)
        have hfz := HQ4.out.fz k
        have HP : Hid (NAt (w4.setCell ⟨q, k, none⟩ (.int .i64 x)) q (ns ++ [x])) := by
          have := HQ4.out.put x (by omega)
          rw [hnl] at this
          exact this
        have HU4 : Hid (Upd (fun _ => False) w (w4.setCell ⟨q, k, none⟩ (.int .i64 x))) := (HU.out.trans hu4 (fun _ _ f => f)).setCell _ (fun e => by have := HQW.out; simp only at e; omega) _
        have HT4 : Hid (TxAt (w4.setCell ⟨q, k, none⟩ (.int .i64 x)) (some ⟨g, o, none⟩) (txs (kLoad :: args))) := (HT.out.upd hu4 (fun _ _ _ f => f)).upd (Upd.one w4 q k (.int .i64 x)) (fun g' o' e => by cases e; omega)
        clear hu4 hc
        go_wp2_with fail
        go_roundg (args.length - (k + 1))
        case rel => exact ⟨k + 1, ns ++ [x], by omega, by go_num, HD2.out, HP.out, HT4.out, HU4.out⟩
        case measure => have := HK.out; omega
    · have hke : k = args.length := by have := HK.out; omega
      have hns : ns = ms := by have := HD.out; rw [hke] at this; exact this.fin HMS.out
      subst hns
      obtain ⟨g', o', e, _, hc⟩ := HT.out 0 (by rw [txs_length]; simp)
      cases e
      rw [txs_get (by simp), Nat.add_zero, List.getD_cons_zero] at hc
      have n0 := HQ.out.c0
      have n1 := HQ.out.c1
      have n2 := HQ.out.c2
      have HRW : Hid (RHo wr rh rm base bx v h) := HR.out.same HU.out
      have c0 := HRW.out.c0
      clear HD HQ HT hke HMS HA HM
      generalize ns.getD 0 0 = a at *
      generalize ns.getD 1 0 = b at *
      generalize ns.getD 2 0 = c at *
      have HWH : Hid _ := rWho_any HRW.out a
      go_wp2_with fail
      refine Calls.mono HWH.out ?_
      rintro e w5 ⟨rfl, m5, hw5⟩
      have HU5 : Hid (Upd (fun _ => False) wr w5) := show Upd _ _ _ by rw [hw5]; exact (Upd.refl _ _).drewN m5
      have hc5 := HU5.out.cell hc (fun f => f)
      have c05 := HU5.out.cell c0 (fun f => f)
      have n05 := HU5.out.cell n0 (fun f => f)
      have n15 := HU5.out.cell n1 (fun f => f)
      have n25 := HU5.out.cell n2 (fun f => f)
      have HRW5 : Hid (RHo w5 rh rm base bx v h) := HRW.out.same HU5.out
      have hwc := who_code h a
      clear hw5 HWH hc c0 n0 n1 n2 HRW
      by_cases h0 : 0 < hWho h a
      · have hv9 : whoV h bx a = .pointer none := by unfold whoV; rw [if_pos h0]
        rw [hv9]
        have d0 : decide (0 < hWho h a) = true := by simp; exact h0
        have HF : Hid _ := fun w => fault_any w (hWho h a) hwc.1 (by omega)
        go_wp2_with (first
          | (go_at_call 15; refine Calls.mono (HF.out _) ?_; rintro e w9 ⟨rfl, hu9⟩))
        go_ret
        rw [cload_no h0]
        exact (DM.more (DM.more (DM.more (DM.refl HR.out) HU.out) HU5.out) hu9).fin
      · obtain ⟨j, y, rfl, hj4, hy, hat⟩ := hWho_zero (show hWho h a = 0 by omega)
        have hv9 : whoV h bx (j : Int) = .pointer (some ⟨bx j, 0, none⟩) := by unfold whoV; rw [if_neg h0, Int.toNat_natCast]
        have d0 : decide (0 < hWho h (j : Int)) = false := by simp; omega
        rw [hv9]
        have HSY : Hid (∀ w1, Upd (fun _ => False) w5 w1 → _) := fun w1 u => say_load (HRW5.out.same u) HOK.out HKK.out hy hj4 (j : Int) b c
        clear hv9 hat
        have HS0 : Hid _ := HSY.out w5.drew (Upd.refl _ _).drew
        have HS1 : Hid _ := HSY.out w5 (Upd.refl _ _)
        clear HSY
        go_wp2_with fail
        go_region_with (first
          | (go_at_call 32; refine Calls.mono HS0.out ?_; rintro e w6 ⟨rfl, hex6, hup6⟩; have hd6 := DM.fore ((Upd.refl (fun _ => False) w5).drew) (DM.mk hex6 hup6))
          | (go_at_call 32; refine Calls.mono HS1.out ?_; rintro e w6 ⟨rfl, hex6, hup6⟩; have hd6 := DM.mk hex6 hup6))
        all_goals go_wp2_with fail
        all_goals go_ret
        all_goals exact (DM.fore HU.out (DM.fore HU5.out hd6)).fin
set_option maxHeartbeats 2000000 in
theorem Say_root (r : RHo w rh rm base bx v h) (ok : HOk h n k) (hk : k ≤ 1000) (s : ByteArray) (hs : s.size ≤ 200) (args : List (List UInt8)) (hw : wordsL s.data.toList = kRoot :: args) (hl : args.length = 2) (ms : List Int) (hn : args.mapM numW = some ms) :
    Calls Tryz.prog 8 #[.pointer (some ⟨rh, 0, none⟩), .string s] w (DP w rh rm base bx h (ansL h kRoot (ms.getD 0 0) (ms.getD 1 0) (ms.getD 2 0))) := by
  rw [ans_root]
  have HR : Hid _ := r
  have HOK : Hid _ := ok
  have HKK : Hid _ := hk
  have HW : Hid _ := words_any w s (by omega)
  rw [hw] at HW
  have HM : Hid (∀ w, Calls Tryz.prog 14 #[.string (TX kRoot)] w fun e w' => e = .returned (.int .i64 (args.length : Int)) ∧ w' = w) := fun w => by
    rw [hl]
    exact many_root w
  have HMS : Hid _ := hn
  have ht0 : (TX kRoot).toList = [114, 111, 111, 116] := TX_toList _
  have hz : s.size = s.data.toList.length := (Array.length_toList (xs := s.data)).symm
  have HA : Hid (∀ i, i < args.length → (TX (args.getD i [])).size ≤ 300) := fun i hi => by
    have := words_len s.data.toList (args.getD i []) (by rw [hw, List.getD_eq_getElem?_getD, List.getElem?_eq_getElem hi]; exact List.mem_cons_of_mem _ (List.getElem_mem hi))
    rw [TX_size]
    omega
  have h3 : args.length ≤ 3 := by omega
  clear r hw hn hz ok hk
  have HLL : Hid _ := hl
  clear hl
  have hI : ((args.length : Int) != (args.length : Int)) = false := by simp
  have hI2 : decide (200 < (s.size : Int)) = false := by simp; omega
  go_enter Tryz.func8, Tryz.ntmps8
  go_wp2_with fail
  refine Calls.mono HW.out ?_
  rintro e w2 ⟨v2, rfl, hs2, hu2⟩
  obtain ⟨a, cap, rfl, ht, hbs⟩ := hs2.txAt
  obtain ⟨g, o, rfl, hg, hc⟩ := ht 0 (by rw [txs_length]; simp)
  rw [txs_get (by simp), Nat.add_zero] at hc
  rw [txs_length]
  simp only [List.getD_cons_zero, List.length_cons] at hc ⊢
  have HT : Hid (TxAt w2 (some ⟨g, o, none⟩) (txs (kRoot :: args))) := ht
  have HBS : Hid (w.heap.size ≤ g) := hbs g o rfl
  have HU2 : Hid _ := hu2
  clear hs2 ht hbs HW hu2
  go_wp2_with (first
    | (go_at_call 14; refine Calls.mono (HM.out _) ?_; rintro e w3 ⟨rfl, hw3⟩; subst hw3))
  have N0 : NAt (w3.alloc (.cells #[.int .i64 0, .int .i64 0, .int .i64 0] 56)) w3.heap.size [] := NAt.new w3 _
  have HU3 : Hid (Upd (fun _ => False) w (w3.alloc (.cells #[.int .i64 0, .int .i64 0, .int .i64 0] 56))) := HU2.out.alloc _
  have HT3 : Hid (TxAt (w3.alloc (.cells #[.int .i64 0, .int .i64 0, .int .i64 0] 56)) (some ⟨g, o, none⟩) (txs (kRoot :: args))) := HT.out.upd ((Upd.refl (fun _ => False) w3).alloc _) (fun _ _ _ f => f)
  have hqg : g < w3.heap.size := hg
  have HQW : Hid (w.heap.size ≤ w3.heap.size) := HU2.out.size
  have HN0 : Hid _ := N0
  clear HT hc hg N0
  revert HN0 HU3 HT3
  generalize w3.alloc (.cells #[.int .i64 0, .int .i64 0, .int .i64 0] 56) = wb
  generalize w3.heap.size = q at *
  intro HU3 HT3 HN0
  go_loopg [7] args.length (fun gk iv wr => ∃ (k : Nat) (ns : List Int), k + gk = args.length ∧ iv = .int .i64 ((k : Int) + 1) ∧ Hid (RdAt args k ns) ∧ Hid (NAt wr q ns) ∧ Hid (TxAt wr (some ⟨g, o, none⟩) (txs (kRoot :: args))) ∧ Hid (Upd (fun _ => False) w wr))
  case atStart => exact ⟨0, [], by omega, by rfl, RdAt.start _, HN0.out, HT3.out, HU3.out⟩
  case round =>
    clear HN0 HU3 HT3
    obtain ⟨k, ns, hk, rfl, HD, HQ, HT, HU⟩ := hrel
    have HK : Hid _ := hk
    clear hk
    by_cases hlt : k < args.length
    · obtain ⟨g', o', e, _, hc⟩ := HT.out (k + 1) (by rw [txs_length]; simp; exact hlt)
      cases e
      rw [txs_get (by simp; exact hlt), List.getD_cons_succ] at hc
      have HFI : Hid _ := fun w => figures_any w (TX (args.getD k [])) (HA.out k hlt)
      cases hx : numW (args.getD k []) with
      | none =>
        have := read_bad hlt hx
        rw [HMS.out] at this
        cases this
      | some y =>
        have HX : Hid (numW (TX (args.getD k [])).data.toList = some y) := hx
        have HD2 : Hid _ := HD.out.next hlt hx
        have hnl := HD.out.len
        clear hx
        generalize TX (args.getD k []) = word at *
        go_wp2_with fail
        refine Calls.mono (HFI.out _) ?_
        rintro e w4 ⟨⟨x, ok, rfl, hok, _⟩, hu4⟩
        obtain ⟨rfl, rfl⟩ := hok _ HX.out
        have HQ4 : Hid (NAt w4 q ns) := HQ.out.upd hu4 (fun f => f)
        have hck := HQ4.out.at (k := k) (by omega)
        have hfz := HQ4.out.fz k
        have HP : Hid (NAt (w4.setCell ⟨q, k, none⟩ (.int .i64 x)) q (ns ++ [x])) := by
          have := HQ4.out.put x (by omega)
          rw [hnl] at this
          exact this
        have HU4 : Hid (Upd (fun _ => False) w (w4.setCell ⟨q, k, none⟩ (.int .i64 x))) := (HU.out.trans hu4 (fun _ _ f => f)).setCell _ (fun e => by have := HQW.out; simp only at e; omega) _
        have HT4 : Hid (TxAt (w4.setCell ⟨q, k, none⟩ (.int .i64 x)) (some ⟨g, o, none⟩) (txs (kRoot :: args))) := (HT.out.upd hu4 (fun _ _ _ f => f)).upd (Upd.one w4 q k (.int .i64 x)) (fun g' o' e => by cases e; omega)
        clear hu4 hc
        go_wp2_with fail
        go_roundg (args.length - (k + 1))
        case rel => exact ⟨k + 1, ns ++ [x], by omega, by go_num, HD2.out, HP.out, HT4.out, HU4.out⟩
        case measure => have := HK.out; omega
    · have hke : k = args.length := by have := HK.out; omega
      have hns : ns = ms := by have := HD.out; rw [hke] at this; exact this.fin HMS.out
      subst hns
      obtain ⟨g', o', e, _, hc⟩ := HT.out 0 (by rw [txs_length]; simp)
      cases e
      rw [txs_get (by simp), Nat.add_zero, List.getD_cons_zero] at hc
      have n0 := HQ.out.c0
      have n1 := HQ.out.c1
      have n2 := HQ.out.c2
      have HRW : Hid (RHo wr rh rm base bx v h) := HR.out.same HU.out
      have c0 := HRW.out.c0
      clear HD HQ HT hke HMS HA HM
      generalize ns.getD 0 0 = a at *
      generalize ns.getD 1 0 = b at *
      generalize ns.getD 2 0 = c at *
      have HWH : Hid _ := rWho_any HRW.out a
      go_wp2_with fail
      refine Calls.mono HWH.out ?_
      rintro e w5 ⟨rfl, m5, hw5⟩
      have HU5 : Hid (Upd (fun _ => False) wr w5) := show Upd _ _ _ by rw [hw5]; exact (Upd.refl _ _).drewN m5
      have hc5 := HU5.out.cell hc (fun f => f)
      have c05 := HU5.out.cell c0 (fun f => f)
      have n05 := HU5.out.cell n0 (fun f => f)
      have n15 := HU5.out.cell n1 (fun f => f)
      have n25 := HU5.out.cell n2 (fun f => f)
      have HRW5 : Hid (RHo w5 rh rm base bx v h) := HRW.out.same HU5.out
      have hwc := who_code h a
      clear hw5 HWH hc c0 n0 n1 n2 HRW
      by_cases h0 : 0 < hWho h a
      · have hv9 : whoV h bx a = .pointer none := by unfold whoV; rw [if_pos h0]
        rw [hv9]
        have d0 : decide (0 < hWho h a) = true := by simp; exact h0
        have HF : Hid _ := fun w => fault_any w (hWho h a) hwc.1 (by omega)
        go_wp2_with (first
          | (go_at_call 15; refine Calls.mono (HF.out _) ?_; rintro e w9 ⟨rfl, hu9⟩))
        go_ret
        rw [croot_no h0]
        exact (DM.more (DM.more (DM.more (DM.refl HR.out) HU.out) HU5.out) hu9).fin
      · obtain ⟨j, y, rfl, hj4, hy, hat⟩ := hWho_zero (show hWho h a = 0 by omega)
        have hv9 : whoV h bx (j : Int) = .pointer (some ⟨bx j, 0, none⟩) := by unfold whoV; rw [if_neg h0, Int.toNat_natCast]
        have d0 : decide (0 < hWho h (j : Int)) = false := by simp; omega
        rw [hv9]
        have HSY : Hid (∀ w1, Upd (fun _ => False) w5 w1 → _) := fun w1 u => say_root (HRW5.out.same u) HOK.out HKK.out hy hj4 (j : Int) b c
        clear hv9 hat
        have HS0 : Hid _ := HSY.out w5.drew (Upd.refl _ _).drew
        have HS1 : Hid _ := HSY.out w5 (Upd.refl _ _)
        clear HSY
        go_wp2_with fail
        go_region_with (first
          | (go_at_call 32; refine Calls.mono HS0.out ?_; rintro e w6 ⟨rfl, hex6, hup6⟩; have hd6 := DM.fore ((Upd.refl (fun _ => False) w5).drew) (DM.mk hex6 hup6))
          | (go_at_call 32; refine Calls.mono HS1.out ?_; rintro e w6 ⟨rfl, hex6, hup6⟩; have hd6 := DM.mk hex6 hup6))
        all_goals go_wp2_with fail
        all_goals go_ret
        all_goals exact (DM.fore HU.out (DM.fore HU5.out hd6)).fin
set_option maxHeartbeats 2000000 in
theorem Say_forget (r : RHo w rh rm base bx v h) (ok : HOk h n k) (hk : k ≤ 1000) (s : ByteArray) (hs : s.size ≤ 200) (args : List (List UInt8)) (hw : wordsL s.data.toList = kForget :: args) (hl : args.length = 2) (ms : List Int) (hn : args.mapM numW = some ms) :
    Calls Tryz.prog 8 #[.pointer (some ⟨rh, 0, none⟩), .string s] w (DP w rh rm base bx h (ansL h kForget (ms.getD 0 0) (ms.getD 1 0) (ms.getD 2 0))) := by
  rw [ans_forget]
  have HR : Hid _ := r
  have HOK : Hid _ := ok
  have HKK : Hid _ := hk
  have HW : Hid _ := words_any w s (by omega)
  rw [hw] at HW
  have HM : Hid (∀ w, Calls Tryz.prog 14 #[.string (TX kForget)] w fun e w' => e = .returned (.int .i64 (args.length : Int)) ∧ w' = w) := fun w => by
    rw [hl]
    exact many_forget w
  have HMS : Hid _ := hn
  have ht0 : (TX kForget).toList = [102, 111, 114, 103, 101, 116] := TX_toList _
  have hz : s.size = s.data.toList.length := (Array.length_toList (xs := s.data)).symm
  have HA : Hid (∀ i, i < args.length → (TX (args.getD i [])).size ≤ 300) := fun i hi => by
    have := words_len s.data.toList (args.getD i []) (by rw [hw, List.getD_eq_getElem?_getD, List.getElem?_eq_getElem hi]; exact List.mem_cons_of_mem _ (List.getElem_mem hi))
    rw [TX_size]
    omega
  have h3 : args.length ≤ 3 := by omega
  clear r hw hn hz ok hk
  have HLL : Hid _ := hl
  clear hl
  have hI : ((args.length : Int) != (args.length : Int)) = false := by simp
  have hI2 : decide (200 < (s.size : Int)) = false := by simp; omega
  go_enter Tryz.func8, Tryz.ntmps8
  go_wp2_with fail
  refine Calls.mono HW.out ?_
  rintro e w2 ⟨v2, rfl, hs2, hu2⟩
  obtain ⟨a, cap, rfl, ht, hbs⟩ := hs2.txAt
  obtain ⟨g, o, rfl, hg, hc⟩ := ht 0 (by rw [txs_length]; simp)
  rw [txs_get (by simp), Nat.add_zero] at hc
  rw [txs_length]
  simp only [List.getD_cons_zero, List.length_cons] at hc ⊢
  have HT : Hid (TxAt w2 (some ⟨g, o, none⟩) (txs (kForget :: args))) := ht
  have HBS : Hid (w.heap.size ≤ g) := hbs g o rfl
  have HU2 : Hid _ := hu2
  clear hs2 ht hbs HW hu2
  go_wp2_with (first
    | (go_at_call 14; refine Calls.mono (HM.out _) ?_; rintro e w3 ⟨rfl, hw3⟩; subst hw3))
  have N0 : NAt (w3.alloc (.cells #[.int .i64 0, .int .i64 0, .int .i64 0] 56)) w3.heap.size [] := NAt.new w3 _
  have HU3 : Hid (Upd (fun _ => False) w (w3.alloc (.cells #[.int .i64 0, .int .i64 0, .int .i64 0] 56))) := HU2.out.alloc _
  have HT3 : Hid (TxAt (w3.alloc (.cells #[.int .i64 0, .int .i64 0, .int .i64 0] 56)) (some ⟨g, o, none⟩) (txs (kForget :: args))) := HT.out.upd ((Upd.refl (fun _ => False) w3).alloc _) (fun _ _ _ f => f)
  have hqg : g < w3.heap.size := hg
  have HQW : Hid (w.heap.size ≤ w3.heap.size) := HU2.out.size
  have HN0 : Hid _ := N0
  clear HT hc hg N0
  revert HN0 HU3 HT3
  generalize w3.alloc (.cells #[.int .i64 0, .int .i64 0, .int .i64 0] 56) = wb
  generalize w3.heap.size = q at *
  intro HU3 HT3 HN0
  go_loopg [7] args.length (fun gk iv wr => ∃ (k : Nat) (ns : List Int), k + gk = args.length ∧ iv = .int .i64 ((k : Int) + 1) ∧ Hid (RdAt args k ns) ∧ Hid (NAt wr q ns) ∧ Hid (TxAt wr (some ⟨g, o, none⟩) (txs (kForget :: args))) ∧ Hid (Upd (fun _ => False) w wr))
  case atStart => exact ⟨0, [], by omega, by rfl, RdAt.start _, HN0.out, HT3.out, HU3.out⟩
  case round =>
    clear HN0 HU3 HT3
    obtain ⟨k, ns, hk, rfl, HD, HQ, HT, HU⟩ := hrel
    have HK : Hid _ := hk
    clear hk
    by_cases hlt : k < args.length
    · obtain ⟨g', o', e, _, hc⟩ := HT.out (k + 1) (by rw [txs_length]; simp; exact hlt)
      cases e
      rw [txs_get (by simp; exact hlt), List.getD_cons_succ] at hc
      have HFI : Hid _ := fun w => figures_any w (TX (args.getD k [])) (HA.out k hlt)
      cases hx : numW (args.getD k []) with
      | none =>
        have := read_bad hlt hx
        rw [HMS.out] at this
        cases this
      | some y =>
        have HX : Hid (numW (TX (args.getD k [])).data.toList = some y) := hx
        have HD2 : Hid _ := HD.out.next hlt hx
        have hnl := HD.out.len
        clear hx
        generalize TX (args.getD k []) = word at *
        go_wp2_with fail
        refine Calls.mono (HFI.out _) ?_
        rintro e w4 ⟨⟨x, ok, rfl, hok, _⟩, hu4⟩
        obtain ⟨rfl, rfl⟩ := hok _ HX.out
        have HQ4 : Hid (NAt w4 q ns) := HQ.out.upd hu4 (fun f => f)
        have hck := HQ4.out.at (k := k) (by omega)
        have hfz := HQ4.out.fz k
        have HP : Hid (NAt (w4.setCell ⟨q, k, none⟩ (.int .i64 x)) q (ns ++ [x])) := by
          have := HQ4.out.put x (by omega)
          rw [hnl] at this
          exact this
        have HU4 : Hid (Upd (fun _ => False) w (w4.setCell ⟨q, k, none⟩ (.int .i64 x))) := (HU.out.trans hu4 (fun _ _ f => f)).setCell _ (fun e => by have := HQW.out; simp only at e; omega) _
        have HT4 : Hid (TxAt (w4.setCell ⟨q, k, none⟩ (.int .i64 x)) (some ⟨g, o, none⟩) (txs (kForget :: args))) := (HT.out.upd hu4 (fun _ _ _ f => f)).upd (Upd.one w4 q k (.int .i64 x)) (fun g' o' e => by cases e; omega)
        clear hu4 hc
        go_wp2_with fail
        go_roundg (args.length - (k + 1))
        case rel => exact ⟨k + 1, ns ++ [x], by omega, by go_num, HD2.out, HP.out, HT4.out, HU4.out⟩
        case measure => have := HK.out; omega
    · have hke : k = args.length := by have := HK.out; omega
      have hns : ns = ms := by have := HD.out; rw [hke] at this; exact this.fin HMS.out
      subst hns
      obtain ⟨g', o', e, _, hc⟩ := HT.out 0 (by rw [txs_length]; simp)
      cases e
      rw [txs_get (by simp), Nat.add_zero, List.getD_cons_zero] at hc
      have n0 := HQ.out.c0
      have n1 := HQ.out.c1
      have n2 := HQ.out.c2
      have HRW : Hid (RHo wr rh rm base bx v h) := HR.out.same HU.out
      have c0 := HRW.out.c0
      clear HD HQ HT hke HMS HA HM
      generalize ns.getD 0 0 = a at *
      generalize ns.getD 1 0 = b at *
      generalize ns.getD 2 0 = c at *
      have HWH : Hid _ := rWho_any HRW.out a
      go_wp2_with fail
      refine Calls.mono HWH.out ?_
      rintro e w5 ⟨rfl, m5, hw5⟩
      have HU5 : Hid (Upd (fun _ => False) wr w5) := show Upd _ _ _ by rw [hw5]; exact (Upd.refl _ _).drewN m5
      have hc5 := HU5.out.cell hc (fun f => f)
      have c05 := HU5.out.cell c0 (fun f => f)
      have n05 := HU5.out.cell n0 (fun f => f)
      have n15 := HU5.out.cell n1 (fun f => f)
      have n25 := HU5.out.cell n2 (fun f => f)
      have HRW5 : Hid (RHo w5 rh rm base bx v h) := HRW.out.same HU5.out
      have hwc := who_code h a
      clear hw5 HWH hc c0 n0 n1 n2 HRW
      by_cases h0 : 0 < hWho h a
      · have hv9 : whoV h bx a = .pointer none := by unfold whoV; rw [if_pos h0]
        rw [hv9]
        have d0 : decide (0 < hWho h a) = true := by simp; exact h0
        have HF : Hid _ := fun w => fault_any w (hWho h a) hwc.1 (by omega)
        go_wp2_with (first
          | (go_at_call 15; refine Calls.mono (HF.out _) ?_; rintro e w9 ⟨rfl, hu9⟩))
        go_ret
        rw [cforget_no h0]
        exact (DM.more (DM.more (DM.more (DM.refl HR.out) HU.out) HU5.out) hu9).fin
      · obtain ⟨j, y, rfl, hj4, hy, hat⟩ := hWho_zero (show hWho h a = 0 by omega)
        have hv9 : whoV h bx (j : Int) = .pointer (some ⟨bx j, 0, none⟩) := by unfold whoV; rw [if_neg h0, Int.toNat_natCast]
        have d0 : decide (0 < hWho h (j : Int)) = false := by simp; omega
        rw [hv9]
        have HSY : Hid (∀ w1, Upd (fun _ => False) w5 w1 → _) := fun w1 u => say_forget (HRW5.out.same u) HOK.out HKK.out hy hj4 (j : Int) b c
        clear hv9 hat
        have HS0 : Hid _ := HSY.out w5.drew (Upd.refl _ _).drew
        have HS1 : Hid _ := HSY.out w5 (Upd.refl _ _)
        clear HSY
        go_wp2_with fail
        go_region_with (first
          | (go_at_call 32; refine Calls.mono HS0.out ?_; rintro e w6 ⟨rfl, hex6, hup6⟩; have hd6 := DM.fore ((Upd.refl (fun _ => False) w5).drew) (DM.mk hex6 hup6))
          | (go_at_call 32; refine Calls.mono HS1.out ?_; rintro e w6 ⟨rfl, hex6, hup6⟩; have hd6 := DM.mk hex6 hup6))
        all_goals go_wp2_with fail
        all_goals go_ret
        all_goals exact (DM.fore HU.out (DM.fore HU5.out hd6)).fin
end Go.Proofs.YtadpibcgjgcjhabGreatDoor
/- The document's Host.Say, command by command (drop, page, store). -/
namespace Go.Proofs.YtadpibcgjgcjhabGreatDoor
open Go.ChangeShapes Go.WideShapes Go.ChangeAt Go.RowKit
set_option maxRecDepth 100000
attribute [local go_sem ↓] Go.wp_at_zero Go.wp_at_succ
variable {W w w1 w2 w3 w' : World} {rh rm base : Nat} {bx bx2 : Nat → Nat} {v v2 : Nat → Value} {h h2 : Hs} {x : Gs} {n k j : Nat}

set_option maxHeartbeats 2000000 in
theorem Say_drop (r : RHo w rh rm base bx v h) (ok : HOk h n k) (hk : k ≤ 1000) (s : ByteArray) (hs : s.size ≤ 200) (args : List (List UInt8)) (hw : wordsL s.data.toList = kDrop :: args) (hl : args.length = 2) (ms : List Int) (hn : args.mapM numW = some ms) :
    Calls Tryz.prog 8 #[.pointer (some ⟨rh, 0, none⟩), .string s] w (DP w rh rm base bx h (ansL h kDrop (ms.getD 0 0) (ms.getD 1 0) (ms.getD 2 0))) := by
  rw [ans_drop]
  have HR : Hid _ := r
  have HOK : Hid _ := ok
  have HKK : Hid _ := hk
  have HW : Hid _ := words_any w s (by omega)
  rw [hw] at HW
  have HM : Hid (∀ w, Calls Tryz.prog 14 #[.string (TX kDrop)] w fun e w' => e = .returned (.int .i64 (args.length : Int)) ∧ w' = w) := fun w => by
    rw [hl]
    exact many_drop w
  have HMS : Hid _ := hn
  have ht0 : (TX kDrop).toList = [100, 114, 111, 112] := TX_toList _
  have hz : s.size = s.data.toList.length := (Array.length_toList (xs := s.data)).symm
  have HA : Hid (∀ i, i < args.length → (TX (args.getD i [])).size ≤ 300) := fun i hi => by
    have := words_len s.data.toList (args.getD i []) (by rw [hw, List.getD_eq_getElem?_getD, List.getElem?_eq_getElem hi]; exact List.mem_cons_of_mem _ (List.getElem_mem hi))
    rw [TX_size]
    omega
  have h3 : args.length ≤ 3 := by omega
  clear r hw hn hz ok hk
  have HLL : Hid _ := hl
  clear hl
  have hI : ((args.length : Int) != (args.length : Int)) = false := by simp
  have hI2 : decide (200 < (s.size : Int)) = false := by simp; omega
  go_enter Tryz.func8, Tryz.ntmps8
  go_wp2_with fail
  refine Calls.mono HW.out ?_
  rintro e w2 ⟨v2, rfl, hs2, hu2⟩
  obtain ⟨a, cap, rfl, ht, hbs⟩ := hs2.txAt
  obtain ⟨g, o, rfl, hg, hc⟩ := ht 0 (by rw [txs_length]; simp)
  rw [txs_get (by simp), Nat.add_zero] at hc
  rw [txs_length]
  simp only [List.getD_cons_zero, List.length_cons] at hc ⊢
  have HT : Hid (TxAt w2 (some ⟨g, o, none⟩) (txs (kDrop :: args))) := ht
  have HBS : Hid (w.heap.size ≤ g) := hbs g o rfl
  have HU2 : Hid _ := hu2
  clear hs2 ht hbs HW hu2
  go_wp2_with (first
    | (go_at_call 14; refine Calls.mono (HM.out _) ?_; rintro e w3 ⟨rfl, hw3⟩; subst hw3))
  have N0 : NAt (w3.alloc (.cells #[.int .i64 0, .int .i64 0, .int .i64 0] 56)) w3.heap.size [] := NAt.new w3 _
  have HU3 : Hid (Upd (fun _ => False) w (w3.alloc (.cells #[.int .i64 0, .int .i64 0, .int .i64 0] 56))) := HU2.out.alloc _
  have HT3 : Hid (TxAt (w3.alloc (.cells #[.int .i64 0, .int .i64 0, .int .i64 0] 56)) (some ⟨g, o, none⟩) (txs (kDrop :: args))) := HT.out.upd ((Upd.refl (fun _ => False) w3).alloc _) (fun _ _ _ f => f)
  have hqg : g < w3.heap.size := hg
  have HQW : Hid (w.heap.size ≤ w3.heap.size) := HU2.out.size
  have HN0 : Hid _ := N0
  clear HT hc hg N0
  revert HN0 HU3 HT3
  generalize w3.alloc (.cells #[.int .i64 0, .int .i64 0, .int .i64 0] 56) = wb
  generalize w3.heap.size = q at *
  intro HU3 HT3 HN0
  go_loopg [7] args.length (fun gk iv wr => ∃ (k : Nat) (ns : List Int), k + gk = args.length ∧ iv = .int .i64 ((k : Int) + 1) ∧ Hid (RdAt args k ns) ∧ Hid (NAt wr q ns) ∧ Hid (TxAt wr (some ⟨g, o, none⟩) (txs (kDrop :: args))) ∧ Hid (Upd (fun _ => False) w wr))
  case atStart => exact ⟨0, [], by omega, by rfl, RdAt.start _, HN0.out, HT3.out, HU3.out⟩
  case round =>
    clear HN0 HU3 HT3
    obtain ⟨k, ns, hk, rfl, HD, HQ, HT, HU⟩ := hrel
    have HK : Hid _ := hk
    clear hk
    by_cases hlt : k < args.length
    · obtain ⟨g', o', e, _, hc⟩ := HT.out (k + 1) (by rw [txs_length]; simp; exact hlt)
      cases e
      rw [txs_get (by simp; exact hlt), List.getD_cons_succ] at hc
      have HFI : Hid _ := fun w => figures_any w (TX (args.getD k [])) (HA.out k hlt)
      cases hx : numW (args.getD k []) with
      | none =>
        have := read_bad hlt hx
        rw [HMS.out] at this
        cases this
      | some y =>
        have HX : Hid (numW (TX (args.getD k [])).data.toList = some y) := hx
        have HD2 : Hid _ := HD.out.next hlt hx
        have hnl := HD.out.len
        clear hx
        generalize TX (args.getD k []) = word at *
        go_wp2_with fail
        refine Calls.mono (HFI.out _) ?_
        rintro e w4 ⟨⟨x, ok, rfl, hok, _⟩, hu4⟩
        obtain ⟨rfl, rfl⟩ := hok _ HX.out
        have HQ4 : Hid (NAt w4 q ns) := HQ.out.upd hu4 (fun f => f)
        have hck := HQ4.out.at (k := k) (by omega)
        have hfz := HQ4.out.fz k
        have HP : Hid (NAt (w4.setCell ⟨q, k, none⟩ (.int .i64 x)) q (ns ++ [x])) := by
          have := HQ4.out.put x (by omega)
          rw [hnl] at this
          exact this
        have HU4 : Hid (Upd (fun _ => False) w (w4.setCell ⟨q, k, none⟩ (.int .i64 x))) := (HU.out.trans hu4 (fun _ _ f => f)).setCell _ (fun e => by have := HQW.out; simp only at e; omega) _
        have HT4 : Hid (TxAt (w4.setCell ⟨q, k, none⟩ (.int .i64 x)) (some ⟨g, o, none⟩) (txs (kDrop :: args))) := (HT.out.upd hu4 (fun _ _ _ f => f)).upd (Upd.one w4 q k (.int .i64 x)) (fun g' o' e => by cases e; omega)
        clear hu4 hc
        go_wp2_with fail
        go_roundg (args.length - (k + 1))
        case rel => exact ⟨k + 1, ns ++ [x], by omega, by go_num, HD2.out, HP.out, HT4.out, HU4.out⟩
        case measure => have := HK.out; omega
    · have hke : k = args.length := by have := HK.out; omega
      have hns : ns = ms := by have := HD.out; rw [hke] at this; exact this.fin HMS.out
      subst hns
      obtain ⟨g', o', e, _, hc⟩ := HT.out 0 (by rw [txs_length]; simp)
      cases e
      rw [txs_get (by simp), Nat.add_zero, List.getD_cons_zero] at hc
      have n0 := HQ.out.c0
      have n1 := HQ.out.c1
      have n2 := HQ.out.c2
      have HRW : Hid (RHo wr rh rm base bx v h) := HR.out.same HU.out
      have c0 := HRW.out.c0
      clear HD HQ HT hke HMS HA HM
      generalize ns.getD 0 0 = a at *
      generalize ns.getD 1 0 = b at *
      generalize ns.getD 2 0 = c at *
      have HWH : Hid _ := rWho_any HRW.out a
      go_wp2_with fail
      refine Calls.mono HWH.out ?_
      rintro e w5 ⟨rfl, m5, hw5⟩
      have HU5 : Hid (Upd (fun _ => False) wr w5) := show Upd _ _ _ by rw [hw5]; exact (Upd.refl _ _).drewN m5
      have hc5 := HU5.out.cell hc (fun f => f)
      have c05 := HU5.out.cell c0 (fun f => f)
      have n05 := HU5.out.cell n0 (fun f => f)
      have n15 := HU5.out.cell n1 (fun f => f)
      have n25 := HU5.out.cell n2 (fun f => f)
      have HRW5 : Hid (RHo w5 rh rm base bx v h) := HRW.out.same HU5.out
      have hwc := who_code h a
      clear hw5 HWH hc c0 n0 n1 n2 HRW
      by_cases h0 : 0 < hWho h a
      · have hv9 : whoV h bx a = .pointer none := by unfold whoV; rw [if_pos h0]
        rw [hv9]
        have d0 : decide (0 < hWho h a) = true := by simp; exact h0
        have HF : Hid _ := fun w => fault_any w (hWho h a) hwc.1 (by omega)
        go_wp2_with (first
          | (go_at_call 15; refine Calls.mono (HF.out _) ?_; rintro e w9 ⟨rfl, hu9⟩))
        go_ret
        rw [cdrop_no h0]
        exact (DM.more (DM.more (DM.more (DM.refl HR.out) HU.out) HU5.out) hu9).fin
      · obtain ⟨j, y, rfl, hj4, hy, hat⟩ := hWho_zero (show hWho h a = 0 by omega)
        have hv9 : whoV h bx (j : Int) = .pointer (some ⟨bx j, 0, none⟩) := by unfold whoV; rw [if_neg h0, Int.toNat_natCast]
        have d0 : decide (0 < hWho h (j : Int)) = false := by simp; omega
        rw [hv9]
        have HSY : Hid (∀ w1, Upd (fun _ => False) w5 w1 → _) := fun w1 u => say_drop (HRW5.out.same u) HOK.out HKK.out hy hj4 (j : Int) b c
        clear hv9 hat
        have HS0 : Hid _ := HSY.out w5.drew (Upd.refl _ _).drew
        have HS1 : Hid _ := HSY.out w5 (Upd.refl _ _)
        clear HSY
        go_wp2_with fail
        go_region_with (first
          | (go_at_call 32; refine Calls.mono HS0.out ?_; rintro e w6 ⟨rfl, hex6, hup6⟩; have hd6 := DM.fore ((Upd.refl (fun _ => False) w5).drew) (DM.mk hex6 hup6))
          | (go_at_call 32; refine Calls.mono HS1.out ?_; rintro e w6 ⟨rfl, hex6, hup6⟩; have hd6 := DM.mk hex6 hup6))
        all_goals go_wp2_with fail
        all_goals go_ret
        all_goals exact (DM.fore HU.out (DM.fore HU5.out hd6)).fin
set_option maxHeartbeats 2000000 in
theorem Say_page (r : RHo w rh rm base bx v h) (ok : HOk h n k) (hk : k ≤ 1000) (s : ByteArray) (hs : s.size ≤ 200) (args : List (List UInt8)) (hw : wordsL s.data.toList = kPage :: args) (hl : args.length = 2) (ms : List Int) (hn : args.mapM numW = some ms) :
    Calls Tryz.prog 8 #[.pointer (some ⟨rh, 0, none⟩), .string s] w (DP w rh rm base bx h (ansL h kPage (ms.getD 0 0) (ms.getD 1 0) (ms.getD 2 0))) := by
  rw [ans_page]
  have HR : Hid _ := r
  have HOK : Hid _ := ok
  have HKK : Hid _ := hk
  have HW : Hid _ := words_any w s (by omega)
  rw [hw] at HW
  have HM : Hid (∀ w, Calls Tryz.prog 14 #[.string (TX kPage)] w fun e w' => e = .returned (.int .i64 (args.length : Int)) ∧ w' = w) := fun w => by
    rw [hl]
    exact many_page w
  have HMS : Hid _ := hn
  have ht0 : (TX kPage).toList = [112, 97, 103, 101] := TX_toList _
  have hz : s.size = s.data.toList.length := (Array.length_toList (xs := s.data)).symm
  have HA : Hid (∀ i, i < args.length → (TX (args.getD i [])).size ≤ 300) := fun i hi => by
    have := words_len s.data.toList (args.getD i []) (by rw [hw, List.getD_eq_getElem?_getD, List.getElem?_eq_getElem hi]; exact List.mem_cons_of_mem _ (List.getElem_mem hi))
    rw [TX_size]
    omega
  have h3 : args.length ≤ 3 := by omega
  clear r hw hn hz ok hk
  have HLL : Hid _ := hl
  clear hl
  have hI : ((args.length : Int) != (args.length : Int)) = false := by simp
  have hI2 : decide (200 < (s.size : Int)) = false := by simp; omega
  go_enter Tryz.func8, Tryz.ntmps8
  go_wp2_with fail
  refine Calls.mono HW.out ?_
  rintro e w2 ⟨v2, rfl, hs2, hu2⟩
  obtain ⟨a, cap, rfl, ht, hbs⟩ := hs2.txAt
  obtain ⟨g, o, rfl, hg, hc⟩ := ht 0 (by rw [txs_length]; simp)
  rw [txs_get (by simp), Nat.add_zero] at hc
  rw [txs_length]
  simp only [List.getD_cons_zero, List.length_cons] at hc ⊢
  have HT : Hid (TxAt w2 (some ⟨g, o, none⟩) (txs (kPage :: args))) := ht
  have HBS : Hid (w.heap.size ≤ g) := hbs g o rfl
  have HU2 : Hid _ := hu2
  clear hs2 ht hbs HW hu2
  go_wp2_with (first
    | (go_at_call 14; refine Calls.mono (HM.out _) ?_; rintro e w3 ⟨rfl, hw3⟩; subst hw3))
  have N0 : NAt (w3.alloc (.cells #[.int .i64 0, .int .i64 0, .int .i64 0] 56)) w3.heap.size [] := NAt.new w3 _
  have HU3 : Hid (Upd (fun _ => False) w (w3.alloc (.cells #[.int .i64 0, .int .i64 0, .int .i64 0] 56))) := HU2.out.alloc _
  have HT3 : Hid (TxAt (w3.alloc (.cells #[.int .i64 0, .int .i64 0, .int .i64 0] 56)) (some ⟨g, o, none⟩) (txs (kPage :: args))) := HT.out.upd ((Upd.refl (fun _ => False) w3).alloc _) (fun _ _ _ f => f)
  have hqg : g < w3.heap.size := hg
  have HQW : Hid (w.heap.size ≤ w3.heap.size) := HU2.out.size
  have HN0 : Hid _ := N0
  clear HT hc hg N0
  revert HN0 HU3 HT3
  generalize w3.alloc (.cells #[.int .i64 0, .int .i64 0, .int .i64 0] 56) = wb
  generalize w3.heap.size = q at *
  intro HU3 HT3 HN0
  go_loopg [7] args.length (fun gk iv wr => ∃ (k : Nat) (ns : List Int), k + gk = args.length ∧ iv = .int .i64 ((k : Int) + 1) ∧ Hid (RdAt args k ns) ∧ Hid (NAt wr q ns) ∧ Hid (TxAt wr (some ⟨g, o, none⟩) (txs (kPage :: args))) ∧ Hid (Upd (fun _ => False) w wr))
  case atStart => exact ⟨0, [], by omega, by rfl, RdAt.start _, HN0.out, HT3.out, HU3.out⟩
  case round =>
    clear HN0 HU3 HT3
    obtain ⟨k, ns, hk, rfl, HD, HQ, HT, HU⟩ := hrel
    have HK : Hid _ := hk
    clear hk
    by_cases hlt : k < args.length
    · obtain ⟨g', o', e, _, hc⟩ := HT.out (k + 1) (by rw [txs_length]; simp; exact hlt)
      cases e
      rw [txs_get (by simp; exact hlt), List.getD_cons_succ] at hc
      have HFI : Hid _ := fun w => figures_any w (TX (args.getD k [])) (HA.out k hlt)
      cases hx : numW (args.getD k []) with
      | none =>
        have := read_bad hlt hx
        rw [HMS.out] at this
        cases this
      | some y =>
        have HX : Hid (numW (TX (args.getD k [])).data.toList = some y) := hx
        have HD2 : Hid _ := HD.out.next hlt hx
        have hnl := HD.out.len
        clear hx
        generalize TX (args.getD k []) = word at *
        go_wp2_with fail
        refine Calls.mono (HFI.out _) ?_
        rintro e w4 ⟨⟨x, ok, rfl, hok, _⟩, hu4⟩
        obtain ⟨rfl, rfl⟩ := hok _ HX.out
        have HQ4 : Hid (NAt w4 q ns) := HQ.out.upd hu4 (fun f => f)
        have hck := HQ4.out.at (k := k) (by omega)
        have hfz := HQ4.out.fz k
        have HP : Hid (NAt (w4.setCell ⟨q, k, none⟩ (.int .i64 x)) q (ns ++ [x])) := by
          have := HQ4.out.put x (by omega)
          rw [hnl] at this
          exact this
        have HU4 : Hid (Upd (fun _ => False) w (w4.setCell ⟨q, k, none⟩ (.int .i64 x))) := (HU.out.trans hu4 (fun _ _ f => f)).setCell _ (fun e => by have := HQW.out; simp only at e; omega) _
        have HT4 : Hid (TxAt (w4.setCell ⟨q, k, none⟩ (.int .i64 x)) (some ⟨g, o, none⟩) (txs (kPage :: args))) := (HT.out.upd hu4 (fun _ _ _ f => f)).upd (Upd.one w4 q k (.int .i64 x)) (fun g' o' e => by cases e; omega)
        clear hu4 hc
        go_wp2_with fail
        go_roundg (args.length - (k + 1))
        case rel => exact ⟨k + 1, ns ++ [x], by omega, by go_num, HD2.out, HP.out, HT4.out, HU4.out⟩
        case measure => have := HK.out; omega
    · have hke : k = args.length := by have := HK.out; omega
      have hns : ns = ms := by have := HD.out; rw [hke] at this; exact this.fin HMS.out
      subst hns
      obtain ⟨g', o', e, _, hc⟩ := HT.out 0 (by rw [txs_length]; simp)
      cases e
      rw [txs_get (by simp), Nat.add_zero, List.getD_cons_zero] at hc
      have n0 := HQ.out.c0
      have n1 := HQ.out.c1
      have n2 := HQ.out.c2
      have HRW : Hid (RHo wr rh rm base bx v h) := HR.out.same HU.out
      have c0 := HRW.out.c0
      clear HD HQ HT hke HMS HA HM
      generalize ns.getD 0 0 = a at *
      generalize ns.getD 1 0 = b at *
      generalize ns.getD 2 0 = c at *
      have HWH : Hid _ := rWho_any HRW.out a
      go_wp2_with fail
      refine Calls.mono HWH.out ?_
      rintro e w5 ⟨rfl, m5, hw5⟩
      have HU5 : Hid (Upd (fun _ => False) wr w5) := show Upd _ _ _ by rw [hw5]; exact (Upd.refl _ _).drewN m5
      have hc5 := HU5.out.cell hc (fun f => f)
      have c05 := HU5.out.cell c0 (fun f => f)
      have n05 := HU5.out.cell n0 (fun f => f)
      have n15 := HU5.out.cell n1 (fun f => f)
      have n25 := HU5.out.cell n2 (fun f => f)
      have HRW5 : Hid (RHo w5 rh rm base bx v h) := HRW.out.same HU5.out
      have hwc := who_code h a
      clear hw5 HWH hc c0 n0 n1 n2 HRW
      by_cases h0 : 0 < hWho h a
      · have hv9 : whoV h bx a = .pointer none := by unfold whoV; rw [if_pos h0]
        rw [hv9]
        have d0 : decide (0 < hWho h a) = true := by simp; exact h0
        have HF : Hid _ := fun w => fault_any w (hWho h a) hwc.1 (by omega)
        go_wp2_with (first
          | (go_at_call 15; refine Calls.mono (HF.out _) ?_; rintro e w9 ⟨rfl, hu9⟩))
        go_ret
        rw [cpage_no h0]
        exact (DM.more (DM.more (DM.more (DM.refl HR.out) HU.out) HU5.out) hu9).fin
      · obtain ⟨j, y, rfl, hj4, hy, hat⟩ := hWho_zero (show hWho h a = 0 by omega)
        have hv9 : whoV h bx (j : Int) = .pointer (some ⟨bx j, 0, none⟩) := by unfold whoV; rw [if_neg h0, Int.toNat_natCast]
        have d0 : decide (0 < hWho h (j : Int)) = false := by simp; omega
        rw [hv9]
        have HSY : Hid (∀ w1, Upd (fun _ => False) w5 w1 → _) := fun w1 u => say_page (HRW5.out.same u) HOK.out hy hj4 (j : Int) b c
        clear hv9 hat
        have HS0 : Hid _ := HSY.out w5.drew (Upd.refl _ _).drew
        have HS1 : Hid _ := HSY.out w5 (Upd.refl _ _)
        clear HSY
        go_wp2_with fail
        go_region_with (first
          | (go_at_call 32; refine Calls.mono HS0.out ?_; rintro e w6 ⟨rfl, hex6, hup6⟩; have hd6 := DM.fore ((Upd.refl (fun _ => False) w5).drew) (DM.mk hex6 hup6))
          | (go_at_call 32; refine Calls.mono HS1.out ?_; rintro e w6 ⟨rfl, hex6, hup6⟩; have hd6 := DM.mk hex6 hup6))
        all_goals go_wp2_with fail
        all_goals go_ret
        all_goals exact (DM.fore HU.out (DM.fore HU5.out hd6)).fin
set_option maxHeartbeats 2000000 in
theorem Say_store (r : RHo w rh rm base bx v h) (ok : HOk h n k) (hk : k ≤ 1000) (s : ByteArray) (hs : s.size ≤ 200) (args : List (List UInt8)) (hw : wordsL s.data.toList = kStore :: args) (hl : args.length = 3) (ms : List Int) (hn : args.mapM numW = some ms) :
    Calls Tryz.prog 8 #[.pointer (some ⟨rh, 0, none⟩), .string s] w (DP w rh rm base bx h (ansL h kStore (ms.getD 0 0) (ms.getD 1 0) (ms.getD 2 0))) := by
  rw [ans_store]
  have HR : Hid _ := r
  have HOK : Hid _ := ok
  have HKK : Hid _ := hk
  have HW : Hid _ := words_any w s (by omega)
  rw [hw] at HW
  have HM : Hid (∀ w, Calls Tryz.prog 14 #[.string (TX kStore)] w fun e w' => e = .returned (.int .i64 (args.length : Int)) ∧ w' = w) := fun w => by
    rw [hl]
    exact many_store w
  have HMS : Hid _ := hn
  have ht0 : (TX kStore).toList = [115, 116, 111, 114, 101] := TX_toList _
  have hz : s.size = s.data.toList.length := (Array.length_toList (xs := s.data)).symm
  have HA : Hid (∀ i, i < args.length → (TX (args.getD i [])).size ≤ 300) := fun i hi => by
    have := words_len s.data.toList (args.getD i []) (by rw [hw, List.getD_eq_getElem?_getD, List.getElem?_eq_getElem hi]; exact List.mem_cons_of_mem _ (List.getElem_mem hi))
    rw [TX_size]
    omega
  have h3 : args.length ≤ 3 := by omega
  clear r hw hn hz ok hk
  have HLL : Hid _ := hl
  clear hl
  have hI : ((args.length : Int) != (args.length : Int)) = false := by simp
  have hI2 : decide (200 < (s.size : Int)) = false := by simp; omega
  go_enter Tryz.func8, Tryz.ntmps8
  go_wp2_with fail
  refine Calls.mono HW.out ?_
  rintro e w2 ⟨v2, rfl, hs2, hu2⟩
  obtain ⟨a, cap, rfl, ht, hbs⟩ := hs2.txAt
  obtain ⟨g, o, rfl, hg, hc⟩ := ht 0 (by rw [txs_length]; simp)
  rw [txs_get (by simp), Nat.add_zero] at hc
  rw [txs_length]
  simp only [List.getD_cons_zero, List.length_cons] at hc ⊢
  have HT : Hid (TxAt w2 (some ⟨g, o, none⟩) (txs (kStore :: args))) := ht
  have HBS : Hid (w.heap.size ≤ g) := hbs g o rfl
  have HU2 : Hid _ := hu2
  clear hs2 ht hbs HW hu2
  go_wp2_with (first
    | (go_at_call 14; refine Calls.mono (HM.out _) ?_; rintro e w3 ⟨rfl, hw3⟩; subst hw3))
  have N0 : NAt (w3.alloc (.cells #[.int .i64 0, .int .i64 0, .int .i64 0] 56)) w3.heap.size [] := NAt.new w3 _
  have HU3 : Hid (Upd (fun _ => False) w (w3.alloc (.cells #[.int .i64 0, .int .i64 0, .int .i64 0] 56))) := HU2.out.alloc _
  have HT3 : Hid (TxAt (w3.alloc (.cells #[.int .i64 0, .int .i64 0, .int .i64 0] 56)) (some ⟨g, o, none⟩) (txs (kStore :: args))) := HT.out.upd ((Upd.refl (fun _ => False) w3).alloc _) (fun _ _ _ f => f)
  have hqg : g < w3.heap.size := hg
  have HQW : Hid (w.heap.size ≤ w3.heap.size) := HU2.out.size
  have HN0 : Hid _ := N0
  clear HT hc hg N0
  revert HN0 HU3 HT3
  generalize w3.alloc (.cells #[.int .i64 0, .int .i64 0, .int .i64 0] 56) = wb
  generalize w3.heap.size = q at *
  intro HU3 HT3 HN0
  go_loopg [7] args.length (fun gk iv wr => ∃ (k : Nat) (ns : List Int), k + gk = args.length ∧ iv = .int .i64 ((k : Int) + 1) ∧ Hid (RdAt args k ns) ∧ Hid (NAt wr q ns) ∧ Hid (TxAt wr (some ⟨g, o, none⟩) (txs (kStore :: args))) ∧ Hid (Upd (fun _ => False) w wr))
  case atStart => exact ⟨0, [], by omega, by rfl, RdAt.start _, HN0.out, HT3.out, HU3.out⟩
  case round =>
    clear HN0 HU3 HT3
    obtain ⟨k, ns, hk, rfl, HD, HQ, HT, HU⟩ := hrel
    have HK : Hid _ := hk
    clear hk
    by_cases hlt : k < args.length
    · obtain ⟨g', o', e, _, hc⟩ := HT.out (k + 1) (by rw [txs_length]; simp; exact hlt)
      cases e
      rw [txs_get (by simp; exact hlt), List.getD_cons_succ] at hc
      have HFI : Hid _ := fun w => figures_any w (TX (args.getD k [])) (HA.out k hlt)
      cases hx : numW (args.getD k []) with
      | none =>
        have := read_bad hlt hx
        rw [HMS.out] at this
        cases this
      | some y =>
        have HX : Hid (numW (TX (args.getD k [])).data.toList = some y) := hx
        have HD2 : Hid _ := HD.out.next hlt hx
        have hnl := HD.out.len
        clear hx
        generalize TX (args.getD k []) = word at *
        go_wp2_with fail
        refine Calls.mono (HFI.out _) ?_
        rintro e w4 ⟨⟨x, ok, rfl, hok, _⟩, hu4⟩
        obtain ⟨rfl, rfl⟩ := hok _ HX.out
        have HQ4 : Hid (NAt w4 q ns) := HQ.out.upd hu4 (fun f => f)
        have hck := HQ4.out.at (k := k) (by omega)
        have hfz := HQ4.out.fz k
        have HP : Hid (NAt (w4.setCell ⟨q, k, none⟩ (.int .i64 x)) q (ns ++ [x])) := by
          have := HQ4.out.put x (by omega)
          rw [hnl] at this
          exact this
        have HU4 : Hid (Upd (fun _ => False) w (w4.setCell ⟨q, k, none⟩ (.int .i64 x))) := (HU.out.trans hu4 (fun _ _ f => f)).setCell _ (fun e => by have := HQW.out; simp only at e; omega) _
        have HT4 : Hid (TxAt (w4.setCell ⟨q, k, none⟩ (.int .i64 x)) (some ⟨g, o, none⟩) (txs (kStore :: args))) := (HT.out.upd hu4 (fun _ _ _ f => f)).upd (Upd.one w4 q k (.int .i64 x)) (fun g' o' e => by cases e; omega)
        clear hu4 hc
        go_wp2_with fail
        go_roundg (args.length - (k + 1))
        case rel => exact ⟨k + 1, ns ++ [x], by omega, by go_num, HD2.out, HP.out, HT4.out, HU4.out⟩
        case measure => have := HK.out; omega
    · have hke : k = args.length := by have := HK.out; omega
      have hns : ns = ms := by have := HD.out; rw [hke] at this; exact this.fin HMS.out
      subst hns
      obtain ⟨g', o', e, _, hc⟩ := HT.out 0 (by rw [txs_length]; simp)
      cases e
      rw [txs_get (by simp), Nat.add_zero, List.getD_cons_zero] at hc
      have n0 := HQ.out.c0
      have n1 := HQ.out.c1
      have n2 := HQ.out.c2
      have HRW : Hid (RHo wr rh rm base bx v h) := HR.out.same HU.out
      have c0 := HRW.out.c0
      clear HD HQ HT hke HMS HA HM
      generalize ns.getD 0 0 = a at *
      generalize ns.getD 1 0 = b at *
      generalize ns.getD 2 0 = c at *
      by_cases hcv : c < 0 ∨ 255 < c
      · have HF : Hid _ := fun w => fault_any w 1 (by omega) (by omega)
        have HCV : Hid (c < 0 ∨ 255 < c) := hcv
        rcases hcv with hcv | hcv
        · have e1 : decide (c < 0) = true := by simp; exact hcv
          go_wp2_with (first
            | (go_at_call 15; refine Calls.mono (HF.out _) ?_; rintro e w9 ⟨rfl, hu9⟩))
          go_ret
          unfold storeT
          rw [if_pos HCV.out]
          exact (DM.more (DM.more (DM.refl HR.out) HU.out) hu9).fin
        · have e1 : decide (c < 0) = false := by simp; omega
          have e2 : decide (255 < c) = true := by simp; exact hcv
          go_wp2_with (first
            | (go_at_call 15; refine Calls.mono (HF.out _) ?_; rintro e w9 ⟨rfl, hu9⟩))
          go_ret
          unfold storeT
          rw [if_pos HCV.out]
          exact (DM.more (DM.more (DM.refl HR.out) HU.out) hu9).fin
      have HCV : Hid (¬ (c < 0 ∨ 255 < c)) := hcv
      have e1 : decide (c < 0) = false := by simp; omega
      have e2 : decide (255 < c) = false := by simp; omega
      have c0v : 0 ≤ c := by omega
      have c1v : c ≤ 255 := by omega
      clear hcv
      have HWH : Hid _ := rWho_any HRW.out a
      go_wp2_with fail
      refine Calls.mono HWH.out ?_
      rintro e w5 ⟨rfl, m5, hw5⟩
      have HU5 : Hid (Upd (fun _ => False) wr w5) := show Upd _ _ _ by rw [hw5]; exact (Upd.refl _ _).drewN m5
      have hc5 := HU5.out.cell hc (fun f => f)
      have c05 := HU5.out.cell c0 (fun f => f)
      have n05 := HU5.out.cell n0 (fun f => f)
      have n15 := HU5.out.cell n1 (fun f => f)
      have n25 := HU5.out.cell n2 (fun f => f)
      have HRW5 : Hid (RHo w5 rh rm base bx v h) := HRW.out.same HU5.out
      have hwc := who_code h a
      clear hw5 HWH hc c0 n0 n1 n2 HRW
      by_cases h0 : 0 < hWho h a
      · have hv9 : whoV h bx a = .pointer none := by unfold whoV; rw [if_pos h0]
        rw [hv9]
        have d0 : decide (0 < hWho h a) = true := by simp; exact h0
        have HF : Hid _ := fun w => fault_any w (hWho h a) hwc.1 (by omega)
        go_wp2_with (first
          | (go_at_call 15; refine Calls.mono (HF.out _) ?_; rintro e w9 ⟨rfl, hu9⟩))
        go_ret
        unfold storeT
        rw [if_neg HCV.out]
        rw [cstore_no h0]
        exact (DM.more (DM.more (DM.more (DM.refl HR.out) HU.out) HU5.out) hu9).fin
      · obtain ⟨j, y, rfl, hj4, hy, hat⟩ := hWho_zero (show hWho h a = 0 by omega)
        have hv9 : whoV h bx (j : Int) = .pointer (some ⟨bx j, 0, none⟩) := by unfold whoV; rw [if_neg h0, Int.toNat_natCast]
        have d0 : decide (0 < hWho h (j : Int)) = false := by simp; omega
        rw [hv9]
        have HSY : Hid (∀ w1, Upd (fun _ => False) w5 w1 → _) := fun w1 u => say_store (HRW5.out.same u) HOK.out HKK.out hy hj4 (j : Int) b c c0v c1v
        clear hv9 hat
        have HS0 : Hid _ := HSY.out w5.drew (Upd.refl _ _).drew
        have HS1 : Hid _ := HSY.out w5 (Upd.refl _ _)
        clear HSY
        go_wp2_with fail
        go_region_with (first
          | (go_at_call 32; refine Calls.mono HS0.out ?_; rintro e w6 ⟨rfl, hex6, hup6⟩; have hd6 := DM.fore ((Upd.refl (fun _ => False) w5).drew) (DM.mk hex6 hup6))
          | (go_at_call 32; refine Calls.mono HS1.out ?_; rintro e w6 ⟨rfl, hex6, hup6⟩; have hd6 := DM.mk hex6 hup6))
        all_goals go_wp2_with fail
        all_goals go_ret
        all_goals unfold storeT
        all_goals rw [if_neg HCV.out]
        all_goals exact (DM.fore HU.out (DM.fore HU5.out hd6)).fin
end Go.Proofs.YtadpibcgjgcjhabGreatDoor
/- The document's Host.Say: any line. -/
namespace Go.Proofs.YtadpibcgjgcjhabGreatDoor
open Go.ChangeShapes Go.WideShapes Go.ChangeAt Go.RowKit
set_option maxRecDepth 100000
variable {W w w1 w2 w3 w' : World} {rh rm base : Nat} {bx bx2 : Nat → Nat} {v v2 : Nat → Value} {h h2 : Hs} {x : Gs} {n k j : Nat}

theorem say_none {h : Hs} {l : List UInt8} (e : readL l = none) : sayL h l = (errT 9, h) := by unfold sayL; rw [e]
theorem say_some {h : Hs} {l c : List UInt8} {ns : List Int} (e : readL l = some (c, ns)) : sayL h l = ansL h c (ns.getD 0 0) (ns.getD 1 0) (ns.getD 2 0) := by unfold sayL; rw [e]
theorem many_one {c : List UInt8} {m : Nat} {P : Prop} (hm : manyL c = some m) (p0 : c = kAdd → m = 0 → P) (p1 : c = kScanall → m = 0 → P) (p2 : c = kLeft → m = 0 → P) (p3 : c = kPromised → m = 0 → P) (p4 : c = kGuests → m = 0 → P) (p5 : c = kRemove → m = 1 → P) (p6 : c = kFrame → m = 1 → P) (p7 : c = kPlug → m = 2 → P) (p8 : c = kUnplug → m = 2 → P) (p9 : c = kGive → m = 2 → P) (p10 : c = kBack → m = 2 → P) (p11 : c = kLoad → m = 2 → P) (p12 : c = kRoot → m = 2 → P) (p13 : c = kForget → m = 2 → P) (p14 : c = kDrop → m = 2 → P) (p15 : c = kScan → m = 2 → P) (p16 : c = kPage → m = 2 → P) (p17 : c = kStore → m = 3 → P) : P := by
  unfold manyL at hm
  by_cases e0 : c = kAdd
  · rw [if_pos e0] at hm; cases hm; exact p0 e0 rfl
  rw [if_neg e0] at hm
  by_cases e1 : c = kScanall
  · rw [if_pos e1] at hm; cases hm; exact p1 e1 rfl
  rw [if_neg e1] at hm
  by_cases e2 : c = kLeft
  · rw [if_pos e2] at hm; cases hm; exact p2 e2 rfl
  rw [if_neg e2] at hm
  by_cases e3 : c = kPromised
  · rw [if_pos e3] at hm; cases hm; exact p3 e3 rfl
  rw [if_neg e3] at hm
  by_cases e4 : c = kGuests
  · rw [if_pos e4] at hm; cases hm; exact p4 e4 rfl
  rw [if_neg e4] at hm
  by_cases e5 : c = kRemove
  · rw [if_pos e5] at hm; cases hm; exact p5 e5 rfl
  rw [if_neg e5] at hm
  by_cases e6 : c = kFrame
  · rw [if_pos e6] at hm; cases hm; exact p6 e6 rfl
  rw [if_neg e6] at hm
  by_cases e7 : c = kPlug
  · rw [if_pos e7] at hm; cases hm; exact p7 e7 rfl
  rw [if_neg e7] at hm
  by_cases e8 : c = kUnplug
  · rw [if_pos e8] at hm; cases hm; exact p8 e8 rfl
  rw [if_neg e8] at hm
  by_cases e9 : c = kGive
  · rw [if_pos e9] at hm; cases hm; exact p9 e9 rfl
  rw [if_neg e9] at hm
  by_cases e10 : c = kBack
  · rw [if_pos e10] at hm; cases hm; exact p10 e10 rfl
  rw [if_neg e10] at hm
  by_cases e11 : c = kLoad
  · rw [if_pos e11] at hm; cases hm; exact p11 e11 rfl
  rw [if_neg e11] at hm
  by_cases e12 : c = kRoot
  · rw [if_pos e12] at hm; cases hm; exact p12 e12 rfl
  rw [if_neg e12] at hm
  by_cases e13 : c = kForget
  · rw [if_pos e13] at hm; cases hm; exact p13 e13 rfl
  rw [if_neg e13] at hm
  by_cases e14 : c = kDrop
  · rw [if_pos e14] at hm; cases hm; exact p14 e14 rfl
  rw [if_neg e14] at hm
  by_cases e15 : c = kScan
  · rw [if_pos e15] at hm; cases hm; exact p15 e15 rfl
  rw [if_neg e15] at hm
  by_cases e16 : c = kPage
  · rw [if_pos e16] at hm; cases hm; exact p16 e16 rfl
  rw [if_neg e16] at hm
  by_cases e17 : c = kStore
  · rw [if_pos e17] at hm; cases hm; exact p17 e17 rfl
  rw [if_neg e17] at hm
  cases hm
theorem Say_any (r : RHo w rh rm base bx v h) (ok : HOk h n k) (hk : k ≤ 1000) (s : ByteArray) (hs : s.size ≤ 300) :
    Calls Tryz.prog 8 #[.pointer (some ⟨rh, 0, none⟩), .string s] w (DP w rh rm base bx h (sayL h s.data.toList)) := by
  have hz : s.size = s.data.toList.length := (Array.length_toList (xs := s.data)).symm
  obtain ⟨c, args, hw⟩ : ∃ c args, wordsL s.data.toList = c :: args := by
    cases hw : wordsL s.data.toList with
    | nil => exact absurd hw (wordsL_ne _)
    | cons c args => exact ⟨c, args, rfl⟩
  by_cases h2 : 200 < s.size
  · rw [say_none (by unfold readL; rw [if_pos (by omega)])]
    exact say_bad1 r s hs c args hw (Or.inr h2)
  · by_cases hm : manyL c = some args.length
    · cases hn : args.mapM numW with
      | none =>
        rw [say_none (by unfold readL; rw [if_neg (by omega), hw]; simp only [hm, if_true, hn])]
        exact say_bad2 r s (by omega) c args hw hm hn
      | some ms =>
        rw [say_some (c := c) (ns := ms) (by unfold readL; rw [if_neg (by omega), hw]; simp only [hm, if_true, hn])]
        have hm' := hm
        refine many_one (m := args.length) hm' (fun e el => by subst e; exact Say_add r ok hk s (by omega) args hw el ms hn) (fun e el => by subst e; exact Say_scanall r ok hk s (by omega) args hw el ms hn) (fun e el => by subst e; exact Say_left r ok hk s (by omega) args hw el ms hn) (fun e el => by subst e; exact Say_promised r ok hk s (by omega) args hw el ms hn) (fun e el => by subst e; exact Say_guests r ok hk s (by omega) args hw el ms hn) (fun e el => by subst e; exact Say_remove r ok hk s (by omega) args hw el ms hn) (fun e el => by subst e; exact Say_frame r ok hk s (by omega) args hw el ms hn) (fun e el => by subst e; exact Say_plug r ok hk s (by omega) args hw el ms hn) (fun e el => by subst e; exact Say_unplug r ok hk s (by omega) args hw el ms hn) (fun e el => by subst e; exact Say_give r ok hk s (by omega) args hw el ms hn) (fun e el => by subst e; exact Say_back r ok hk s (by omega) args hw el ms hn) (fun e el => by subst e; exact Say_load r ok hk s (by omega) args hw el ms hn) (fun e el => by subst e; exact Say_root r ok hk s (by omega) args hw el ms hn) (fun e el => by subst e; exact Say_forget r ok hk s (by omega) args hw el ms hn) (fun e el => by subst e; exact Say_drop r ok hk s (by omega) args hw el ms hn) (fun e el => by subst e; exact Say_scan r ok hk s (by omega) args hw el ms hn) (fun e el => by subst e; exact Say_page r ok hk s (by omega) args hw el ms hn) (fun e el => by subst e; exact Say_store r ok hk s (by omega) args hw el ms hn)
    · rw [say_none (by unfold readL; rw [if_neg (by omega), hw]; simp only [hm, if_false])]
      exact say_bad1 r s hs c args hw (Or.inl hm)
end Go.Proofs.YtadpibcgjgcjhabGreatDoor
