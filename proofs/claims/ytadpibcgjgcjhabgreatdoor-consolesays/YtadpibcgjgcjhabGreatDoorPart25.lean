/- The document's Host.Say, command by command (add, scanall, promised). -/
import Derived.Test.YtadpibcgjgcjhabGreatDoorPart22
namespace Go.Proofs.YtadpibcgjgcjhabGreatDoor
open Go.ChangeShapes Go.WideShapes Go.ChangeAt Go.RowKit
set_option maxRecDepth 100000
attribute [local go_sem ↓] Go.wp_at_zero Go.wp_at_succ
variable {W w w1 w2 w3 w' : World} {rh rm base : Nat} {bx bx2 : Nat → Nat} {v v2 : Nat → Value} {h h2 : Hs} {x : Gs} {n k j : Nat}

set_option maxHeartbeats 2000000 in
theorem Say_add (r : RHo w rh rm base bx v h) (ok : HOk h n k) (hk : k ≤ 1000) (s : ByteArray) (hs : s.size ≤ 200) (args : List (List UInt8)) (hw : wordsL s.data.toList = kAdd :: args) (hl : args.length = 0) (ms : List Int) (hn : args.mapM numW = some ms) :
    Calls Tryz.prog 8 #[.pointer (some ⟨rh, 0, none⟩), .string s] w (DP w rh rm base bx h (ansL h kAdd (ms.getD 0 0) (ms.getD 1 0) (ms.getD 2 0))) := by
  rw [ans_add]
  have HR : Hid _ := r
  have HOK : Hid _ := ok
  have HKK : Hid _ := hk
  have HW : Hid _ := words_any w s (by omega)
  rw [hw] at HW
  have HM : Hid (∀ w, Calls Tryz.prog 14 #[.string (TX kAdd)] w fun e w' => e = .returned (.int .i64 (args.length : Int)) ∧ w' = w) := fun w => by
    rw [hl]
    exact many_add w
  have HMS : Hid _ := hn
  have ht0 : (TX kAdd).toList = [97, 100, 100] := TX_toList _
  have hz : s.size = s.data.toList.length := (Array.length_toList (xs := s.data)).symm
  have HA : Hid (∀ i, i < args.length → (TX (args.getD i [])).size ≤ 300) := fun i hi => by
    have := words_len s.data.toList (args.getD i []) (by rw [hw, List.getD_eq_getElem?_getD, List.getElem?_eq_getElem hi]; exact List.mem_cons_of_mem _ (List.getElem_mem hi))
    rw [TX_size]
    omega
  have h3 : args.length ≤ 3 := by omega
  clear r hw hn hz ok hk
  have HLL : Hid _ := hl
  clear hl
  have hI : ((args.length : Int) != (args.length : Int)) = false := by simp
  have hI2 : decide (200 < (s.size : Int)) = false := by simp; omega
  go_enter Tryz.func8, Tryz.ntmps8
  go_wp2_with fail
  refine Calls.mono HW.out ?_
  rintro e w2 ⟨v2, rfl, hs2, hu2⟩
  obtain ⟨a, cap, rfl, ht, hbs⟩ := hs2.txAt
  obtain ⟨g, o, rfl, hg, hc⟩ := ht 0 (by rw [txs_length]; simp)
  rw [txs_get (by simp), Nat.add_zero] at hc
  rw [txs_length]
  simp only [List.getD_cons_zero, List.length_cons] at hc ⊢
  have HT : Hid (TxAt w2 (some ⟨g, o, none⟩) (txs (kAdd :: args))) := ht
  have HBS : Hid (w.heap.size ≤ g) := hbs g o rfl
  have HU2 : Hid _ := hu2
  clear hs2 ht hbs HW hu2
  go_wp2_with (first
    | (go_at_call 14; refine Calls.mono (HM.out _) ?_; rintro e w3 ⟨rfl, hw3⟩; subst hw3))
  have N0 : NAt (w3.alloc (.cells #[.int .i64 0, .int .i64 0, .int .i64 0] 56)) w3.heap.size [] := NAt.new w3 _
  have HU3 : Hid (Upd (fun _ => False) w (w3.alloc (.cells #[.int .i64 0, .int .i64 0, .int .i64 0] 56))) := HU2.out.alloc _
  have HT3 : Hid (TxAt (w3.alloc (.cells #[.int .i64 0, .int .i64 0, .int .i64 0] 56)) (some ⟨g, o, none⟩) (txs (kAdd :: args))) := HT.out.upd ((Upd.refl (fun _ => False) w3).alloc _) (fun _ _ _ f => f)
  have hqg : g < w3.heap.size := hg
  have HQW : Hid (w.heap.size ≤ w3.heap.size) := HU2.out.size
  have HN0 : Hid _ := N0
  clear HT hc hg N0
  revert HN0 HU3 HT3
  generalize w3.alloc (.cells #[.int .i64 0, .int .i64 0, .int .i64 0] 56) = wb
  generalize w3.heap.size = q at *
  intro HU3 HT3 HN0
  go_loopg [7] args.length (fun gk iv wr => ∃ (k : Nat) (ns : List Int), k + gk = args.length ∧ iv = .int .i64 ((k : Int) + 1) ∧ Hid (RdAt args k ns) ∧ Hid (NAt wr q ns) ∧ Hid (TxAt wr (some ⟨g, o, none⟩) (txs (kAdd :: args))) ∧ Hid (Upd (fun _ => False) w wr))
  case atStart => exact ⟨0, [], by omega, by rfl, RdAt.start _, HN0.out, HT3.out, HU3.out⟩
  case round =>
    clear HN0 HU3 HT3
    obtain ⟨k, ns, hk, rfl, HD, HQ, HT, HU⟩ := hrel
    have HK : Hid _ := hk
    clear hk
    by_cases hlt : k < args.length
    · obtain ⟨g', o', e, _, hc⟩ := HT.out (k + 1) (by rw [txs_length]; simp; exact hlt)
      cases e
      rw [txs_get (by simp; exact hlt), List.getD_cons_succ] at hc
      have HFI : Hid _ := fun w => figures_any w (TX (args.getD k [])) (HA.out k hlt)
      cases hx : numW (args.getD k []) with
      | none =>
        have := read_bad hlt hx
        rw [HMS.out] at this
        cases this
      | some y =>
        have HX : Hid (numW (TX (args.getD k [])).data.toList = some y) := hx
        have HD2 : Hid _ := HD.out.next hlt hx
        have hnl := HD.out.len
        clear hx
        generalize TX (args.getD k []) = word at *
        go_wp2_with fail
        refine Calls.mono (HFI.out _) ?_
        rintro e w4 ⟨⟨x, ok, rfl, hok, _⟩, hu4⟩
        obtain ⟨rfl, rfl⟩ := hok _ HX.out
        have HQ4 : Hid (NAt w4 q ns) := HQ.out.upd hu4 (fun f => f)
        have hck := HQ4.out.at (k := k) (by omega)
        have hfz := HQ4.out.fz k
        have HP : Hid (NAt (w4.setCell ⟨q, k, none⟩ (.int .i64 x)) q (ns ++ [x])) := by
          have := HQ4.out.put x (by omega)
          rw [hnl] at this
          exact this
        have HU4 : Hid (Upd (fun _ => False) w (w4.setCell ⟨q, k, none⟩ (.int .i64 x))) := (HU.out.trans hu4 (fun _ _ f => f)).setCell _ (fun e => by have := HQW.out; simp only at e; omega) _
        have HT4 : Hid (TxAt (w4.setCell ⟨q, k, none⟩ (.int .i64 x)) (some ⟨g, o, none⟩) (txs (kAdd :: args))) := (HT.out.upd hu4 (fun _ _ _ f => f)).upd (Upd.one w4 q k (.int .i64 x)) (fun g' o' e => by cases e; omega)
        clear hu4 hc
        go_wp2_with fail
        go_roundg (args.length - (k + 1))
        case rel => exact ⟨k + 1, ns ++ [x], by omega, by go_num, HD2.out, HP.out, HT4.out, HU4.out⟩
        case measure => have := HK.out; omega
    · have hke : k = args.length := by have := HK.out; omega
      have hns : ns = ms := by have := HD.out; rw [hke] at this; exact this.fin HMS.out
      subst hns
      obtain ⟨g', o', e, _, hc⟩ := HT.out 0 (by rw [txs_length]; simp)
      cases e
      rw [txs_get (by simp), Nat.add_zero, List.getD_cons_zero] at hc
      have n0 := HQ.out.c0
      have n1 := HQ.out.c1
      have n2 := HQ.out.c2
      have HRW : Hid (RHo wr rh rm base bx v h) := HR.out.same HU.out
      have c0 := HRW.out.c0
      clear HD HQ HT hke HMS HA HM
      generalize ns.getD 0 0 = a at *
      generalize ns.getD 1 0 = b at *
      generalize ns.getD 2 0 = c at *
      have HCD : Hid _ := HOk.code HOK.out (acOf kAdd 0 0 0) (Int.le_refl _) (by show (0 : Int) ≤ 255; omega)
      rw [did_add] at HCD
      have HAC : Hid _ := dm_add HRW.out
      have HF : Hid _ := fun w => fault_any w (hAdd h).1.2 HCD.out.1 (by have := HCD.out.2; omega)
      have HD9 : Hid _ := fun w => dec_any w (hAdd h).1.1 (add_le h).1 (by have := (add_le h).2; omega)
      by_cases h0 : 0 < (hAdd h).1.2
      · have d0 : decide (0 < (hAdd h).1.2) = true := by simp; exact h0
        go_wp2_with (first
          | (go_at_call 17; refine Calls.mono (HAC.out) ?_; rintro e w5 ⟨rfl, hd5⟩)
          | (go_at_call 15; refine Calls.mono (HF.out _) ?_; rintro e w9 ⟨rfl, hu9⟩))
        go_ret
        unfold valT
        rw [if_pos h0]
        exact (DM.fore HU.out (hd5.more hu9)).fin
      · have HE : Hid _ := show valT (hAdd h).1.1 (hAdd h).1.2 = numT (hAdd h).1.1 from by unfold valT; rw [if_neg h0]
        have d0 : decide (0 < (hAdd h).1.2) = false := by simp; omega
        go_wp2_with (first
          | (go_at_call 17; refine Calls.mono (HAC.out) ?_; rintro e w5 ⟨rfl, hd5⟩)
          | (go_at_call 18; refine Calls.mono (HD9.out _) ?_; rintro e w9 ⟨rfl, hu9⟩))
        go_ret
        rw [HE.out]
        exact (DM.fore HU.out (hd5.more hu9)).fin
set_option maxHeartbeats 2000000 in
theorem Say_scanall (r : RHo w rh rm base bx v h) (ok : HOk h n k) (hk : k ≤ 1000) (s : ByteArray) (hs : s.size ≤ 200) (args : List (List UInt8)) (hw : wordsL s.data.toList = kScanall :: args) (hl : args.length = 0) (ms : List Int) (hn : args.mapM numW = some ms) :
    Calls Tryz.prog 8 #[.pointer (some ⟨rh, 0, none⟩), .string s] w (DP w rh rm base bx h (ansL h kScanall (ms.getD 0 0) (ms.getD 1 0) (ms.getD 2 0))) := by
  rw [ans_scanall]
  have HR : Hid _ := r
  have HOK : Hid _ := ok
  have HKK : Hid _ := hk
  have HW : Hid _ := words_any w s (by omega)
  rw [hw] at HW
  have HM : Hid (∀ w, Calls Tryz.prog 14 #[.string (TX kScanall)] w fun e w' => e = .returned (.int .i64 (args.length : Int)) ∧ w' = w) := fun w => by
    rw [hl]
    exact many_scanall w
  have HMS : Hid _ := hn
  have ht0 : (TX kScanall).toList = [115, 99, 97, 110, 97, 108, 108] := TX_toList _
  have hz : s.size = s.data.toList.length := (Array.length_toList (xs := s.data)).symm
  have HA : Hid (∀ i, i < args.length → (TX (args.getD i [])).size ≤ 300) := fun i hi => by
    have := words_len s.data.toList (args.getD i []) (by rw [hw, List.getD_eq_getElem?_getD, List.getElem?_eq_getElem hi]; exact List.mem_cons_of_mem _ (List.getElem_mem hi))
    rw [TX_size]
    omega
  have h3 : args.length ≤ 3 := by omega
  clear r hw hn hz ok hk
  have HLL : Hid _ := hl
  clear hl
  have hI : ((args.length : Int) != (args.length : Int)) = false := by simp
  have hI2 : decide (200 < (s.size : Int)) = false := by simp; omega
  go_enter Tryz.func8, Tryz.ntmps8
  go_wp2_with fail
  refine Calls.mono HW.out ?_
  rintro e w2 ⟨v2, rfl, hs2, hu2⟩
  obtain ⟨a, cap, rfl, ht, hbs⟩ := hs2.txAt
  obtain ⟨g, o, rfl, hg, hc⟩ := ht 0 (by rw [txs_length]; simp)
  rw [txs_get (by simp), Nat.add_zero] at hc
  rw [txs_length]
  simp only [List.getD_cons_zero, List.length_cons] at hc ⊢
  have HT : Hid (TxAt w2 (some ⟨g, o, none⟩) (txs (kScanall :: args))) := ht
  have HBS : Hid (w.heap.size ≤ g) := hbs g o rfl
  have HU2 : Hid _ := hu2
  clear hs2 ht hbs HW hu2
  go_wp2_with (first
    | (go_at_call 14; refine Calls.mono (HM.out _) ?_; rintro e w3 ⟨rfl, hw3⟩; subst hw3))
  have N0 : NAt (w3.alloc (.cells #[.int .i64 0, .int .i64 0, .int .i64 0] 56)) w3.heap.size [] := NAt.new w3 _
  have HU3 : Hid (Upd (fun _ => False) w (w3.alloc (.cells #[.int .i64 0, .int .i64 0, .int .i64 0] 56))) := HU2.out.alloc _
  have HT3 : Hid (TxAt (w3.alloc (.cells #[.int .i64 0, .int .i64 0, .int .i64 0] 56)) (some ⟨g, o, none⟩) (txs (kScanall :: args))) := HT.out.upd ((Upd.refl (fun _ => False) w3).alloc _) (fun _ _ _ f => f)
  have hqg : g < w3.heap.size := hg
  have HQW : Hid (w.heap.size ≤ w3.heap.size) := HU2.out.size
  have HN0 : Hid _ := N0
  clear HT hc hg N0
  revert HN0 HU3 HT3
  generalize w3.alloc (.cells #[.int .i64 0, .int .i64 0, .int .i64 0] 56) = wb
  generalize w3.heap.size = q at *
  intro HU3 HT3 HN0
  go_loopg [7] args.length (fun gk iv wr => ∃ (k : Nat) (ns : List Int), k + gk = args.length ∧ iv = .int .i64 ((k : Int) + 1) ∧ Hid (RdAt args k ns) ∧ Hid (NAt wr q ns) ∧ Hid (TxAt wr (some ⟨g, o, none⟩) (txs (kScanall :: args))) ∧ Hid (Upd (fun _ => False) w wr))
  case atStart => exact ⟨0, [], by omega, by rfl, RdAt.start _, HN0.out, HT3.out, HU3.out⟩
  case round =>
    clear HN0 HU3 HT3
    obtain ⟨k, ns, hk, rfl, HD, HQ, HT, HU⟩ := hrel
    have HK : Hid _ := hk
    clear hk
    by_cases hlt : k < args.length
    · obtain ⟨g', o', e, _, hc⟩ := HT.out (k + 1) (by rw [txs_length]; simp; exact hlt)
      cases e
      rw [txs_get (by simp; exact hlt), List.getD_cons_succ] at hc
      have HFI : Hid _ := fun w => figures_any w (TX (args.getD k [])) (HA.out k hlt)
      cases hx : numW (args.getD k []) with
      | none =>
        have := read_bad hlt hx
        rw [HMS.out] at this
        cases this
      | some y =>
        have HX : Hid (numW (TX (args.getD k [])).data.toList = some y) := hx
        have HD2 : Hid _ := HD.out.next hlt hx
        have hnl := HD.out.len
        clear hx
        generalize TX (args.getD k []) = word at *
        go_wp2_with fail
        refine Calls.mono (HFI.out _) ?_
        rintro e w4 ⟨⟨x, ok, rfl, hok, _⟩, hu4⟩
        obtain ⟨rfl, rfl⟩ := hok _ HX.out
        have HQ4 : Hid (NAt w4 q ns) := HQ.out.upd hu4 (fun f => f)
        have hck := HQ4.out.at (k := k) (by omega)
        have hfz := HQ4.out.fz k
        have HP : Hid (NAt (w4.setCell ⟨q, k, none⟩ (.int .i64 x)) q (ns ++ [x])) := by
          have := HQ4.out.put x (by omega)
          rw [hnl] at this
          exact this
        have HU4 : Hid (Upd (fun _ => False) w (w4.setCell ⟨q, k, none⟩ (.int .i64 x))) := (HU.out.trans hu4 (fun _ _ f => f)).setCell _ (fun e => by have := HQW.out; simp only at e; omega) _
        have HT4 : Hid (TxAt (w4.setCell ⟨q, k, none⟩ (.int .i64 x)) (some ⟨g, o, none⟩) (txs (kScanall :: args))) := (HT.out.upd hu4 (fun _ _ _ f => f)).upd (Upd.one w4 q k (.int .i64 x)) (fun g' o' e => by cases e; omega)
        clear hu4 hc
        go_wp2_with fail
        go_roundg (args.length - (k + 1))
        case rel => exact ⟨k + 1, ns ++ [x], by omega, by go_num, HD2.out, HP.out, HT4.out, HU4.out⟩
        case measure => have := HK.out; omega
    · have hke : k = args.length := by have := HK.out; omega
      have hns : ns = ms := by have := HD.out; rw [hke] at this; exact this.fin HMS.out
      subst hns
      obtain ⟨g', o', e, _, hc⟩ := HT.out 0 (by rw [txs_length]; simp)
      cases e
      rw [txs_get (by simp), Nat.add_zero, List.getD_cons_zero] at hc
      have n0 := HQ.out.c0
      have n1 := HQ.out.c1
      have n2 := HQ.out.c2
      have HRW : Hid (RHo wr rh rm base bx v h) := HR.out.same HU.out
      have c0 := HRW.out.c0
      clear HD HQ HT hke HMS HA HM
      generalize ns.getD 0 0 = a at *
      generalize ns.getD 1 0 = b at *
      generalize ns.getD 2 0 = c at *
      have HAC : Hid _ := dm_scanall HRW.out HOK.out HKK.out
      have HB : Hid _ := scanTo_le h 64
      have HD9 : Hid _ := fun w => dec_any w (hScanTo h 64).1 HB.out.1 (by have := HB.out.2; omega)
      go_wp2_with (first
        | (go_at_call 19; refine Calls.mono (HAC.out) ?_; rintro e w5 ⟨rfl, hd5⟩)
        | (go_at_call 18; refine Calls.mono (HD9.out _) ?_; rintro e w9 ⟨rfl, hu9⟩))
      go_ret
      exact (DM.fore HU.out (hd5.more hu9)).fin
set_option maxHeartbeats 2000000 in
theorem Say_promised (r : RHo w rh rm base bx v h) (ok : HOk h n k) (hk : k ≤ 1000) (s : ByteArray) (hs : s.size ≤ 200) (args : List (List UInt8)) (hw : wordsL s.data.toList = kPromised :: args) (hl : args.length = 0) (ms : List Int) (hn : args.mapM numW = some ms) :
    Calls Tryz.prog 8 #[.pointer (some ⟨rh, 0, none⟩), .string s] w (DP w rh rm base bx h (ansL h kPromised (ms.getD 0 0) (ms.getD 1 0) (ms.getD 2 0))) := by
  rw [ans_promised]
  have HR : Hid _ := r
  have HOK : Hid _ := ok
  have HKK : Hid _ := hk
  have HW : Hid _ := words_any w s (by omega)
  rw [hw] at HW
  have HM : Hid (∀ w, Calls Tryz.prog 14 #[.string (TX kPromised)] w fun e w' => e = .returned (.int .i64 (args.length : Int)) ∧ w' = w) := fun w => by
    rw [hl]
    exact many_promised w
  have HMS : Hid _ := hn
  have ht0 : (TX kPromised).toList = [112, 114, 111, 109, 105, 115, 101, 100] := TX_toList _
  have hz : s.size = s.data.toList.length := (Array.length_toList (xs := s.data)).symm
  have HA : Hid (∀ i, i < args.length → (TX (args.getD i [])).size ≤ 300) := fun i hi => by
    have := words_len s.data.toList (args.getD i []) (by rw [hw, List.getD_eq_getElem?_getD, List.getElem?_eq_getElem hi]; exact List.mem_cons_of_mem _ (List.getElem_mem hi))
    rw [TX_size]
    omega
  have h3 : args.length ≤ 3 := by omega
  clear r hw hn hz ok hk
  have HLL : Hid _ := hl
  clear hl
  have hI : ((args.length : Int) != (args.length : Int)) = false := by simp
  have hI2 : decide (200 < (s.size : Int)) = false := by simp; omega
  go_enter Tryz.func8, Tryz.ntmps8
  go_wp2_with fail
  refine Calls.mono HW.out ?_
  rintro e w2 ⟨v2, rfl, hs2, hu2⟩
  obtain ⟨a, cap, rfl, ht, hbs⟩ := hs2.txAt
  obtain ⟨g, o, rfl, hg, hc⟩ := ht 0 (by rw [txs_length]; simp)
  rw [txs_get (by simp), Nat.add_zero] at hc
  rw [txs_length]
  simp only [List.getD_cons_zero, List.length_cons] at hc ⊢
  have HT : Hid (TxAt w2 (some ⟨g, o, none⟩) (txs (kPromised :: args))) := ht
  have HBS : Hid (w.heap.size ≤ g) := hbs g o rfl
  have HU2 : Hid _ := hu2
  clear hs2 ht hbs HW hu2
  go_wp2_with (first
    | (go_at_call 14; refine Calls.mono (HM.out _) ?_; rintro e w3 ⟨rfl, hw3⟩; subst hw3))
  have N0 : NAt (w3.alloc (.cells #[.int .i64 0, .int .i64 0, .int .i64 0] 56)) w3.heap.size [] := NAt.new w3 _
  have HU3 : Hid (Upd (fun _ => False) w (w3.alloc (.cells #[.int .i64 0, .int .i64 0, .int .i64 0] 56))) := HU2.out.alloc _
  have HT3 : Hid (TxAt (w3.alloc (.cells #[.int .i64 0, .int .i64 0, .int .i64 0] 56)) (some ⟨g, o, none⟩) (txs (kPromised :: args))) := HT.out.upd ((Upd.refl (fun _ => False) w3).alloc _) (fun _ _ _ f => f)
  have hqg : g < w3.heap.size := hg
  have HQW : Hid (w.heap.size ≤ w3.heap.size) := HU2.out.size
  have HN0 : Hid _ := N0
  clear HT hc hg N0
  revert HN0 HU3 HT3
  generalize w3.alloc (.cells #[.int .i64 0, .int .i64 0, .int .i64 0] 56) = wb
  generalize w3.heap.size = q at *
  intro HU3 HT3 HN0
  go_loopg [7] args.length (fun gk iv wr => ∃ (k : Nat) (ns : List Int), k + gk = args.length ∧ iv = .int .i64 ((k : Int) + 1) ∧ Hid (RdAt args k ns) ∧ Hid (NAt wr q ns) ∧ Hid (TxAt wr (some ⟨g, o, none⟩) (txs (kPromised :: args))) ∧ Hid (Upd (fun _ => False) w wr))
  case atStart => exact ⟨0, [], by omega, by rfl, RdAt.start _, HN0.out, HT3.out, HU3.out⟩
  case round =>
    clear HN0 HU3 HT3
    obtain ⟨k, ns, hk, rfl, HD, HQ, HT, HU⟩ := hrel
    have HK : Hid _ := hk
    clear hk
    by_cases hlt : k < args.length
    · obtain ⟨g', o', e, _, hc⟩ := HT.out (k + 1) (by rw [txs_length]; simp; exact hlt)
      cases e
      rw [txs_get (by simp; exact hlt), List.getD_cons_succ] at hc
      have HFI : Hid _ := fun w => figures_any w (TX (args.getD k [])) (HA.out k hlt)
      cases hx : numW (args.getD k []) with
      | none =>
        have := read_bad hlt hx
        rw [HMS.out] at this
        cases this
      | some y =>
        have HX : Hid (numW (TX (args.getD k [])).data.toList = some y) := hx
        have HD2 : Hid _ := HD.out.next hlt hx
        have hnl := HD.out.len
        clear hx
        generalize TX (args.getD k []) = word at *
        go_wp2_with fail
        refine Calls.mono (HFI.out _) ?_
        rintro e w4 ⟨⟨x, ok, rfl, hok, _⟩, hu4⟩
        obtain ⟨rfl, rfl⟩ := hok _ HX.out
        have HQ4 : Hid (NAt w4 q ns) := HQ.out.upd hu4 (fun f => f)
        have hck := HQ4.out.at (k := k) (by omega)
        have hfz := HQ4.out.fz k
        have HP : Hid (NAt (w4.setCell ⟨q, k, none⟩ (.int .i64 x)) q (ns ++ [x])) := by
          have := HQ4.out.put x (by omega)
          rw [hnl] at this
          exact this
        have HU4 : Hid (Upd (fun _ => False) w (w4.setCell ⟨q, k, none⟩ (.int .i64 x))) := (HU.out.trans hu4 (fun _ _ f => f)).setCell _ (fun e => by have := HQW.out; simp only at e; omega) _
        have HT4 : Hid (TxAt (w4.setCell ⟨q, k, none⟩ (.int .i64 x)) (some ⟨g, o, none⟩) (txs (kPromised :: args))) := (HT.out.upd hu4 (fun _ _ _ f => f)).upd (Upd.one w4 q k (.int .i64 x)) (fun g' o' e => by cases e; omega)
        clear hu4 hc
        go_wp2_with fail
        go_roundg (args.length - (k + 1))
        case rel => exact ⟨k + 1, ns ++ [x], by omega, by go_num, HD2.out, HP.out, HT4.out, HU4.out⟩
        case measure => have := HK.out; omega
    · have hke : k = args.length := by have := HK.out; omega
      have hns : ns = ms := by have := HD.out; rw [hke] at this; exact this.fin HMS.out
      subst hns
      obtain ⟨g', o', e, _, hc⟩ := HT.out 0 (by rw [txs_length]; simp)
      cases e
      rw [txs_get (by simp), Nat.add_zero, List.getD_cons_zero] at hc
      have n0 := HQ.out.c0
      have n1 := HQ.out.c1
      have n2 := HQ.out.c2
      have HRW : Hid (RHo wr rh rm base bx v h) := HR.out.same HU.out
      have c0 := HRW.out.c0
      clear HD HQ HT hke HMS HA HM
      generalize ns.getD 0 0 = a at *
      generalize ns.getD 1 0 = b at *
      generalize ns.getD 2 0 = c at *
      have HAC : Hid _ := dm_promised HRW.out
      have HB : Hid _ := prom_le h
      have HD9 : Hid _ := fun w => dec_any w ((pln (rowS h) 64 : Nat) : Int) HB.out.1 (by have := HB.out.2; omega)
      go_wp2_with (first
        | (go_at_call 23; refine Calls.mono (HAC.out) ?_; rintro e w5 ⟨rfl, hd5⟩)
        | (go_at_call 18; refine Calls.mono (HD9.out _) ?_; rintro e w9 ⟨rfl, hu9⟩))
      go_ret
      exact (DM.fore HU.out (hd5.more hu9)).fin
end Go.Proofs.YtadpibcgjgcjhabGreatDoor
/- The document's Host.Say, command by command (left, guests, frame). -/
namespace Go.Proofs.YtadpibcgjgcjhabGreatDoor
open Go.ChangeShapes Go.WideShapes Go.ChangeAt Go.RowKit
set_option maxRecDepth 100000
attribute [local go_sem ↓] Go.wp_at_zero Go.wp_at_succ
variable {W w w1 w2 w3 w' : World} {rh rm base : Nat} {bx bx2 : Nat → Nat} {v v2 : Nat → Value} {h h2 : Hs} {x : Gs} {n k j : Nat}

set_option maxHeartbeats 2000000 in
theorem Say_left (r : RHo w rh rm base bx v h) (ok : HOk h n k) (hk : k ≤ 1000) (s : ByteArray) (hs : s.size ≤ 200) (args : List (List UInt8)) (hw : wordsL s.data.toList = kLeft :: args) (hl : args.length = 0) (ms : List Int) (hn : args.mapM numW = some ms) :
    Calls Tryz.prog 8 #[.pointer (some ⟨rh, 0, none⟩), .string s] w (DP w rh rm base bx h (ansL h kLeft (ms.getD 0 0) (ms.getD 1 0) (ms.getD 2 0))) := by
  rw [ans_left]
  have HR : Hid _ := r
  have HOK : Hid _ := ok
  have HKK : Hid _ := hk
  have HW : Hid _ := words_any w s (by omega)
  rw [hw] at HW
  have HM : Hid (∀ w, Calls Tryz.prog 14 #[.string (TX kLeft)] w fun e w' => e = .returned (.int .i64 (args.length : Int)) ∧ w' = w) := fun w => by
    rw [hl]
    exact many_left w
  have HMS : Hid _ := hn
  have ht0 : (TX kLeft).toList = [108, 101, 102, 116] := TX_toList _
  have hz : s.size = s.data.toList.length := (Array.length_toList (xs := s.data)).symm
  have HA : Hid (∀ i, i < args.length → (TX (args.getD i [])).size ≤ 300) := fun i hi => by
    have := words_len s.data.toList (args.getD i []) (by rw [hw, List.getD_eq_getElem?_getD, List.getElem?_eq_getElem hi]; exact List.mem_cons_of_mem _ (List.getElem_mem hi))
    rw [TX_size]
    omega
  have h3 : args.length ≤ 3 := by omega
  clear r hw hn hz ok hk
  have HLL : Hid _ := hl
  clear hl
  have hI : ((args.length : Int) != (args.length : Int)) = false := by simp
  have hI2 : decide (200 < (s.size : Int)) = false := by simp; omega
  go_enter Tryz.func8, Tryz.ntmps8
  go_wp2_with fail
  refine Calls.mono HW.out ?_
  rintro e w2 ⟨v2, rfl, hs2, hu2⟩
  obtain ⟨a, cap, rfl, ht, hbs⟩ := hs2.txAt
  obtain ⟨g, o, rfl, hg, hc⟩ := ht 0 (by rw [txs_length]; simp)
  rw [txs_get (by simp), Nat.add_zero] at hc
  rw [txs_length]
  simp only [List.getD_cons_zero, List.length_cons] at hc ⊢
  have HT : Hid (TxAt w2 (some ⟨g, o, none⟩) (txs (kLeft :: args))) := ht
  have HBS : Hid (w.heap.size ≤ g) := hbs g o rfl
  have HU2 : Hid _ := hu2
  clear hs2 ht hbs HW hu2
  go_wp2_with (first
    | (go_at_call 14; refine Calls.mono (HM.out _) ?_; rintro e w3 ⟨rfl, hw3⟩; subst hw3))
  have N0 : NAt (w3.alloc (.cells #[.int .i64 0, .int .i64 0, .int .i64 0] 56)) w3.heap.size [] := NAt.new w3 _
  have HU3 : Hid (Upd (fun _ => False) w (w3.alloc (.cells #[.int .i64 0, .int .i64 0, .int .i64 0] 56))) := HU2.out.alloc _
  have HT3 : Hid (TxAt (w3.alloc (.cells #[.int .i64 0, .int .i64 0, .int .i64 0] 56)) (some ⟨g, o, none⟩) (txs (kLeft :: args))) := HT.out.upd ((Upd.refl (fun _ => False) w3).alloc _) (fun _ _ _ f => f)
  have hqg : g < w3.heap.size := hg
  have HQW : Hid (w.heap.size ≤ w3.heap.size) := HU2.out.size
  have HN0 : Hid _ := N0
  clear HT hc hg N0
  revert HN0 HU3 HT3
  generalize w3.alloc (.cells #[.int .i64 0, .int .i64 0, .int .i64 0] 56) = wb
  generalize w3.heap.size = q at *
  intro HU3 HT3 HN0
  go_loopg [7] args.length (fun gk iv wr => ∃ (k : Nat) (ns : List Int), k + gk = args.length ∧ iv = .int .i64 ((k : Int) + 1) ∧ Hid (RdAt args k ns) ∧ Hid (NAt wr q ns) ∧ Hid (TxAt wr (some ⟨g, o, none⟩) (txs (kLeft :: args))) ∧ Hid (Upd (fun _ => False) w wr))
  case atStart => exact ⟨0, [], by omega, by rfl, RdAt.start _, HN0.out, HT3.out, HU3.out⟩
  case round =>
    clear HN0 HU3 HT3
    obtain ⟨k, ns, hk, rfl, HD, HQ, HT, HU⟩ := hrel
    have HK : Hid _ := hk
    clear hk
    by_cases hlt : k < args.length
    · obtain ⟨g', o', e, _, hc⟩ := HT.out (k + 1) (by rw [txs_length]; simp; exact hlt)
      cases e
      rw [txs_get (by simp; exact hlt), List.getD_cons_succ] at hc
      have HFI : Hid _ := fun w => figures_any w (TX (args.getD k [])) (HA.out k hlt)
      cases hx : numW (args.getD k []) with
      | none =>
        have := read_bad hlt hx
        rw [HMS.out] at this
        cases this
      | some y =>
        have HX : Hid (numW (TX (args.getD k [])).data.toList = some y) := hx
        have HD2 : Hid _ := HD.out.next hlt hx
        have hnl := HD.out.len
        clear hx
        generalize TX (args.getD k []) = word at *
        go_wp2_with fail
        refine Calls.mono (HFI.out _) ?_
        rintro e w4 ⟨⟨x, ok, rfl, hok, _⟩, hu4⟩
        obtain ⟨rfl, rfl⟩ := hok _ HX.out
        have HQ4 : Hid (NAt w4 q ns) := HQ.out.upd hu4 (fun f => f)
        have hck := HQ4.out.at (k := k) (by omega)
        have hfz := HQ4.out.fz k
        have HP : Hid (NAt (w4.setCell ⟨q, k, none⟩ (.int .i64 x)) q (ns ++ [x])) := by
          have := HQ4.out.put x (by omega)
          rw [hnl] at this
          exact this
        have HU4 : Hid (Upd (fun _ => False) w (w4.setCell ⟨q, k, none⟩ (.int .i64 x))) := (HU.out.trans hu4 (fun _ _ f => f)).setCell _ (fun e => by have := HQW.out; simp only at e; omega) _
        have HT4 : Hid (TxAt (w4.setCell ⟨q, k, none⟩ (.int .i64 x)) (some ⟨g, o, none⟩) (txs (kLeft :: args))) := (HT.out.upd hu4 (fun _ _ _ f => f)).upd (Upd.one w4 q k (.int .i64 x)) (fun g' o' e => by cases e; omega)
        clear hu4 hc
        go_wp2_with fail
        go_roundg (args.length - (k + 1))
        case rel => exact ⟨k + 1, ns ++ [x], by omega, by go_num, HD2.out, HP.out, HT4.out, HU4.out⟩
        case measure => have := HK.out; omega
    · have hke : k = args.length := by have := HK.out; omega
      have hns : ns = ms := by have := HD.out; rw [hke] at this; exact this.fin HMS.out
      subst hns
      obtain ⟨g', o', e, _, hc⟩ := HT.out 0 (by rw [txs_length]; simp)
      cases e
      rw [txs_get (by simp), Nat.add_zero, List.getD_cons_zero] at hc
      have n0 := HQ.out.c0
      have n1 := HQ.out.c1
      have n2 := HQ.out.c2
      have HRW : Hid (RHo wr rh rm base bx v h) := HR.out.same HU.out
      have c0 := HRW.out.c0
      clear HD HQ HT hke HMS HA HM
      generalize ns.getD 0 0 = a at *
      generalize ns.getD 1 0 = b at *
      generalize ns.getD 2 0 = c at *
      have HAC : Hid _ := dm_left HRW.out
      have HB : Hid _ := left_le HRW.out
      have HD9 : Hid _ := fun w => dec_any w (h.s.left : Int) HB.out.1 (by have := HB.out.2; omega)
      go_wp2_with (first
        | (go_at_call 22; refine Calls.mono (HAC.out) ?_; rintro e w5 ⟨rfl, hd5⟩)
        | (go_at_call 18; refine Calls.mono (HD9.out _) ?_; rintro e w9 ⟨rfl, hu9⟩))
      go_ret
      exact (DM.fore HU.out (hd5.more hu9)).fin
set_option maxHeartbeats 2000000 in
theorem Say_guests (r : RHo w rh rm base bx v h) (ok : HOk h n k) (hk : k ≤ 1000) (s : ByteArray) (hs : s.size ≤ 200) (args : List (List UInt8)) (hw : wordsL s.data.toList = kGuests :: args) (hl : args.length = 0) (ms : List Int) (hn : args.mapM numW = some ms) :
    Calls Tryz.prog 8 #[.pointer (some ⟨rh, 0, none⟩), .string s] w (DP w rh rm base bx h (ansL h kGuests (ms.getD 0 0) (ms.getD 1 0) (ms.getD 2 0))) := by
  rw [ans_guests]
  have HR : Hid _ := r
  have HOK : Hid _ := ok
  have HKK : Hid _ := hk
  have HW : Hid _ := words_any w s (by omega)
  rw [hw] at HW
  have HM : Hid (∀ w, Calls Tryz.prog 14 #[.string (TX kGuests)] w fun e w' => e = .returned (.int .i64 (args.length : Int)) ∧ w' = w) := fun w => by
    rw [hl]
    exact many_guests w
  have HMS : Hid _ := hn
  have ht0 : (TX kGuests).toList = [103, 117, 101, 115, 116, 115] := TX_toList _
  have hz : s.size = s.data.toList.length := (Array.length_toList (xs := s.data)).symm
  have HA : Hid (∀ i, i < args.length → (TX (args.getD i [])).size ≤ 300) := fun i hi => by
    have := words_len s.data.toList (args.getD i []) (by rw [hw, List.getD_eq_getElem?_getD, List.getElem?_eq_getElem hi]; exact List.mem_cons_of_mem _ (List.getElem_mem hi))
    rw [TX_size]
    omega
  have h3 : args.length ≤ 3 := by omega
  clear r hw hn hz ok hk
  have HLL : Hid _ := hl
  clear hl
  have hI : ((args.length : Int) != (args.length : Int)) = false := by simp
  have hI2 : decide (200 < (s.size : Int)) = false := by simp; omega
  go_enter Tryz.func8, Tryz.ntmps8
  go_wp2_with fail
  refine Calls.mono HW.out ?_
  rintro e w2 ⟨v2, rfl, hs2, hu2⟩
  obtain ⟨a, cap, rfl, ht, hbs⟩ := hs2.txAt
  obtain ⟨g, o, rfl, hg, hc⟩ := ht 0 (by rw [txs_length]; simp)
  rw [txs_get (by simp), Nat.add_zero] at hc
  rw [txs_length]
  simp only [List.getD_cons_zero, List.length_cons] at hc ⊢
  have HT : Hid (TxAt w2 (some ⟨g, o, none⟩) (txs (kGuests :: args))) := ht
  have HBS : Hid (w.heap.size ≤ g) := hbs g o rfl
  have HU2 : Hid _ := hu2
  clear hs2 ht hbs HW hu2
  go_wp2_with (first
    | (go_at_call 14; refine Calls.mono (HM.out _) ?_; rintro e w3 ⟨rfl, hw3⟩; subst hw3))
  have N0 : NAt (w3.alloc (.cells #[.int .i64 0, .int .i64 0, .int .i64 0] 56)) w3.heap.size [] := NAt.new w3 _
  have HU3 : Hid (Upd (fun _ => False) w (w3.alloc (.cells #[.int .i64 0, .int .i64 0, .int .i64 0] 56))) := HU2.out.alloc _
  have HT3 : Hid (TxAt (w3.alloc (.cells #[.int .i64 0, .int .i64 0, .int .i64 0] 56)) (some ⟨g, o, none⟩) (txs (kGuests :: args))) := HT.out.upd ((Upd.refl (fun _ => False) w3).alloc _) (fun _ _ _ f => f)
  have hqg : g < w3.heap.size := hg
  have HQW : Hid (w.heap.size ≤ w3.heap.size) := HU2.out.size
  have HN0 : Hid _ := N0
  clear HT hc hg N0
  revert HN0 HU3 HT3
  generalize w3.alloc (.cells #[.int .i64 0, .int .i64 0, .int .i64 0] 56) = wb
  generalize w3.heap.size = q at *
  intro HU3 HT3 HN0
  go_loopg [7] args.length (fun gk iv wr => ∃ (k : Nat) (ns : List Int), k + gk = args.length ∧ iv = .int .i64 ((k : Int) + 1) ∧ Hid (RdAt args k ns) ∧ Hid (NAt wr q ns) ∧ Hid (TxAt wr (some ⟨g, o, none⟩) (txs (kGuests :: args))) ∧ Hid (Upd (fun _ => False) w wr))
  case atStart => exact ⟨0, [], by omega, by rfl, RdAt.start _, HN0.out, HT3.out, HU3.out⟩
  case round =>
    clear HN0 HU3 HT3
    obtain ⟨k, ns, hk, rfl, HD, HQ, HT, HU⟩ := hrel
    have HK : Hid _ := hk
    clear hk
    by_cases hlt : k < args.length
    · obtain ⟨g', o', e, _, hc⟩ := HT.out (k + 1) (by rw [txs_length]; simp; exact hlt)
      cases e
      rw [txs_get (by simp; exact hlt), List.getD_cons_succ] at hc
      have HFI : Hid _ := fun w => figures_any w (TX (args.getD k [])) (HA.out k hlt)
      cases hx : numW (args.getD k []) with
      | none =>
        have := read_bad hlt hx
        rw [HMS.out] at this
        cases this
      | some y =>
        have HX : Hid (numW (TX (args.getD k [])).data.toList = some y) := hx
        have HD2 : Hid _ := HD.out.next hlt hx
        have hnl := HD.out.len
        clear hx
        generalize TX (args.getD k []) = word at *
        go_wp2_with fail
        refine Calls.mono (HFI.out _) ?_
        rintro e w4 ⟨⟨x, ok, rfl, hok, _⟩, hu4⟩
        obtain ⟨rfl, rfl⟩ := hok _ HX.out
        have HQ4 : Hid (NAt w4 q ns) := HQ.out.upd hu4 (fun f => f)
        have hck := HQ4.out.at (k := k) (by omega)
        have hfz := HQ4.out.fz k
        have HP : Hid (NAt (w4.setCell ⟨q, k, none⟩ (.int .i64 x)) q (ns ++ [x])) := by
          have := HQ4.out.put x (by omega)
          rw [hnl] at this
          exact this
        have HU4 : Hid (Upd (fun _ => False) w (w4.setCell ⟨q, k, none⟩ (.int .i64 x))) := (HU.out.trans hu4 (fun _ _ f => f)).setCell _ (fun e => by have := HQW.out; simp only at e; omega) _
        have HT4 : Hid (TxAt (w4.setCell ⟨q, k, none⟩ (.int .i64 x)) (some ⟨g, o, none⟩) (txs (kGuests :: args))) := (HT.out.upd hu4 (fun _ _ _ f => f)).upd (Upd.one w4 q k (.int .i64 x)) (fun g' o' e => by cases e; omega)
        clear hu4 hc
        go_wp2_with fail
        go_roundg (args.length - (k + 1))
        case rel => exact ⟨k + 1, ns ++ [x], by omega, by go_num, HD2.out, HP.out, HT4.out, HU4.out⟩
        case measure => have := HK.out; omega
    · have hke : k = args.length := by have := HK.out; omega
      have hns : ns = ms := by have := HD.out; rw [hke] at this; exact this.fin HMS.out
      subst hns
      obtain ⟨g', o', e, _, hc⟩ := HT.out 0 (by rw [txs_length]; simp)
      cases e
      rw [txs_get (by simp), Nat.add_zero, List.getD_cons_zero] at hc
      have n0 := HQ.out.c0
      have n1 := HQ.out.c1
      have n2 := HQ.out.c2
      have HRW : Hid (RHo wr rh rm base bx v h) := HR.out.same HU.out
      have c0 := HRW.out.c0
      clear HD HQ HT hke HMS HA HM
      generalize ns.getD 0 0 = a at *
      generalize ns.getD 1 0 = b at *
      generalize ns.getD 2 0 = c at *
      have HAC : Hid _ := rGuests_any HRW.out
      go_wp2_with fail
      refine Calls.mono HAC.out ?_
      rintro e w5 ⟨v5, rfl, hs5, hu5⟩
      obtain ⟨a5, cap5, rfl, hc5⟩ := hs5.form
      have HLI : Hid _ := listed_any w5 a5 cap5 ((hNums h 4).map fun (i : Nat) => (i : Int)) (ints_of hc5) (by rw [List.length_map]; exact hNums_len h 4) (nums_le h)
      rw [List.length_map] at HLI
      have HU5 : Hid _ := hu5
      clear hc5 hs5 hu5 HAC
      go_wp2_with fail
      refine Calls.mono HLI.out ?_
      rintro e w6 ⟨rfl, hu6⟩
      go_wp2_with fail
      go_ret
      rw [guests_lst]
      exact (DM.more (DM.more (DM.more (DM.refl HR.out) HU.out) HU5.out) hu6).fin
set_option maxHeartbeats 2000000 in
theorem Say_frame (r : RHo w rh rm base bx v h) (ok : HOk h n k) (hk : k ≤ 1000) (s : ByteArray) (hs : s.size ≤ 200) (args : List (List UInt8)) (hw : wordsL s.data.toList = kFrame :: args) (hl : args.length = 1) (ms : List Int) (hn : args.mapM numW = some ms) :
    Calls Tryz.prog 8 #[.pointer (some ⟨rh, 0, none⟩), .string s] w (DP w rh rm base bx h (ansL h kFrame (ms.getD 0 0) (ms.getD 1 0) (ms.getD 2 0))) := by
  rw [ans_frame]
  have HR : Hid _ := r
  have HOK : Hid _ := ok
  have HKK : Hid _ := hk
  have HW : Hid _ := words_any w s (by omega)
  rw [hw] at HW
  have HM : Hid (∀ w, Calls Tryz.prog 14 #[.string (TX kFrame)] w fun e w' => e = .returned (.int .i64 (args.length : Int)) ∧ w' = w) := fun w => by
    rw [hl]
    exact many_frame w
  have HMS : Hid _ := hn
  have ht0 : (TX kFrame).toList = [102, 114, 97, 109, 101] := TX_toList _
  have hz : s.size = s.data.toList.length := (Array.length_toList (xs := s.data)).symm
  have HA : Hid (∀ i, i < args.length → (TX (args.getD i [])).size ≤ 300) := fun i hi => by
    have := words_len s.data.toList (args.getD i []) (by rw [hw, List.getD_eq_getElem?_getD, List.getElem?_eq_getElem hi]; exact List.mem_cons_of_mem _ (List.getElem_mem hi))
    rw [TX_size]
    omega
  have h3 : args.length ≤ 3 := by omega
  clear r hw hn hz ok hk
  have HLL : Hid _ := hl
  clear hl
  have hI : ((args.length : Int) != (args.length : Int)) = false := by simp
  have hI2 : decide (200 < (s.size : Int)) = false := by simp; omega
  go_enter Tryz.func8, Tryz.ntmps8
  go_wp2_with fail
  refine Calls.mono HW.out ?_
  rintro e w2 ⟨v2, rfl, hs2, hu2⟩
  obtain ⟨a, cap, rfl, ht, hbs⟩ := hs2.txAt
  obtain ⟨g, o, rfl, hg, hc⟩ := ht 0 (by rw [txs_length]; simp)
  rw [txs_get (by simp), Nat.add_zero] at hc
  rw [txs_length]
  simp only [List.getD_cons_zero, List.length_cons] at hc ⊢
  have HT : Hid (TxAt w2 (some ⟨g, o, none⟩) (txs (kFrame :: args))) := ht
  have HBS : Hid (w.heap.size ≤ g) := hbs g o rfl
  have HU2 : Hid _ := hu2
  clear hs2 ht hbs HW hu2
  go_wp2_with (first
    | (go_at_call 14; refine Calls.mono (HM.out _) ?_; rintro e w3 ⟨rfl, hw3⟩; subst hw3))
  have N0 : NAt (w3.alloc (.cells #[.int .i64 0, .int .i64 0, .int .i64 0] 56)) w3.heap.size [] := NAt.new w3 _
  have HU3 : Hid (Upd (fun _ => False) w (w3.alloc (.cells #[.int .i64 0, .int .i64 0, .int .i64 0] 56))) := HU2.out.alloc _
  have HT3 : Hid (TxAt (w3.alloc (.cells #[.int .i64 0, .int .i64 0, .int .i64 0] 56)) (some ⟨g, o, none⟩) (txs (kFrame :: args))) := HT.out.upd ((Upd.refl (fun _ => False) w3).alloc _) (fun _ _ _ f => f)
  have hqg : g < w3.heap.size := hg
  have HQW : Hid (w.heap.size ≤ w3.heap.size) := HU2.out.size
  have HN0 : Hid _ := N0
  clear HT hc hg N0
  revert HN0 HU3 HT3
  generalize w3.alloc (.cells #[.int .i64 0, .int .i64 0, .int .i64 0] 56) = wb
  generalize w3.heap.size = q at *
  intro HU3 HT3 HN0
  go_loopg [7] args.length (fun gk iv wr => ∃ (k : Nat) (ns : List Int), k + gk = args.length ∧ iv = .int .i64 ((k : Int) + 1) ∧ Hid (RdAt args k ns) ∧ Hid (NAt wr q ns) ∧ Hid (TxAt wr (some ⟨g, o, none⟩) (txs (kFrame :: args))) ∧ Hid (Upd (fun _ => False) w wr))
  case atStart => exact ⟨0, [], by omega, by rfl, RdAt.start _, HN0.out, HT3.out, HU3.out⟩
  case round =>
    clear HN0 HU3 HT3
    obtain ⟨k, ns, hk, rfl, HD, HQ, HT, HU⟩ := hrel
    have HK : Hid _ := hk
    clear hk
    by_cases hlt : k < args.length
    · obtain ⟨g', o', e, _, hc⟩ := HT.out (k + 1) (by rw [txs_length]; simp; exact hlt)
      cases e
      rw [txs_get (by simp; exact hlt), List.getD_cons_succ] at hc
      have HFI : Hid _ := fun w => figures_any w (TX (args.getD k [])) (HA.out k hlt)
      cases hx : numW (args.getD k []) with
      | none =>
        have := read_bad hlt hx
        rw [HMS.out] at this
        cases this
      | some y =>
        have HX : Hid (numW (TX (args.getD k [])).data.toList = some y) := hx
        have HD2 : Hid _ := HD.out.next hlt hx
        have hnl := HD.out.len
        clear hx
        generalize TX (args.getD k []) = word at *
        go_wp2_with fail
        refine Calls.mono (HFI.out _) ?_
        rintro e w4 ⟨⟨x, ok, rfl, hok, _⟩, hu4⟩
        obtain ⟨rfl, rfl⟩ := hok _ HX.out
        have HQ4 : Hid (NAt w4 q ns) := HQ.out.upd hu4 (fun f => f)
        have hck := HQ4.out.at (k := k) (by omega)
        have hfz := HQ4.out.fz k
        have HP : Hid (NAt (w4.setCell ⟨q, k, none⟩ (.int .i64 x)) q (ns ++ [x])) := by
          have := HQ4.out.put x (by omega)
          rw [hnl] at this
          exact this
        have HU4 : Hid (Upd (fun _ => False) w (w4.setCell ⟨q, k, none⟩ (.int .i64 x))) := (HU.out.trans hu4 (fun _ _ f => f)).setCell _ (fun e => by have := HQW.out; simp only at e; omega) _
        have HT4 : Hid (TxAt (w4.setCell ⟨q, k, none⟩ (.int .i64 x)) (some ⟨g, o, none⟩) (txs (kFrame :: args))) := (HT.out.upd hu4 (fun _ _ _ f => f)).upd (Upd.one w4 q k (.int .i64 x)) (fun g' o' e => by cases e; omega)
        clear hu4 hc
        go_wp2_with fail
        go_roundg (args.length - (k + 1))
        case rel => exact ⟨k + 1, ns ++ [x], by omega, by go_num, HD2.out, HP.out, HT4.out, HU4.out⟩
        case measure => have := HK.out; omega
    · have hke : k = args.length := by have := HK.out; omega
      have hns : ns = ms := by have := HD.out; rw [hke] at this; exact this.fin HMS.out
      subst hns
      obtain ⟨g', o', e, _, hc⟩ := HT.out 0 (by rw [txs_length]; simp)
      cases e
      rw [txs_get (by simp), Nat.add_zero, List.getD_cons_zero] at hc
      have n0 := HQ.out.c0
      have n1 := HQ.out.c1
      have n2 := HQ.out.c2
      have HRW : Hid (RHo wr rh rm base bx v h) := HR.out.same HU.out
      have c0 := HRW.out.c0
      clear HD HQ HT hke HMS HA HM
      generalize ns.getD 0 0 = a at *
      generalize ns.getD 1 0 = b at *
      generalize ns.getD 2 0 = c at *
      have HAC : Hid (∀ w1, Upd (fun _ => False) wr w1 → _) := fun w1 u => rOf_any w1 rm a h.s (HRW.out.same u).ref
      have HB : Hid _ := HOk.refs HOK.out a
      have HF : Hid _ := fun w => fault_any w (h.s.of a).2.2 HB.out.2.2.2.2.1 (by have := HB.out.2.2.2.2.2; omega)
      by_cases h0 : 0 < (h.s.of a).2.2
      · have d0 : decide (0 < (h.s.of a).2.2) = true := by simp; exact h0
        have hqlt := World.block_lt_of_cell? wr _ n0
        have hrlt := World.block_lt_of_cell? wr _ c0
        simp only at hqlt hrlt
        go_wp2_with fail
        have HA0 : Hid _ := HAC.out wr.drew (Upd.refl _ _).drew
        have HA2 : Hid _ := HAC.out (wr.alloc (.cells #[.int .i64 0, .int .i64 0] 67)).drew ((Upd.refl _ _).alloc _).drew
        clear HAC
        go_region_with (first
          | (go_at_call 26; refine Calls.mono HA0.out ?_; rintro e w5 ⟨rfl, hu5⟩; obtain ⟨y0, y1, z0, z1⟩ := boxF w5; have U5 := (Upd.refl (fun _ => False) wr).drew.trans hu5 (fun _ _ f => f))
          | (go_at_call 26; refine Calls.mono HA2.out ?_; rintro e w5 ⟨rfl, hu5⟩; obtain ⟨y0, y1, z0, z1⟩ := boxFU (w := wr) hu5 rfl; have U5 := ((Upd.refl (fun _ => False) wr).alloc (.cells #[.int .i64 0, .int .i64 0] 67)).drew.trans hu5 (fun _ _ f => f)))
        all_goals first
          | (have hF := frA (c := (h.s.of a).1) (r := (h.s.of a).2.1) U5; clear y0 y1 z0 z1 hu5 U5 n0 n1 n2 c0 hc hqlt hrlt; revert hF; generalize w5.alloc (.cells #[.int .i64 (h.s.of a).1, .int .i64 (h.s.of a).2.1] 67) = w6; generalize w5.heap.size = q6; intro hF; have f0 := hF.1.c0; have f1 := hF.1.c1; have HUF : Hid _ := hF.2; clear hF
             go_wp2_with (go_at_call 15; refine Calls.mono (HF.out _) ?_; rintro e w9 ⟨rfl, hu9⟩)
             go_ret
             unfold frameT
             rw [if_pos h0]
             exact (DM.more (DM.more (DM.more (DM.refl HR.out) HU.out) HUF.out) hu9).fin)
          | (have hF := frS (c := (h.s.of a).1) (r := (h.s.of a).2.1) U5 (Nat.le_refl _) y0 y1; clear y0 y1 z0 z1 hu5 U5 n0 n1 n2 c0 hc hqlt hrlt; revert hF; generalize (w5.setCell ⟨wr.heap.size, 0, none⟩ (.int .i64 (h.s.of a).1)).setCell ⟨wr.heap.size, 1, none⟩ (.int .i64 (h.s.of a).2.1) = w6; generalize wr.heap.size = q6; intro hF; have f0 := hF.1.c0; have f1 := hF.1.c1; have HUF : Hid _ := hF.2; clear hF
             go_wp2_with (go_at_call 15; refine Calls.mono (HF.out _) ?_; rintro e w9 ⟨rfl, hu9⟩)
             go_ret
             unfold frameT
             rw [if_pos h0]
             exact (DM.more (DM.more (DM.more (DM.refl HR.out) HU.out) HUF.out) hu9).fin)
      · have H0 : Hid (frameT (h.s.of a) = listT [(h.s.of a).1, (h.s.of a).2.1]) := show _ = _ by unfold frameT; rw [if_neg h0]
        have d0 : decide (0 < (h.s.of a).2.2) = false := by simp; omega
        have HLI : Hid (∀ w1 : World, Calls Tryz.prog 20 #[.slice (some ⟨w1.heap.size, 0, none⟩) 2 2] (w1.alloc (.cells #[.int .i64 (h.s.of a).1, .int .i64 (h.s.of a).2.1] 3)) fun e w2 => e = .returned (.string (TX (listT [(h.s.of a).1, (h.s.of a).2.1]))) ∧ Upd (fun _ => False) w1 w2) := fun w1 => (listed_any _ _ 2 [(h.s.of a).1, (h.s.of a).2.1] (twoInts (by rw [World.cell?_alloc_new]; rfl) (by rw [World.cell?_alloc_new]; rfl)) (by simp) (by have := HB.out; intro x hx; simp at hx; rcases hx with rfl | rfl <;> omega)).mono fun _ _ ⟨he, hu⟩ => ⟨he, ((Upd.refl _ _).alloc _).trans hu (fun _ _ f => f)⟩
        have hqlt := World.block_lt_of_cell? wr _ n0
        have hrlt := World.block_lt_of_cell? wr _ c0
        simp only at hqlt hrlt
        go_wp2_with fail
        have HA0 : Hid _ := HAC.out wr.drew (Upd.refl _ _).drew
        have HA2 : Hid _ := HAC.out (wr.alloc (.cells #[.int .i64 0, .int .i64 0] 67)).drew ((Upd.refl _ _).alloc _).drew
        clear HAC
        go_region_with (first
          | (go_at_call 26; refine Calls.mono HA0.out ?_; rintro e w5 ⟨rfl, hu5⟩; obtain ⟨y0, y1, z0, z1⟩ := boxF w5; have U5 := (Upd.refl (fun _ => False) wr).drew.trans hu5 (fun _ _ f => f))
          | (go_at_call 26; refine Calls.mono HA2.out ?_; rintro e w5 ⟨rfl, hu5⟩; obtain ⟨y0, y1, z0, z1⟩ := boxFU (w := wr) hu5 rfl; have U5 := ((Upd.refl (fun _ => False) wr).alloc (.cells #[.int .i64 0, .int .i64 0] 67)).drew.trans hu5 (fun _ _ f => f)))
        all_goals first
          | (have hF := frA (c := (h.s.of a).1) (r := (h.s.of a).2.1) U5; clear y0 y1 z0 z1 hu5 U5 n0 n1 n2 c0 hc hqlt hrlt; revert hF; generalize w5.alloc (.cells #[.int .i64 (h.s.of a).1, .int .i64 (h.s.of a).2.1] 67) = w6; generalize w5.heap.size = q6; intro hF; have f0 := hF.1.c0; have f1 := hF.1.c1; have HUF : Hid _ := hF.2; clear hF
             go_wp2_with (go_at_call 20; refine Calls.mono (HLI.out _) ?_; rintro e w9 ⟨rfl, hu9⟩)
             go_ret
             rw [H0.out]
             exact (DM.more (DM.more (DM.more (DM.refl HR.out) HU.out) HUF.out) hu9).fin)
          | (have hF := frS (c := (h.s.of a).1) (r := (h.s.of a).2.1) U5 (Nat.le_refl _) y0 y1; clear y0 y1 z0 z1 hu5 U5 n0 n1 n2 c0 hc hqlt hrlt; revert hF; generalize (w5.setCell ⟨wr.heap.size, 0, none⟩ (.int .i64 (h.s.of a).1)).setCell ⟨wr.heap.size, 1, none⟩ (.int .i64 (h.s.of a).2.1) = w6; generalize wr.heap.size = q6; intro hF; have f0 := hF.1.c0; have f1 := hF.1.c1; have HUF : Hid _ := hF.2; clear hF
             go_wp2_with (go_at_call 20; refine Calls.mono (HLI.out _) ?_; rintro e w9 ⟨rfl, hu9⟩)
             go_ret
             rw [H0.out]
             exact (DM.more (DM.more (DM.more (DM.refl HR.out) HU.out) HUF.out) hu9).fin)
end Go.Proofs.YtadpibcgjgcjhabGreatDoor
