/- The document's Host.Say, command by command (remove, plug, unplug). -/
import Derived.Test.YtadpibcgjgcjhabGreatDoorPart22
namespace Go.Proofs.YtadpibcgjgcjhabGreatDoor
open Go.ChangeShapes Go.WideShapes Go.ChangeAt Go.RowKit
set_option maxRecDepth 100000
attribute [local go_sem ↓] Go.wp_at_zero Go.wp_at_succ
variable {W w w1 w2 w3 w' : World} {rh rm base : Nat} {bx bx2 : Nat → Nat} {v v2 : Nat → Value} {h h2 : Hs} {x : Gs} {n k j : Nat}

set_option maxHeartbeats 2000000 in
theorem Say_remove (r : RHo w rh rm base bx v h) (ok : HOk h n k) (hk : k ≤ 1000) (s : ByteArray) (hs : s.size ≤ 200) (args : List (List UInt8)) (hw : wordsL s.data.toList = kRemove :: args) (hl : args.length = 1) (ms : List Int) (hn : args.mapM numW = some ms) :
    Calls Tryz.prog 8 #[.pointer (some ⟨rh, 0, none⟩), .string s] w (DP w rh rm base bx h (ansL h kRemove (ms.getD 0 0) (ms.getD 1 0) (ms.getD 2 0))) := by
  rw [ans_remove]
  have HR : Hid _ := r
  have HOK : Hid _ := ok
  have HKK : Hid _ := hk
  have HW : Hid _ := words_any w s (by omega)
  rw [hw] at HW
  have HM : Hid (∀ w, Calls Tryz.prog 14 #[.string (TX kRemove)] w fun e w' => e = .returned (.int .i64 (args.length : Int)) ∧ w' = w) := fun w => by
    rw [hl]
    exact many_remove w
  have HMS : Hid _ := hn
  have ht0 : (TX kRemove).toList = [114, 101, 109, 111, 118, 101] := TX_toList _
  have hz : s.size = s.data.toList.length := (Array.length_toList (xs := s.data)).symm
  have HA : Hid (∀ i, i < args.length → (TX (args.getD i [])).size ≤ 300) := fun i hi => by
    have := words_len s.data.toList (args.getD i []) (by rw [hw, List.getD_eq_getElem?_getD, List.getElem?_eq_getElem hi]; exact List.mem_cons_of_mem _ (List.getElem_mem hi))
    rw [TX_size]
    omega
  have h3 : args.length ≤ 3 := by omega
  clear r hw hn hz ok hk
  have HLL : Hid _ := hl
  clear hl
  have hI : ((args.length : Int) != (args.length : Int)) = false := by simp
  have hI2 : decide (200 < (s.size : Int)) = false := by simp; omega
  go_enter Tryz.func8, Tryz.ntmps8
  go_wp2_with fail
  refine Calls.mono HW.out ?_
  rintro e w2 ⟨v2, rfl, hs2, hu2⟩
  obtain ⟨a, cap, rfl, ht, hbs⟩ := hs2.txAt
  obtain ⟨g, o, rfl, hg, hc⟩ := ht 0 (by rw [txs_length]; simp)
  rw [txs_get (by simp), Nat.add_zero] at hc
  rw [txs_length]
  simp only [List.getD_cons_zero, List.length_cons] at hc ⊢
  have HT : Hid (TxAt w2 (some ⟨g, o, none⟩) (txs (kRemove :: args))) := ht
  have HBS : Hid (w.heap.size ≤ g) := hbs g o rfl
  have HU2 : Hid _ := hu2
  clear hs2 ht hbs HW hu2
  go_wp2_with (first
    | (go_at_call 14; refine Calls.mono (HM.out _) ?_; rintro e w3 ⟨rfl, hw3⟩; subst hw3))
  have N0 : NAt (w3.alloc (.cells #[.int .i64 0, .int .i64 0, .int .i64 0] 56)) w3.heap.size [] := NAt.new w3 _
  have HU3 : Hid (Upd (fun _ => False) w (w3.alloc (.cells #[.int .i64 0, .int .i64 0, .int .i64 0] 56))) := HU2.out.alloc _
  have HT3 : Hid (TxAt (w3.alloc (.cells #[.int .i64 0, .int .i64 0, .int .i64 0] 56)) (some ⟨g, o, none⟩) (txs (kRemove :: args))) := HT.out.upd ((Upd.refl (fun _ => False) w3).alloc _) (fun _ _ _ f => f)
  have hqg : g < w3.heap.size := hg
  have HQW : Hid (w.heap.size ≤ w3.heap.size) := HU2.out.size
  have HN0 : Hid _ := N0
  clear HT hc hg N0
  revert HN0 HU3 HT3
  generalize w3.alloc (.cells #[.int .i64 0, .int .i64 0, .int .i64 0] 56) = wb
  generalize w3.heap.size = q at *
  intro HU3 HT3 HN0
  go_loopg [7] args.length (fun gk iv wr => ∃ (k : Nat) (ns : List Int), k + gk = args.length ∧ iv = .int .i64 ((k : Int) + 1) ∧ Hid (RdAt args k ns) ∧ Hid (NAt wr q ns) ∧ Hid (TxAt wr (some ⟨g, o, none⟩) (txs (kRemove :: args))) ∧ Hid (Upd (fun _ => False) w wr))
  case atStart => exact ⟨0, [], by omega, by rfl, RdAt.start _, HN0.out, HT3.out, HU3.out⟩
  case round =>
    clear HN0 HU3 HT3
    obtain ⟨k, ns, hk, rfl, HD, HQ, HT, HU⟩ := hrel
    have HK : Hid _ := hk
    clear hk
    by_cases hlt : k < args.length
    · obtain ⟨g', o', e, _, hc⟩ := HT.out (k + 1) (by rw [txs_length]; simp; exact hlt)
      cases e
      rw [txs_get (by simp; exact hlt), List.getD_cons_succ] at hc
      have HFI : Hid _ := fun w => figures_any w (TX (args.getD k [])) (HA.out k hlt)
      cases hx : numW (args.getD k []) with
      | none =>
        have := read_bad hlt hx
        rw [HMS.out] at this
        cases this
      | some y =>
        have HX : Hid (numW (TX (args.getD k [])).data.toList = some y) := hx
        have HD2 : Hid _ := HD.out.next hlt hx
        have hnl := HD.out.len
        clear hx
        generalize TX (args.getD k []) = word at *
        go_wp2_with fail
        refine Calls.mono (HFI.out _) ?_
        rintro e w4 ⟨⟨x, ok, rfl, hok, _⟩, hu4⟩
        obtain ⟨rfl, rfl⟩ := hok _ HX.out
        have HQ4 : Hid (NAt w4 q ns) := HQ.out.upd hu4 (fun f => f)
        have hck := HQ4.out.at (k := k) (by omega)
        have hfz := HQ4.out.fz k
        have HP : Hid (NAt (w4.setCell ⟨q, k, none⟩ (.int .i64 x)) q (ns ++ [x])) := by
          have := HQ4.out.put x (by omega)
          rw [hnl] at this
          exact this
        have HU4 : Hid (Upd (fun _ => False) w (w4.setCell ⟨q, k, none⟩ (.int .i64 x))) := (HU.out.trans hu4 (fun _ _ f => f)).setCell _ (fun e => by have := HQW.out; simp only at e; omega) _
        have HT4 : Hid (TxAt (w4.setCell ⟨q, k, none⟩ (.int .i64 x)) (some ⟨g, o, none⟩) (txs (kRemove :: args))) := (HT.out.upd hu4 (fun _ _ _ f => f)).upd (Upd.one w4 q k (.int .i64 x)) (fun g' o' e => by cases e; omega)
        clear hu4 hc
        go_wp2_with fail
        go_roundg (args.length - (k + 1))
        case rel => exact ⟨k + 1, ns ++ [x], by omega, by go_num, HD2.out, HP.out, HT4.out, HU4.out⟩
        case measure => have := HK.out; omega
    · have hke : k = args.length := by have := HK.out; omega
      have hns : ns = ms := by have := HD.out; rw [hke] at this; exact this.fin HMS.out
      subst hns
      obtain ⟨g', o', e, _, hc⟩ := HT.out 0 (by rw [txs_length]; simp)
      cases e
      rw [txs_get (by simp), Nat.add_zero, List.getD_cons_zero] at hc
      have n0 := HQ.out.c0
      have n1 := HQ.out.c1
      have n2 := HQ.out.c2
      have HRW : Hid (RHo wr rh rm base bx v h) := HR.out.same HU.out
      have c0 := HRW.out.c0
      clear HD HQ HT hke HMS HA HM
      generalize ns.getD 0 0 = a at *
      generalize ns.getD 1 0 = b at *
      generalize ns.getD 2 0 = c at *
      have HCD : Hid _ := HOk.code HOK.out (acOf kRemove a b 0) (Int.le_refl _) (by show (0 : Int) ≤ 255; omega)
      rw [did_remove] at HCD
      have HAC : Hid _ := dm_remove HRW.out HOK.out HKK.out a
      have HD9 : Hid _ := fun w => done_any w (hRemove h a).1 HCD.out.1 (by have := HCD.out.2; simp only at this; omega)
      go_wp2_with (first
        | (go_at_call 25; refine Calls.mono (HAC.out) ?_; rintro e w5 ⟨rfl, hd5⟩)
        | (go_at_call 24; refine Calls.mono (HD9.out _) ?_; rintro e w9 ⟨rfl, hu9⟩))
      go_ret
      exact (DM.fore HU.out (hd5.more hu9)).fin
set_option maxHeartbeats 2000000 in
theorem Say_plug (r : RHo w rh rm base bx v h) (ok : HOk h n k) (hk : k ≤ 1000) (s : ByteArray) (hs : s.size ≤ 200) (args : List (List UInt8)) (hw : wordsL s.data.toList = kPlug :: args) (hl : args.length = 2) (ms : List Int) (hn : args.mapM numW = some ms) :
    Calls Tryz.prog 8 #[.pointer (some ⟨rh, 0, none⟩), .string s] w (DP w rh rm base bx h (ansL h kPlug (ms.getD 0 0) (ms.getD 1 0) (ms.getD 2 0))) := by
  rw [ans_plug]
  have HR : Hid _ := r
  have HOK : Hid _ := ok
  have HKK : Hid _ := hk
  have HW : Hid _ := words_any w s (by omega)
  rw [hw] at HW
  have HM : Hid (∀ w, Calls Tryz.prog 14 #[.string (TX kPlug)] w fun e w' => e = .returned (.int .i64 (args.length : Int)) ∧ w' = w) := fun w => by
    rw [hl]
    exact many_plug w
  have HMS : Hid _ := hn
  have ht0 : (TX kPlug).toList = [112, 108, 117, 103] := TX_toList _
  have hz : s.size = s.data.toList.length := (Array.length_toList (xs := s.data)).symm
  have HA : Hid (∀ i, i < args.length → (TX (args.getD i [])).size ≤ 300) := fun i hi => by
    have := words_len s.data.toList (args.getD i []) (by rw [hw, List.getD_eq_getElem?_getD, List.getElem?_eq_getElem hi]; exact List.mem_cons_of_mem _ (List.getElem_mem hi))
    rw [TX_size]
    omega
  have h3 : args.length ≤ 3 := by omega
  clear r hw hn hz ok hk
  have HLL : Hid _ := hl
  clear hl
  have hI : ((args.length : Int) != (args.length : Int)) = false := by simp
  have hI2 : decide (200 < (s.size : Int)) = false := by simp; omega
  go_enter Tryz.func8, Tryz.ntmps8
  go_wp2_with fail
  refine Calls.mono HW.out ?_
  rintro e w2 ⟨v2, rfl, hs2, hu2⟩
  obtain ⟨a, cap, rfl, ht, hbs⟩ := hs2.txAt
  obtain ⟨g, o, rfl, hg, hc⟩ := ht 0 (by rw [txs_length]; simp)
  rw [txs_get (by simp), Nat.add_zero] at hc
  rw [txs_length]
  simp only [List.getD_cons_zero, List.length_cons] at hc ⊢
  have HT : Hid (TxAt w2 (some ⟨g, o, none⟩) (txs (kPlug :: args))) := ht
  have HBS : Hid (w.heap.size ≤ g) := hbs g o rfl
  have HU2 : Hid _ := hu2
  clear hs2 ht hbs HW hu2
  go_wp2_with (first
    | (go_at_call 14; refine Calls.mono (HM.out _) ?_; rintro e w3 ⟨rfl, hw3⟩; subst hw3))
  have N0 : NAt (w3.alloc (.cells #[.int .i64 0, .int .i64 0, .int .i64 0] 56)) w3.heap.size [] := NAt.new w3 _
  have HU3 : Hid (Upd (fun _ => False) w (w3.alloc (.cells #[.int .i64 0, .int .i64 0, .int .i64 0] 56))) := HU2.out.alloc _
  have HT3 : Hid (TxAt (w3.alloc (.cells #[.int .i64 0, .int .i64 0, .int .i64 0] 56)) (some ⟨g, o, none⟩) (txs (kPlug :: args))) := HT.out.upd ((Upd.refl (fun _ => False) w3).alloc _) (fun _ _ _ f => f)
  have hqg : g < w3.heap.size := hg
  have HQW : Hid (w.heap.size ≤ w3.heap.size) := HU2.out.size
  have HN0 : Hid _ := N0
  clear HT hc hg N0
  revert HN0 HU3 HT3
  generalize w3.alloc (.cells #[.int .i64 0, .int .i64 0, .int .i64 0] 56) = wb
  generalize w3.heap.size = q at *
  intro HU3 HT3 HN0
  go_loopg [7] args.length (fun gk iv wr => ∃ (k : Nat) (ns : List Int), k + gk = args.length ∧ iv = .int .i64 ((k : Int) + 1) ∧ Hid (RdAt args k ns) ∧ Hid (NAt wr q ns) ∧ Hid (TxAt wr (some ⟨g, o, none⟩) (txs (kPlug :: args))) ∧ Hid (Upd (fun _ => False) w wr))
  case atStart => exact ⟨0, [], by omega, by rfl, RdAt.start _, HN0.out, HT3.out, HU3.out⟩
  case round =>
    clear HN0 HU3 HT3
    obtain ⟨k, ns, hk, rfl, HD, HQ, HT, HU⟩ := hrel
    have HK : Hid _ := hk
    clear hk
    by_cases hlt : k < args.length
    · obtain ⟨g', o', e, _, hc⟩ := HT.out (k + 1) (by rw [txs_length]; simp; exact hlt)
      cases e
      rw [txs_get (by simp; exact hlt), List.getD_cons_succ] at hc
      have HFI : Hid _ := fun w => figures_any w (TX (args.getD k [])) (HA.out k hlt)
      cases hx : numW (args.getD k []) with
      | none =>
        have := read_bad hlt hx
        rw [HMS.out] at this
        cases this
      | some y =>
        have HX : Hid (numW (TX (args.getD k [])).data.toList = some y) := hx
        have HD2 : Hid _ := HD.out.next hlt hx
        have hnl := HD.out.len
        clear hx
        generalize TX (args.getD k []) = word at *
        go_wp2_with fail
        refine Calls.mono (HFI.out _) ?_
        rintro e w4 ⟨⟨x, ok, rfl, hok, _⟩, hu4⟩
        obtain ⟨rfl, rfl⟩ := hok _ HX.out
        have HQ4 : Hid (NAt w4 q ns) := HQ.out.upd hu4 (fun f => f)
        have hck := HQ4.out.at (k := k) (by omega)
        have hfz := HQ4.out.fz k
        have HP : Hid (NAt (w4.setCell ⟨q, k, none⟩ (.int .i64 x)) q (ns ++ [x])) := by
          have := HQ4.out.put x (by omega)
          rw [hnl] at this
          exact this
        have HU4 : Hid (Upd (fun _ => False) w (w4.setCell ⟨q, k, none⟩ (.int .i64 x))) := (HU.out.trans hu4 (fun _ _ f => f)).setCell _ (fun e => by have := HQW.out; simp only at e; omega) _
        have HT4 : Hid (TxAt (w4.setCell ⟨q, k, none⟩ (.int .i64 x)) (some ⟨g, o, none⟩) (txs (kPlug :: args))) := (HT.out.upd hu4 (fun _ _ _ f => f)).upd (Upd.one w4 q k (.int .i64 x)) (fun g' o' e => by cases e; omega)
        clear hu4 hc
        go_wp2_with fail
        go_roundg (args.length - (k + 1))
        case rel => exact ⟨k + 1, ns ++ [x], by omega, by go_num, HD2.out, HP.out, HT4.out, HU4.out⟩
        case measure => have := HK.out; omega
    · have hke : k = args.length := by have := HK.out; omega
      have hns : ns = ms := by have := HD.out; rw [hke] at this; exact this.fin HMS.out
      subst hns
      obtain ⟨g', o', e, _, hc⟩ := HT.out 0 (by rw [txs_length]; simp)
      cases e
      rw [txs_get (by simp), Nat.add_zero, List.getD_cons_zero] at hc
      have n0 := HQ.out.c0
      have n1 := HQ.out.c1
      have n2 := HQ.out.c2
      have HRW : Hid (RHo wr rh rm base bx v h) := HR.out.same HU.out
      have c0 := HRW.out.c0
      clear HD HQ HT hke HMS HA HM
      generalize ns.getD 0 0 = a at *
      generalize ns.getD 1 0 = b at *
      generalize ns.getD 2 0 = c at *
      have HCD : Hid _ := HOk.code HOK.out (acOf kPlug a b 0) (Int.le_refl _) (by show (0 : Int) ≤ 255; omega)
      rw [did_plug] at HCD
      have HAC : Hid _ := dm_plug HRW.out HOK.out HKK.out a b
      have HD9 : Hid _ := fun w => done_any w (hPlug h a b).1 HCD.out.1 (by have := HCD.out.2; simp only at this; omega)
      go_wp2_with (first
        | (go_at_call 27; refine Calls.mono (HAC.out) ?_; rintro e w5 ⟨rfl, hd5⟩)
        | (go_at_call 24; refine Calls.mono (HD9.out _) ?_; rintro e w9 ⟨rfl, hu9⟩))
      go_ret
      exact (DM.fore HU.out (hd5.more hu9)).fin
set_option maxHeartbeats 2000000 in
theorem Say_unplug (r : RHo w rh rm base bx v h) (ok : HOk h n k) (hk : k ≤ 1000) (s : ByteArray) (hs : s.size ≤ 200) (args : List (List UInt8)) (hw : wordsL s.data.toList = kUnplug :: args) (hl : args.length = 2) (ms : List Int) (hn : args.mapM numW = some ms) :
    Calls Tryz.prog 8 #[.pointer (some ⟨rh, 0, none⟩), .string s] w (DP w rh rm base bx h (ansL h kUnplug (ms.getD 0 0) (ms.getD 1 0) (ms.getD 2 0))) := by
  rw [ans_unplug]
  have HR : Hid _ := r
  have HOK : Hid _ := ok
  have HKK : Hid _ := hk
  have HW : Hid _ := words_any w s (by omega)
  rw [hw] at HW
  have HM : Hid (∀ w, Calls Tryz.prog 14 #[.string (TX kUnplug)] w fun e w' => e = .returned (.int .i64 (args.length : Int)) ∧ w' = w) := fun w => by
    rw [hl]
    exact many_unplug w
  have HMS : Hid _ := hn
  have ht0 : (TX kUnplug).toList = [117, 110, 112, 108, 117, 103] := TX_toList _
  have hz : s.size = s.data.toList.length := (Array.length_toList (xs := s.data)).symm
  have HA : Hid (∀ i, i < args.length → (TX (args.getD i [])).size ≤ 300) := fun i hi => by
    have := words_len s.data.toList (args.getD i []) (by rw [hw, List.getD_eq_getElem?_getD, List.getElem?_eq_getElem hi]; exact List.mem_cons_of_mem _ (List.getElem_mem hi))
    rw [TX_size]
    omega
  have h3 : args.length ≤ 3 := by omega
  clear r hw hn hz ok hk
  have HLL : Hid _ := hl
  clear hl
  have hI : ((args.length : Int) != (args.length : Int)) = false := by simp
  have hI2 : decide (200 < (s.size : Int)) = false := by simp; omega
  go_enter Tryz.func8, Tryz.ntmps8
  go_wp2_with fail
  refine Calls.mono HW.out ?_
  rintro e w2 ⟨v2, rfl, hs2, hu2⟩
  obtain ⟨a, cap, rfl, ht, hbs⟩ := hs2.txAt
  obtain ⟨g, o, rfl, hg, hc⟩ := ht 0 (by rw [txs_length]; simp)
  rw [txs_get (by simp), Nat.add_zero] at hc
  rw [txs_length]
  simp only [List.getD_cons_zero, List.length_cons] at hc ⊢
  have HT : Hid (TxAt w2 (some ⟨g, o, none⟩) (txs (kUnplug :: args))) := ht
  have HBS : Hid (w.heap.size ≤ g) := hbs g o rfl
  have HU2 : Hid _ := hu2
  clear hs2 ht hbs HW hu2
  go_wp2_with (first
    | (go_at_call 14; refine Calls.mono (HM.out _) ?_; rintro e w3 ⟨rfl, hw3⟩; subst hw3))
  have N0 : NAt (w3.alloc (.cells #[.int .i64 0, .int .i64 0, .int .i64 0] 56)) w3.heap.size [] := NAt.new w3 _
  have HU3 : Hid (Upd (fun _ => False) w (w3.alloc (.cells #[.int .i64 0, .int .i64 0, .int .i64 0] 56))) := HU2.out.alloc _
  have HT3 : Hid (TxAt (w3.alloc (.cells #[.int .i64 0, .int .i64 0, .int .i64 0] 56)) (some ⟨g, o, none⟩) (txs (kUnplug :: args))) := HT.out.upd ((Upd.refl (fun _ => False) w3).alloc _) (fun _ _ _ f => f)
  have hqg : g < w3.heap.size := hg
  have HQW : Hid (w.heap.size ≤ w3.heap.size) := HU2.out.size
  have HN0 : Hid _ := N0
  clear HT hc hg N0
  revert HN0 HU3 HT3
  generalize w3.alloc (.cells #[.int .i64 0, .int .i64 0, .int .i64 0] 56) = wb
  generalize w3.heap.size = q at *
  intro HU3 HT3 HN0
  go_loopg [7] args.length (fun gk iv wr => ∃ (k : Nat) (ns : List Int), k + gk = args.length ∧ iv = .int .i64 ((k : Int) + 1) ∧ Hid (RdAt args k ns) ∧ Hid (NAt wr q ns) ∧ Hid (TxAt wr (some ⟨g, o, none⟩) (txs (kUnplug :: args))) ∧ Hid (Upd (fun _ => False) w wr))
  case atStart => exact ⟨0, [], by omega, by rfl, RdAt.start _, HN0.out, HT3.out, HU3.out⟩
  case round =>
    clear HN0 HU3 HT3
    obtain ⟨k, ns, hk, rfl, HD, HQ, HT, HU⟩ := hrel
    have HK : Hid _ := hk
    clear hk
    by_cases hlt : k < args.length
    · obtain ⟨g', o', e, _, hc⟩ := HT.out (k + 1) (by rw [txs_length]; simp; exact hlt)
      cases e
      rw [txs_get (by simp; exact hlt), List.getD_cons_succ] at hc
      have HFI : Hid _ := fun w => figures_any w (TX (args.getD k [])) (HA.out k hlt)
      cases hx : numW (args.getD k []) with
      | none =>
        have := read_bad hlt hx
        rw [HMS.out] at this
        cases this
      | some y =>
        have HX : Hid (numW (TX (args.getD k [])).data.toList = some y) := hx
        have HD2 : Hid _ := HD.out.next hlt hx
        have hnl := HD.out.len
        clear hx
        generalize TX (args.getD k []) = word at *
        go_wp2_with fail
        refine Calls.mono (HFI.out _) ?_
        rintro e w4 ⟨⟨x, ok, rfl, hok, _⟩, hu4⟩
        obtain ⟨rfl, rfl⟩ := hok _ HX.out
        have HQ4 : Hid (NAt w4 q ns) := HQ.out.upd hu4 (fun f => f)
        have hck := HQ4.out.at (k := k) (by omega)
        have hfz := HQ4.out.fz k
        have HP : Hid (NAt (w4.setCell ⟨q, k, none⟩ (.int .i64 x)) q (ns ++ [x])) := by
          have := HQ4.out.put x (by omega)
          rw [hnl] at this
          exact this
        have HU4 : Hid (Upd (fun _ => False) w (w4.setCell ⟨q, k, none⟩ (.int .i64 x))) := (HU.out.trans hu4 (fun _ _ f => f)).setCell _ (fun e => by have := HQW.out; simp only at e; omega) _
        have HT4 : Hid (TxAt (w4.setCell ⟨q, k, none⟩ (.int .i64 x)) (some ⟨g, o, none⟩) (txs (kUnplug :: args))) := (HT.out.upd hu4 (fun _ _ _ f => f)).upd (Upd.one w4 q k (.int .i64 x)) (fun g' o' e => by cases e; omega)
        clear hu4 hc
        go_wp2_with fail
        go_roundg (args.length - (k + 1))
        case rel => exact ⟨k + 1, ns ++ [x], by omega, by go_num, HD2.out, HP.out, HT4.out, HU4.out⟩
        case measure => have := HK.out; omega
    · have hke : k = args.length := by have := HK.out; omega
      have hns : ns = ms := by have := HD.out; rw [hke] at this; exact this.fin HMS.out
      subst hns
      obtain ⟨g', o', e, _, hc⟩ := HT.out 0 (by rw [txs_length]; simp)
      cases e
      rw [txs_get (by simp), Nat.add_zero, List.getD_cons_zero] at hc
      have n0 := HQ.out.c0
      have n1 := HQ.out.c1
      have n2 := HQ.out.c2
      have HRW : Hid (RHo wr rh rm base bx v h) := HR.out.same HU.out
      have c0 := HRW.out.c0
      clear HD HQ HT hke HMS HA HM
      generalize ns.getD 0 0 = a at *
      generalize ns.getD 1 0 = b at *
      generalize ns.getD 2 0 = c at *
      have HCD : Hid _ := HOk.code HOK.out (acOf kUnplug a b 0) (Int.le_refl _) (by show (0 : Int) ≤ 255; omega)
      rw [did_unplug] at HCD
      have HAC : Hid _ := dm_unplug HRW.out HOK.out HKK.out a b
      have HD9 : Hid _ := fun w => done_any w (hUnplug h a b).1 HCD.out.1 (by have := HCD.out.2; simp only at this; omega)
      go_wp2_with (first
        | (go_at_call 28; refine Calls.mono (HAC.out) ?_; rintro e w5 ⟨rfl, hd5⟩)
        | (go_at_call 24; refine Calls.mono (HD9.out _) ?_; rintro e w9 ⟨rfl, hu9⟩))
      go_ret
      exact (DM.fore HU.out (hd5.more hu9)).fin
end Go.Proofs.YtadpibcgjgcjhabGreatDoor
/- The document's Host.Say, command by command (give, back, scan). -/
namespace Go.Proofs.YtadpibcgjgcjhabGreatDoor
open Go.ChangeShapes Go.WideShapes Go.ChangeAt Go.RowKit
set_option maxRecDepth 100000
attribute [local go_sem ↓] Go.wp_at_zero Go.wp_at_succ
variable {W w w1 w2 w3 w' : World} {rh rm base : Nat} {bx bx2 : Nat → Nat} {v v2 : Nat → Value} {h h2 : Hs} {x : Gs} {n k j : Nat}

set_option maxHeartbeats 2000000 in
theorem Say_give (r : RHo w rh rm base bx v h) (ok : HOk h n k) (hk : k ≤ 1000) (s : ByteArray) (hs : s.size ≤ 200) (args : List (List UInt8)) (hw : wordsL s.data.toList = kGive :: args) (hl : args.length = 2) (ms : List Int) (hn : args.mapM numW = some ms) :
    Calls Tryz.prog 8 #[.pointer (some ⟨rh, 0, none⟩), .string s] w (DP w rh rm base bx h (ansL h kGive (ms.getD 0 0) (ms.getD 1 0) (ms.getD 2 0))) := by
  rw [ans_give]
  have HR : Hid _ := r
  have HOK : Hid _ := ok
  have HKK : Hid _ := hk
  have HW : Hid _ := words_any w s (by omega)
  rw [hw] at HW
  have HM : Hid (∀ w, Calls Tryz.prog 14 #[.string (TX kGive)] w fun e w' => e = .returned (.int .i64 (args.length : Int)) ∧ w' = w) := fun w => by
    rw [hl]
    exact many_give w
  have HMS : Hid _ := hn
  have ht0 : (TX kGive).toList = [103, 105, 118, 101] := TX_toList _
  have hz : s.size = s.data.toList.length := (Array.length_toList (xs := s.data)).symm
  have HA : Hid (∀ i, i < args.length → (TX (args.getD i [])).size ≤ 300) := fun i hi => by
    have := words_len s.data.toList (args.getD i []) (by rw [hw, List.getD_eq_getElem?_getD, List.getElem?_eq_getElem hi]; exact List.mem_cons_of_mem _ (List.getElem_mem hi))
    rw [TX_size]
    omega
  have h3 : args.length ≤ 3 := by omega
  clear r hw hn hz ok hk
  have HLL : Hid _ := hl
  clear hl
  have hI : ((args.length : Int) != (args.length : Int)) = false := by simp
  have hI2 : decide (200 < (s.size : Int)) = false := by simp; omega
  go_enter Tryz.func8, Tryz.ntmps8
  go_wp2_with fail
  refine Calls.mono HW.out ?_
  rintro e w2 ⟨v2, rfl, hs2, hu2⟩
  obtain ⟨a, cap, rfl, ht, hbs⟩ := hs2.txAt
  obtain ⟨g, o, rfl, hg, hc⟩ := ht 0 (by rw [txs_length]; simp)
  rw [txs_get (by simp), Nat.add_zero] at hc
  rw [txs_length]
  simp only [List.getD_cons_zero, List.length_cons] at hc ⊢
  have HT : Hid (TxAt w2 (some ⟨g, o, none⟩) (txs (kGive :: args))) := ht
  have HBS : Hid (w.heap.size ≤ g) := hbs g o rfl
  have HU2 : Hid _ := hu2
  clear hs2 ht hbs HW hu2
  go_wp2_with (first
    | (go_at_call 14; refine Calls.mono (HM.out _) ?_; rintro e w3 ⟨rfl, hw3⟩; subst hw3))
  have N0 : NAt (w3.alloc (.cells #[.int .i64 0, .int .i64 0, .int .i64 0] 56)) w3.heap.size [] := NAt.new w3 _
  have HU3 : Hid (Upd (fun _ => False) w (w3.alloc (.cells #[.int .i64 0, .int .i64 0, .int .i64 0] 56))) := HU2.out.alloc _
  have HT3 : Hid (TxAt (w3.alloc (.cells #[.int .i64 0, .int .i64 0, .int .i64 0] 56)) (some ⟨g, o, none⟩) (txs (kGive :: args))) := HT.out.upd ((Upd.refl (fun _ => False) w3).alloc _) (fun _ _ _ f => f)
  have hqg : g < w3.heap.size := hg
  have HQW : Hid (w.heap.size ≤ w3.heap.size) := HU2.out.size
  have HN0 : Hid _ := N0
  clear HT hc hg N0
  revert HN0 HU3 HT3
  generalize w3.alloc (.cells #[.int .i64 0, .int .i64 0, .int .i64 0] 56) = wb
  generalize w3.heap.size = q at *
  intro HU3 HT3 HN0
  go_loopg [7] args.length (fun gk iv wr => ∃ (k : Nat) (ns : List Int), k + gk = args.length ∧ iv = .int .i64 ((k : Int) + 1) ∧ Hid (RdAt args k ns) ∧ Hid (NAt wr q ns) ∧ Hid (TxAt wr (some ⟨g, o, none⟩) (txs (kGive :: args))) ∧ Hid (Upd (fun _ => False) w wr))
  case atStart => exact ⟨0, [], by omega, by rfl, RdAt.start _, HN0.out, HT3.out, HU3.out⟩
  case round =>
    clear HN0 HU3 HT3
    obtain ⟨k, ns, hk, rfl, HD, HQ, HT, HU⟩ := hrel
    have HK : Hid _ := hk
    clear hk
    by_cases hlt : k < args.length
    · obtain ⟨g', o', e, _, hc⟩ := HT.out (k + 1) (by rw [txs_length]; simp; exact hlt)
      cases e
      rw [txs_get (by simp; exact hlt), List.getD_cons_succ] at hc
      have HFI : Hid _ := fun w => figures_any w (TX (args.getD k [])) (HA.out k hlt)
      cases hx : numW (args.getD k []) with
      | none =>
        have := read_bad hlt hx
        rw [HMS.out] at this
        cases this
      | some y =>
        have HX : Hid (numW (TX (args.getD k [])).data.toList = some y) := hx
        have HD2 : Hid _ := HD.out.next hlt hx
        have hnl := HD.out.len
        clear hx
        generalize TX (args.getD k []) = word at *
        go_wp2_with fail
        refine Calls.mono (HFI.out _) ?_
        rintro e w4 ⟨⟨x, ok, rfl, hok, _⟩, hu4⟩
        obtain ⟨rfl, rfl⟩ := hok _ HX.out
        have HQ4 : Hid (NAt w4 q ns) := HQ.out.upd hu4 (fun f => f)
        have hck := HQ4.out.at (k := k) (by omega)
        have hfz := HQ4.out.fz k
        have HP : Hid (NAt (w4.setCell ⟨q, k, none⟩ (.int .i64 x)) q (ns ++ [x])) := by
          have := HQ4.out.put x (by omega)
          rw [hnl] at this
          exact this
        have HU4 : Hid (Upd (fun _ => False) w (w4.setCell ⟨q, k, none⟩ (.int .i64 x))) := (HU.out.trans hu4 (fun _ _ f => f)).setCell _ (fun e => by have := HQW.out; simp only at e; omega) _
        have HT4 : Hid (TxAt (w4.setCell ⟨q, k, none⟩ (.int .i64 x)) (some ⟨g, o, none⟩) (txs (kGive :: args))) := (HT.out.upd hu4 (fun _ _ _ f => f)).upd (Upd.one w4 q k (.int .i64 x)) (fun g' o' e => by cases e; omega)
        clear hu4 hc
        go_wp2_with fail
        go_roundg (args.length - (k + 1))
        case rel => exact ⟨k + 1, ns ++ [x], by omega, by go_num, HD2.out, HP.out, HT4.out, HU4.out⟩
        case measure => have := HK.out; omega
    · have hke : k = args.length := by have := HK.out; omega
      have hns : ns = ms := by have := HD.out; rw [hke] at this; exact this.fin HMS.out
      subst hns
      obtain ⟨g', o', e, _, hc⟩ := HT.out 0 (by rw [txs_length]; simp)
      cases e
      rw [txs_get (by simp), Nat.add_zero, List.getD_cons_zero] at hc
      have n0 := HQ.out.c0
      have n1 := HQ.out.c1
      have n2 := HQ.out.c2
      have HRW : Hid (RHo wr rh rm base bx v h) := HR.out.same HU.out
      have c0 := HRW.out.c0
      clear HD HQ HT hke HMS HA HM
      generalize ns.getD 0 0 = a at *
      generalize ns.getD 1 0 = b at *
      generalize ns.getD 2 0 = c at *
      have HCD : Hid _ := HOk.code HOK.out (acOf kGive a b 0) (Int.le_refl _) (by show (0 : Int) ≤ 255; omega)
      rw [did_give] at HCD
      have HAC : Hid _ := dm_give HRW.out HOK.out HKK.out a b false
      have HD9 : Hid _ := fun w => done_any w (hGive h a b false).1 HCD.out.1 (by have := HCD.out.2; simp only at this; omega)
      go_wp2_with (first
        | (go_at_call 29; refine Calls.mono (HAC.out) ?_; rintro e w5 ⟨rfl, hd5⟩)
        | (go_at_call 24; refine Calls.mono (HD9.out _) ?_; rintro e w9 ⟨rfl, hu9⟩))
      go_ret
      exact (DM.fore HU.out (hd5.more hu9)).fin
set_option maxHeartbeats 2000000 in
theorem Say_back (r : RHo w rh rm base bx v h) (ok : HOk h n k) (hk : k ≤ 1000) (s : ByteArray) (hs : s.size ≤ 200) (args : List (List UInt8)) (hw : wordsL s.data.toList = kBack :: args) (hl : args.length = 2) (ms : List Int) (hn : args.mapM numW = some ms) :
    Calls Tryz.prog 8 #[.pointer (some ⟨rh, 0, none⟩), .string s] w (DP w rh rm base bx h (ansL h kBack (ms.getD 0 0) (ms.getD 1 0) (ms.getD 2 0))) := by
  rw [ans_back]
  have HR : Hid _ := r
  have HOK : Hid _ := ok
  have HKK : Hid _ := hk
  have HW : Hid _ := words_any w s (by omega)
  rw [hw] at HW
  have HM : Hid (∀ w, Calls Tryz.prog 14 #[.string (TX kBack)] w fun e w' => e = .returned (.int .i64 (args.length : Int)) ∧ w' = w) := fun w => by
    rw [hl]
    exact many_back w
  have HMS : Hid _ := hn
  have ht0 : (TX kBack).toList = [98, 97, 99, 107] := TX_toList _
  have hz : s.size = s.data.toList.length := (Array.length_toList (xs := s.data)).symm
  have HA : Hid (∀ i, i < args.length → (TX (args.getD i [])).size ≤ 300) := fun i hi => by
    have := words_len s.data.toList (args.getD i []) (by rw [hw, List.getD_eq_getElem?_getD, List.getElem?_eq_getElem hi]; exact List.mem_cons_of_mem _ (List.getElem_mem hi))
    rw [TX_size]
    omega
  have h3 : args.length ≤ 3 := by omega
  clear r hw hn hz ok hk
  have HLL : Hid _ := hl
  clear hl
  have hI : ((args.length : Int) != (args.length : Int)) = false := by simp
  have hI2 : decide (200 < (s.size : Int)) = false := by simp; omega
  go_enter Tryz.func8, Tryz.ntmps8
  go_wp2_with fail
  refine Calls.mono HW.out ?_
  rintro e w2 ⟨v2, rfl, hs2, hu2⟩
  obtain ⟨a, cap, rfl, ht, hbs⟩ := hs2.txAt
  obtain ⟨g, o, rfl, hg, hc⟩ := ht 0 (by rw [txs_length]; simp)
  rw [txs_get (by simp), Nat.add_zero] at hc
  rw [txs_length]
  simp only [List.getD_cons_zero, List.length_cons] at hc ⊢
  have HT : Hid (TxAt w2 (some ⟨g, o, none⟩) (txs (kBack :: args))) := ht
  have HBS : Hid (w.heap.size ≤ g) := hbs g o rfl
  have HU2 : Hid _ := hu2
  clear hs2 ht hbs HW hu2
  go_wp2_with (first
    | (go_at_call 14; refine Calls.mono (HM.out _) ?_; rintro e w3 ⟨rfl, hw3⟩; subst hw3))
  have N0 : NAt (w3.alloc (.cells #[.int .i64 0, .int .i64 0, .int .i64 0] 56)) w3.heap.size [] := NAt.new w3 _
  have HU3 : Hid (Upd (fun _ => False) w (w3.alloc (.cells #[.int .i64 0, .int .i64 0, .int .i64 0] 56))) := HU2.out.alloc _
  have HT3 : Hid (TxAt (w3.alloc (.cells #[.int .i64 0, .int .i64 0, .int .i64 0] 56)) (some ⟨g, o, none⟩) (txs (kBack :: args))) := HT.out.upd ((Upd.refl (fun _ => False) w3).alloc _) (fun _ _ _ f => f)
  have hqg : g < w3.heap.size := hg
  have HQW : Hid (w.heap.size ≤ w3.heap.size) := HU2.out.size
  have HN0 : Hid _ := N0
  clear HT hc hg N0
  revert HN0 HU3 HT3
  generalize w3.alloc (.cells #[.int .i64 0, .int .i64 0, .int .i64 0] 56) = wb
  generalize w3.heap.size = q at *
  intro HU3 HT3 HN0
  go_loopg [7] args.length (fun gk iv wr => ∃ (k : Nat) (ns : List Int), k + gk = args.length ∧ iv = .int .i64 ((k : Int) + 1) ∧ Hid (RdAt args k ns) ∧ Hid (NAt wr q ns) ∧ Hid (TxAt wr (some ⟨g, o, none⟩) (txs (kBack :: args))) ∧ Hid (Upd (fun _ => False) w wr))
  case atStart => exact ⟨0, [], by omega, by rfl, RdAt.start _, HN0.out, HT3.out, HU3.out⟩
  case round =>
    clear HN0 HU3 HT3
    obtain ⟨k, ns, hk, rfl, HD, HQ, HT, HU⟩ := hrel
    have HK : Hid _ := hk
    clear hk
    by_cases hlt : k < args.length
    · obtain ⟨g', o', e, _, hc⟩ := HT.out (k + 1) (by rw [txs_length]; simp; exact hlt)
      cases e
      rw [txs_get (by simp; exact hlt), List.getD_cons_succ] at hc
      have HFI : Hid _ := fun w => figures_any w (TX (args.getD k [])) (HA.out k hlt)
      cases hx : numW (args.getD k []) with
      | none =>
        have := read_bad hlt hx
        rw [HMS.out] at this
        cases this
      | some y =>
        have HX : Hid (numW (TX (args.getD k [])).data.toList = some y) := hx
        have HD2 : Hid _ := HD.out.next hlt hx
        have hnl := HD.out.len
        clear hx
        generalize TX (args.getD k []) = word at *
        go_wp2_with fail
        refine Calls.mono (HFI.out _) ?_
        rintro e w4 ⟨⟨x, ok, rfl, hok, _⟩, hu4⟩
        obtain ⟨rfl, rfl⟩ := hok _ HX.out
        have HQ4 : Hid (NAt w4 q ns) := HQ.out.upd hu4 (fun f => f)
        have hck := HQ4.out.at (k := k) (by omega)
        have hfz := HQ4.out.fz k
        have HP : Hid (NAt (w4.setCell ⟨q, k, none⟩ (.int .i64 x)) q (ns ++ [x])) := by
          have := HQ4.out.put x (by omega)
          rw [hnl] at this
          exact this
        have HU4 : Hid (Upd (fun _ => False) w (w4.setCell ⟨q, k, none⟩ (.int .i64 x))) := (HU.out.trans hu4 (fun _ _ f => f)).setCell _ (fun e => by have := HQW.out; simp only at e; omega) _
        have HT4 : Hid (TxAt (w4.setCell ⟨q, k, none⟩ (.int .i64 x)) (some ⟨g, o, none⟩) (txs (kBack :: args))) := (HT.out.upd hu4 (fun _ _ _ f => f)).upd (Upd.one w4 q k (.int .i64 x)) (fun g' o' e => by cases e; omega)
        clear hu4 hc
        go_wp2_with fail
        go_roundg (args.length - (k + 1))
        case rel => exact ⟨k + 1, ns ++ [x], by omega, by go_num, HD2.out, HP.out, HT4.out, HU4.out⟩
        case measure => have := HK.out; omega
    · have hke : k = args.length := by have := HK.out; omega
      have hns : ns = ms := by have := HD.out; rw [hke] at this; exact this.fin HMS.out
      subst hns
      obtain ⟨g', o', e, _, hc⟩ := HT.out 0 (by rw [txs_length]; simp)
      cases e
      rw [txs_get (by simp), Nat.add_zero, List.getD_cons_zero] at hc
      have n0 := HQ.out.c0
      have n1 := HQ.out.c1
      have n2 := HQ.out.c2
      have HRW : Hid (RHo wr rh rm base bx v h) := HR.out.same HU.out
      have c0 := HRW.out.c0
      clear HD HQ HT hke HMS HA HM
      generalize ns.getD 0 0 = a at *
      generalize ns.getD 1 0 = b at *
      generalize ns.getD 2 0 = c at *
      have HCD : Hid _ := HOk.code HOK.out (acOf kBack a b 0) (Int.le_refl _) (by show (0 : Int) ≤ 255; omega)
      rw [did_back] at HCD
      have HAC : Hid _ := dm_give HRW.out HOK.out HKK.out a b true
      have HD9 : Hid _ := fun w => done_any w (hGive h a b true).1 HCD.out.1 (by have := HCD.out.2; simp only at this; omega)
      go_wp2_with (first
        | (go_at_call 29; refine Calls.mono (HAC.out) ?_; rintro e w5 ⟨rfl, hd5⟩)
        | (go_at_call 24; refine Calls.mono (HD9.out _) ?_; rintro e w9 ⟨rfl, hu9⟩))
      go_ret
      exact (DM.fore HU.out (hd5.more hu9)).fin
set_option maxHeartbeats 2000000 in
theorem Say_scan (r : RHo w rh rm base bx v h) (ok : HOk h n k) (hk : k ≤ 1000) (s : ByteArray) (hs : s.size ≤ 200) (args : List (List UInt8)) (hw : wordsL s.data.toList = kScan :: args) (hl : args.length = 2) (ms : List Int) (hn : args.mapM numW = some ms) :
    Calls Tryz.prog 8 #[.pointer (some ⟨rh, 0, none⟩), .string s] w (DP w rh rm base bx h (ansL h kScan (ms.getD 0 0) (ms.getD 1 0) (ms.getD 2 0))) := by
  rw [ans_scan]
  have HR : Hid _ := r
  have HOK : Hid _ := ok
  have HKK : Hid _ := hk
  have HW : Hid _ := words_any w s (by omega)
  rw [hw] at HW
  have HM : Hid (∀ w, Calls Tryz.prog 14 #[.string (TX kScan)] w fun e w' => e = .returned (.int .i64 (args.length : Int)) ∧ w' = w) := fun w => by
    rw [hl]
    exact many_scan w
  have HMS : Hid _ := hn
  have ht0 : (TX kScan).toList = [115, 99, 97, 110] := TX_toList _
  have hz : s.size = s.data.toList.length := (Array.length_toList (xs := s.data)).symm
  have HA : Hid (∀ i, i < args.length → (TX (args.getD i [])).size ≤ 300) := fun i hi => by
    have := words_len s.data.toList (args.getD i []) (by rw [hw, List.getD_eq_getElem?_getD, List.getElem?_eq_getElem hi]; exact List.mem_cons_of_mem _ (List.getElem_mem hi))
    rw [TX_size]
    omega
  have h3 : args.length ≤ 3 := by omega
  clear r hw hn hz ok hk
  have HLL : Hid _ := hl
  clear hl
  have hI : ((args.length : Int) != (args.length : Int)) = false := by simp
  have hI2 : decide (200 < (s.size : Int)) = false := by simp; omega
  go_enter Tryz.func8, Tryz.ntmps8
  go_wp2_with fail
  refine Calls.mono HW.out ?_
  rintro e w2 ⟨v2, rfl, hs2, hu2⟩
  obtain ⟨a, cap, rfl, ht, hbs⟩ := hs2.txAt
  obtain ⟨g, o, rfl, hg, hc⟩ := ht 0 (by rw [txs_length]; simp)
  rw [txs_get (by simp), Nat.add_zero] at hc
  rw [txs_length]
  simp only [List.getD_cons_zero, List.length_cons] at hc ⊢
  have HT : Hid (TxAt w2 (some ⟨g, o, none⟩) (txs (kScan :: args))) := ht
  have HBS : Hid (w.heap.size ≤ g) := hbs g o rfl
  have HU2 : Hid _ := hu2
  clear hs2 ht hbs HW hu2
  go_wp2_with (first
    | (go_at_call 14; refine Calls.mono (HM.out _) ?_; rintro e w3 ⟨rfl, hw3⟩; subst hw3))
  have N0 : NAt (w3.alloc (.cells #[.int .i64 0, .int .i64 0, .int .i64 0] 56)) w3.heap.size [] := NAt.new w3 _
  have HU3 : Hid (Upd (fun _ => False) w (w3.alloc (.cells #[.int .i64 0, .int .i64 0, .int .i64 0] 56))) := HU2.out.alloc _
  have HT3 : Hid (TxAt (w3.alloc (.cells #[.int .i64 0, .int .i64 0, .int .i64 0] 56)) (some ⟨g, o, none⟩) (txs (kScan :: args))) := HT.out.upd ((Upd.refl (fun _ => False) w3).alloc _) (fun _ _ _ f => f)
  have hqg : g < w3.heap.size := hg
  have HQW : Hid (w.heap.size ≤ w3.heap.size) := HU2.out.size
  have HN0 : Hid _ := N0
  clear HT hc hg N0
  revert HN0 HU3 HT3
  generalize w3.alloc (.cells #[.int .i64 0, .int .i64 0, .int .i64 0] 56) = wb
  generalize w3.heap.size = q at *
  intro HU3 HT3 HN0
  go_loopg [7] args.length (fun gk iv wr => ∃ (k : Nat) (ns : List Int), k + gk = args.length ∧ iv = .int .i64 ((k : Int) + 1) ∧ Hid (RdAt args k ns) ∧ Hid (NAt wr q ns) ∧ Hid (TxAt wr (some ⟨g, o, none⟩) (txs (kScan :: args))) ∧ Hid (Upd (fun _ => False) w wr))
  case atStart => exact ⟨0, [], by omega, by rfl, RdAt.start _, HN0.out, HT3.out, HU3.out⟩
  case round =>
    clear HN0 HU3 HT3
    obtain ⟨k, ns, hk, rfl, HD, HQ, HT, HU⟩ := hrel
    have HK : Hid _ := hk
    clear hk
    by_cases hlt : k < args.length
    · obtain ⟨g', o', e, _, hc⟩ := HT.out (k + 1) (by rw [txs_length]; simp; exact hlt)
      cases e
      rw [txs_get (by simp; exact hlt), List.getD_cons_succ] at hc
      have HFI : Hid _ := fun w => figures_any w (TX (args.getD k [])) (HA.out k hlt)
      cases hx : numW (args.getD k []) with
      | none =>
        have := read_bad hlt hx
        rw [HMS.out] at this
        cases this
      | some y =>
        have HX : Hid (numW (TX (args.getD k [])).data.toList = some y) := hx
        have HD2 : Hid _ := HD.out.next hlt hx
        have hnl := HD.out.len
        clear hx
        generalize TX (args.getD k []) = word at *
        go_wp2_with fail
        refine Calls.mono (HFI.out _) ?_
        rintro e w4 ⟨⟨x, ok, rfl, hok, _⟩, hu4⟩
        obtain ⟨rfl, rfl⟩ := hok _ HX.out
        have HQ4 : Hid (NAt w4 q ns) := HQ.out.upd hu4 (fun f => f)
        have hck := HQ4.out.at (k := k) (by omega)
        have hfz := HQ4.out.fz k
        have HP : Hid (NAt (w4.setCell ⟨q, k, none⟩ (.int .i64 x)) q (ns ++ [x])) := by
          have := HQ4.out.put x (by omega)
          rw [hnl] at this
          exact this
        have HU4 : Hid (Upd (fun _ => False) w (w4.setCell ⟨q, k, none⟩ (.int .i64 x))) := (HU.out.trans hu4 (fun _ _ f => f)).setCell _ (fun e => by have := HQW.out; simp only at e; omega) _
        have HT4 : Hid (TxAt (w4.setCell ⟨q, k, none⟩ (.int .i64 x)) (some ⟨g, o, none⟩) (txs (kScan :: args))) := (HT.out.upd hu4 (fun _ _ _ f => f)).upd (Upd.one w4 q k (.int .i64 x)) (fun g' o' e => by cases e; omega)
        clear hu4 hc
        go_wp2_with fail
        go_roundg (args.length - (k + 1))
        case rel => exact ⟨k + 1, ns ++ [x], by omega, by go_num, HD2.out, HP.out, HT4.out, HU4.out⟩
        case measure => have := HK.out; omega
    · have hke : k = args.length := by have := HK.out; omega
      have hns : ns = ms := by have := HD.out; rw [hke] at this; exact this.fin HMS.out
      subst hns
      obtain ⟨g', o', e, _, hc⟩ := HT.out 0 (by rw [txs_length]; simp)
      cases e
      rw [txs_get (by simp), Nat.add_zero, List.getD_cons_zero] at hc
      have n0 := HQ.out.c0
      have n1 := HQ.out.c1
      have n2 := HQ.out.c2
      have HRW : Hid (RHo wr rh rm base bx v h) := HR.out.same HU.out
      have c0 := HRW.out.c0
      clear HD HQ HT hke HMS HA HM
      generalize ns.getD 0 0 = a at *
      generalize ns.getD 1 0 = b at *
      generalize ns.getD 2 0 = c at *
      have HCD : Hid _ := HOk.code HOK.out (acOf kScan a b 0) (Int.le_refl _) (by show (0 : Int) ≤ 255; omega)
      rw [did_scan] at HCD
      have HAC : Hid _ := dm_scan HRW.out HOK.out HKK.out a b
      have HF : Hid _ := fun w => fault_any w (hScan h a b).1.2 HCD.out.1 (by have := HCD.out.2; simp only at this; omega)
      by_cases h0 : 0 < (hScan h a b).1.2
      · have d0 : decide (0 < (hScan h a b).1.2) = true := by simp; exact h0
        go_wp2_with (first
          | (go_at_call 30; refine Calls.mono (HAC.out) ?_; rintro e w5 ⟨rfl, hd5⟩)
          | (go_at_call 15; refine Calls.mono (HF.out _) ?_; rintro e w9 ⟨rfl, hu9⟩))
        go_ret
        unfold boolT
        rw [if_pos h0]
        exact (DM.fore HU.out (hd5.more hu9)).fin
      · have HE : Hid _ := show boolT (hScan h a b).1.1 (hScan h a b).1.2 = if (hScan h a b).1.1 = true then [116, 114, 117, 101] else [102, 97, 108, 115, 101] from by unfold boolT; rw [if_neg h0]
        have d0 : decide (0 < (hScan h a b).1.2) = false := by simp; omega
        cases hq1 : (hScan h a b).1.1 with
        | true =>
          have HE2 : Hid (boolT (hScan h a b).1.1 (hScan h a b).1.2 = [116, 114, 117, 101]) := show _ = _ by rw [HE.out, hq1]; rfl
          clear HE
          go_wp2_with (first
            | (go_at_call 30; refine Calls.mono (HAC.out) ?_; rintro e w5 ⟨rfl, hd5⟩))
          go_ret
          have hfin := (DM.fore HU.out hd5).fin (t := [116, 114, 117, 101])
          first
            | (rw [HE2.out]; exact hfin)
            | (have e9 := HE2.out; rw [hq1] at e9; rw [e9]; exact hfin)
            | (rw [hq1, HE2.out]; exact hfin)
        | false =>
          have HE2 : Hid (boolT (hScan h a b).1.1 (hScan h a b).1.2 = [102, 97, 108, 115, 101]) := show _ = _ by rw [HE.out, hq1]; rfl
          clear HE
          go_wp2_with (first
            | (go_at_call 30; refine Calls.mono (HAC.out) ?_; rintro e w5 ⟨rfl, hd5⟩))
          go_ret
          have hfin := (DM.fore HU.out hd5).fin (t := [102, 97, 108, 115, 101])
          first
            | (rw [HE2.out]; exact hfin)
            | (have e9 := HE2.out; rw [hq1] at e9; rw [e9]; exact hfin)
            | (rw [hq1, HE2.out]; exact hfin)
end Go.Proofs.YtadpibcgjgcjhabGreatDoor
