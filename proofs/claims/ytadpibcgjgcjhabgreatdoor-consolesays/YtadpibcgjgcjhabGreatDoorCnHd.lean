/- The walk of undercroftlaw.ConsoleSays. -/
import Derived.Test.YtadpibcgjgcjhabGreatDoorCnHc
namespace Go.Proofs.YtadpibcgjgcjhabGreatDoor
open Go.ChangeShapes Go.WideShapes Go.ChangeAt Go.RowKit
set_option maxRecDepth 100000
attribute [local go_sem ↓] Go.wp_at_zero Go.wp_at_succ
theorem says_long (w : World) (mx : Int) (hm : w.cell? ⟨0, 0, none⟩ = some (.int .i64 mx)) (ht : Tab w) (n : Int) (a : Option Addr) (len cap : Nat) (hl : 130 < len) : Calls Tryz.prog 3 #[.int .i64 n, .slice a len cap] w fun e w' => e = .returned (.bool true) ∧ Upd (fun _ => False) w w' := by
  have HH : Hid _ := hello_any w mx hm ht
  clear hm ht
  have d1 : decide (130 < (len : Int)) = true := by simp; omega
  go_enter Tryz.func3, Tryz.ntmps3
  go_wp2_with (go_at_call 4; refine Calls.mono HH.out ?_; rintro e w2 ⟨rfl, hu2⟩)
  go_ret
  exact ⟨rfl, hu2⟩
set_option maxHeartbeats 8000000 in
theorem says_walk (w : World) (mx : Int) (hm : w.cell? ⟨0, 0, none⟩ = some (.int .i64 mx)) (ht : Tab w) (n : Int) (a : Option Addr) (cap : Nat) (ls : List ByteArray) (hls : TxAt w a ls) (hl : ls.length ≤ 130) : Calls Tryz.prog 3 #[.int .i64 n, .slice a ls.length cap] w fun e w' => e = .returned (.bool true) ∧ Upd (fun _ => False) w w' := by
  have HH : Hid _ := hello_any w mx hm ht
  have HLS : Hid (TxAt w a ls) := hls
  have HRN : Hid (∀ (w5 : World) (b : Option Addr) (c : Nat), Upd (fun _ => False) w w5 → TxAt w5 b ls → Calls Tryz.prog 5 #[.int .i64 n, .slice b ls.length c] w5 fun e w' => (((n < 1 ∨ 64 < n ∨ 120 < ls.length) ∧ e = .returned (.tuple #[.slice none 0 0, .iface 37 (.int .i64 1)])) ∨ (∃ m : Nat, n = (m : Int) ∧ 1 ≤ m ∧ m ≤ 64 ∧ ls.length ≤ 120 ∧ ∃ v, e = .returned (.tuple #[v, .nilIface]) ∧ SlS w' w5.heap.size v (txs (runL (hs0 m) (lns ls)).1))) ∧ Upd (fun _ => False) w5 w') := fun w5 b c u5 hb => by
    by_cases hn : n < 1 ∨ 64 < n
    · refine (run_bad1 w5 n hn b ls.length c).mono ?_
      rintro e w' ⟨rfl, hu⟩
      exact ⟨Or.inl ⟨by omega, rfl⟩, hu⟩
    · obtain ⟨m, rfl⟩ : ∃ m : Nat, n = (m : Int) := ⟨n.toNat, by omega⟩
      by_cases h2 : 120 < ls.length
      · refine (run_bad2 w5 m (by omega) (by omega) b ls.length c h2).mono ?_
        rintro e w' ⟨rfl, hu⟩
        exact ⟨Or.inl ⟨by omega, rfl⟩, hu⟩
      · refine (run_yes w5 mx (u5.cell hm (fun f => f)) (ht.upd u5) m (by omega) (by omega) b c ls hb (by omega)).mono ?_
        rintro e w' ⟨v, rfl, hs, hu⟩
        exact ⟨Or.inr ⟨m, rfl, by omega, by omega, by omega, v, rfl, hs⟩, hu⟩
  clear hm ht hls
  have d1 : decide (130 < (ls.length : Int)) = false := by simp; omega
  go_enter Tryz.func3, Tryz.ntmps3
  go_wp2_with (go_at_call 4; refine Calls.mono HH.out ?_; rintro e w2 ⟨rfl, hu2⟩)
  clear HH
  go_loopg [6] ls.length (fun gk iv wr => ∃ k : Nat, k + gk = ls.length ∧ iv = .int .i64 (k : Int) ∧ Hid (∀ j, j < k → (ls.getD j ByteArray.empty).size ≤ 300) ∧ Hid (Upd (fun _ => False) w wr))
  case atStart => exact ⟨0, by omega, by rfl, fun j hj => absurd hj (by omega), hu2⟩
  case round =>
    clear hu2
    obtain ⟨k, hk, rfl, H3, HI⟩ := hrel
    have HK : Hid _ := hk
    clear hk
    by_cases hlt : k < ls.length
    · obtain ⟨g, o, rfl, hg, hc⟩ := HLS.out k hlt
      have hcr := HI.out.cell hc (fun f => f)
      obtain ⟨line, hline⟩ : ∃ line, ls.getD k ByteArray.empty = line := ⟨_, rfl⟩
      rw [hline] at hcr
      have HLI : Hid (ls.getD k ByteArray.empty = line) := hline
      clear hc hline
      by_cases h3 : 300 < line.size
      · have d3 : decide (300 < (line.size : Int)) = true := by simp; omega
        go_wp2_with fail
        go_ret
        exact ⟨rfl, HI.out⟩
      · have d3 : decide (300 < (line.size : Int)) = false := by simp; omega
        go_wp2_with fail
        go_roundg (ls.length - (k + 1))
        case rel => exact ⟨k + 1, by omega, by go_num, fun j hj => (by
          by_cases e : j = k
          · subst e
            rw [HLI.out]
            omega
          · exact H3.out j (by omega)), HI.out⟩
        case measure => have := HK.out; omega
    · have hke : k = ls.length := by have := HK.out; omega
      have HL3 : Hid (∀ j, j < ls.length → (ls.getD j ByteArray.empty).size ≤ 300) := show ∀ j, _ from fun j hj => H3.out j (by omega)
      clear H3
      have HN0 : Hid (SlS wr wr.heap.size (.slice none 0 0) []) := SlS.nil _ _
      have HT1 : Hid (TxAt wr a ls) := HLS.out.upd HI.out (fun _ _ _ f => f)
      go_wp2_with (first
        | (at_builtin; refine wpList_append_texts (by rfl) _ _ (by rfl) wr.heap.size (.slice none 0 0) [] (by rfl) HN0.out a cap ls (by rfl) HT1.out (by simp; omega) (Nat.le_refl _) ?_; intro v2 w3 hs3 hg3 hat3; have HS3 : Hid (SlS w3 wr.heap.size v2 ls) := hs3; have HU3 : Hid (Upd (fun _ => False) wr w3) := (show Upd _ _ _ from (upd_grown hg3).wide (fun j e => by cases e)); clear hs3 hg3)
        | (at_builtin; refine wpList_append_texts (by rfl) _ _ (by rfl) wr.heap.size v2 ls (by rfl) (SlS.upd HS3.out ((Upd.refl (fun _ => False) _).alloc _) (fun _ _ f => f)) (some ⟨w3.heap.size, 0, none⟩) 1 [⟨#[109, 97, 114, 107]⟩] (by rfl) (txAt_new w3 [⟨#[109, 97, 114, 107]⟩] _) (by simp; omega) (by have := HU3.out.size; simp only [World.size_alloc]; omega) ?_; intro v3 w4 hs4 hg4 hat4; obtain ⟨g3, c3, rfl, hc3, hm3, ht4⟩ := SlS.grew hs4; have HG4 : Hid _ := hg4; have HT4 : Hid _ := ht4; have HS4 : Hid _ := hs4; clear ht4 hg4 hs4))
      have HU4 : Hid (Upd (fun _ => False) w w4) := show Upd _ _ _ from ((HI.out.trans HU3.out (fun _ _ f => f)).alloc _).trans (upd_grown HG4.out) (fun i hi e => by
        have h1 := (World.ownsRow.lt HS3.out i e).1
        have h2 := HI.out.size
        omega)
      clear HS3 HU3 HG4 HS4 hat3 hat4 HN0 HT1 hc3 hm3
      refine Calls.mono (HRN.out w4 _ _ HU4.out HT4.out) ?_
      rintro e w5 ⟨⟨hbad, rfl⟩ | ⟨m, rfl, m1, m2, hl2, v5, rfl, hs5⟩, hu5⟩
      · have HU5 : Hid (Upd (fun _ => False) w w5) := HU4.out.trans hu5 (fun _ _ f => f)
        have HSE : Hid (∀ w : World, Calls Tryz.prog 6 #[.iface 37 (.int .i64 1), .int .i64 1] w fun e w' => e = .returned (.bool true) ∧ w' = w) := fun w => by
          have := sameE 1 w (by omega)
          have e : errV 1 = .iface 37 (.int .i64 1) := by simp [errV]
          rwa [e] at this
        clear hu5 HRN
        by_cases n1 : n < 1
        · have e1 : decide (n < 1) = true := by simp; omega
          clear hbad
          go_wp2_with (go_at_call 6; refine Calls.mono (HSE.out _) ?_; rintro e w6 ⟨rfl, rfl⟩)
          go_ret
          exact ⟨rfl, HU5.out⟩
        · have e1 : decide (n < 1) = false := by simp; omega
          by_cases n2 : 64 < n
          · have e2 : decide (64 < n) = true := by simp; omega
            clear hbad
            go_wp2_with (go_at_call 6; refine Calls.mono (HSE.out _) ?_; rintro e w6 ⟨rfl, rfl⟩)
            go_ret
            exact ⟨rfl, HU5.out⟩
          · have e2 : decide (64 < n) = false := by simp; omega
            have e3 : decide (120 < (ls.length : Int)) = true := by simp; omega
            clear hbad
            go_wp2_with (go_at_call 6; refine Calls.mono (HSE.out _) ?_; rintro e w6 ⟨rfl, rfl⟩)
            go_ret
            exact ⟨rfl, HU5.out⟩
      · have e1 : decide ((m : Int) < 1) = false := by simp; omega
        have e2 : decide (64 < (m : Int)) = false := by simp; omega
        have e3 : decide (120 < (ls.length : Int)) = false := by simp; omega
        have HU5 : Hid (Upd (fun _ => False) w w5) := HU4.out.trans hu5 (fun _ _ f => f)
        have HS5 : Hid _ := hs5
        have HT5 : Hid (TxAt w5 (some ⟨g3, 0, none⟩) ls) := TxAt.upd HT4.out hu5 (fun _ _ _ f => f)
        clear hu5 hs5 HRN HU4 HT4
        go_wp2_with fail
        refine Calls.mono (newHost_any _ m) ?_
        rintro e w6 ⟨rfl, rfl⟩
        have H0 : Hid _ := WI.start w5 m m2 ls
        revert H0
        generalize (w5.alloc (.cells (refZero m) 48)).alloc (.cells #[.pointer (some ⟨w5.heap.size, 0, none⟩), .pointer none, .pointer none, .pointer none, .pointer none] 52) = w6
        generalize w5.heap.size + 1 = rh
        intro H0
        go_wp2_with fail
        go_loopg [11, 12] ls.length (fun gk av iv wr => ∃ q : Nat, q + gk = ls.length ∧ iv = .int .i64 (q : Int) ∧ Hid (WI w5 wr m q rh w5.heap.size av ls))
        case atStart => exact ⟨0, by omega, by rfl, H0.out⟩
        case round =>
          clear H0
          obtain ⟨q, hq, rfl, HW⟩ := hrel
          have HQ : Hid _ := hq
          clear hq
          by_cases hlt : q < ls.length
          · obtain ⟨g, o, rfl, hg, hc⟩ := HLS.out q hlt
            have hcr := (HU5.out.trans HW.out.up (fun _ _ f => f)).cell hc (fun f => f)
            obtain ⟨bx, vs, hr, hsep⟩ := HW.out.ex
            have HSP : Hid _ := hsep
            obtain ⟨line, hline⟩ : ∃ line, ls.getD q ByteArray.empty = line := ⟨_, rfl⟩
            rw [hline] at hcr
            have HLI : Hid (ls.getD q ByteArray.empty = line) := hline
            have HSA : Hid _ := Say_any hr HW.out.ok (by omega) line (by rw [← hline]; exact HL3.out q hlt)
            clear hc hline hr hsep
            go_wp2_with fail
            refine Calls.mono HSA.out ?_
            rintro e w7 ⟨rfl, hex, hu7⟩
            have HEX : Hid _ := hex
            have HU7 : Hid _ := hu7
            obtain ⟨x, hx⟩ : ∃ x, TX (sayL (runL (hs0 m) (lns (ls.take q))).2 line.data.toList).1 = x := ⟨_, rfl⟩
            have HX : Hid (TX (sayL (runL (hs0 m) (lns (ls.take q))).2 line.data.toList).1 = x) := hx
            rw [hx]
            have HS7 : Hid (SlS w7 w5.heap.size u11 (txs (runL (hs0 m) (lns (ls.take q))).1)) := HW.out.sl.upd hu7 (fun j hj e => (HSP.out j e).2 hj)
            have HSZ : Hid (w5.heap.size ≤ w7.heap.size) := show _ ≤ _ from Nat.le_trans HW.out.up.size hu7.size
            have hdl : (txs (runL (hs0 m) (lns (ls.take q))).1).length ≤ q := by
              rw [txs_length, runL_length]
              unfold lns
              rw [List.length_map, List.length_take]
              omega
            have HNX : Hid (∀ w8 v8, _ → _ → _ → _) := fun w8 v8 hs hgr hat => HW.out.next (w7 := w8) (v2 := v8) (o := .cells #[.string x] 9) hlt HSP.out (by rw [HLI.out]; exact HEX.out) HU7.out (by rw [HLI.out, HX.out]) hs hgr hat
            clear hex hu7 hx HSA
            generalize txs (runL (hs0 m) (lns (ls.take q))).1 = acc at *
            go_wp2_with (at_builtin; refine wpList_append_texts (by rfl) _ _ (by rfl) w5.heap.size u11 acc (by rfl) (SlS.upd HS7.out ((Upd.refl (fun _ => False) _).alloc _) (fun _ _ f => f)) (some ⟨w7.heap.size, 0, none⟩) 1 [x] (by rfl) (txAt_new w7 [x] _) (by simp; omega) (by have := HSZ.out; simp only [World.size_alloc]; omega) ?_; intro v8 w8 hs8 hg8 hat8)
            have HR : Hid _ := HNX.out w8 v8 hs8 hg8 hat8
            clear hs8 hg8 hat8 HNX
            go_roundg (ls.length - (q + 1))
            case rel => exact ⟨q + 1, by omega, by go_num, HR.out⟩
            case measure => have := HQ.out; omega
          · have hqe : q = ls.length := by have := HQ.out; omega
            have HSL : Hid (SlS wr w5.heap.size u11 (txs (runL (hs0 m) (lns ls)).1)) := by
              have := HW.out.sl
              rw [hqe, List.take_length] at this
              exact this
            have HUW : Hid (Upd (fun _ => False) w5 wr) := HW.out.up
            have hal : (txs (runL (hs0 m) (lns ls)).1).length ≤ 1000 := by
              rw [txs_length, runL_length]
              unfold lns
              rw [List.length_map]
              omega
            clear HW
            generalize txs (runL (hs0 m) (lns ls)).1 = acc at *
            obtain ⟨a1, c1, rfl, t1, _⟩ := SlS.txAt HS5.out
            obtain ⟨a2, c2, rfl, t2, _⟩ := SlS.txAt HSL.out
            have HSA : Hid _ := sameTexts_any wr a1 a2 c1 c2 acc (t1.upd HUW.out (fun _ _ _ f => f)) t2 hal
            have HSB : Hid (∀ w9, Upd (fun _ => False) wr w9 → _) := fun w9 u9 => sameTexts_any w9 (some ⟨g3, 0, none⟩) a c3 cap ls (TxAt.upd HT5.out (HUW.out.trans u9 (fun _ _ f => f)) (fun _ _ _ f => f)) (TxAt.upd HLS.out ((HU5.out.trans HUW.out (fun _ _ f => f)).trans u9 (fun _ _ f => f)) (fun _ _ _ f => f)) (by omega)
            clear t1 t2
            have HS0 : Hid _ := same0 wr
            go_wp2_with fail
            refine Calls.mono HS0.out ?_
            rintro e w7 ⟨rfl, rfl⟩
            go_wp2_with fail
            refine Calls.mono HSA.out ?_
            rintro e w8 ⟨rfl, hu8⟩
            have HSC : Hid _ := HSB.out w8 hu8
            clear HSB HSA
            go_wp2_with fail
            refine Calls.mono HSC.out ?_
            rintro e w9 ⟨rfl, hu9⟩
            go_wp2_with fail
            go_ret
            exact ⟨rfl, ((HU5.out.trans HUW.out (fun _ _ f => f)).trans hu8 (fun _ _ f => f)).trans hu9 (fun _ _ f => f)⟩
end Go.Proofs.YtadpibcgjgcjhabGreatDoor
