/- The document's host, line by line. -/
import Derived.Test.YtadpibcgjgcjhabGreatDoorPart24
import Derived.Test.YtadpibcgjgcjhabGreatDoorPart27
import Derived.Test.YtadpibcgjgcjhabGreatDoorPart20
import Derived.Handed
import Derived.SliceStrings
import Derived.Lib.LaidTab
import Derived.Stop.LaidErr
import Derived.Shelf.Vars
import Derived.MakeChecks
import Derived.Lay
import Derived.LaidMore
namespace Go.Proofs.YtadpibcgjgcjhabGreatDoor
open Go.ChangeShapes Go.WideShapes Go.ChangeAt Go.RowKit
set_option maxRecDepth 100000
variable {W w w0 w1 w2 w3 w' : World} {rh rm : Nat} {bx : Nat → Nat} {vs : Nat → Value} {n k : Nat}
/-- Where the document stands behind k lines. -/
structure WI (w0 w : World) (n k rh rm : Nat) (v : Value) (ls : List ByteArray) : Prop where
  ex : ∃ bx vs, RHo w rh rm w0.heap.size bx vs (runL (hs0 n) (lns (ls.take k))).2 ∧ ∀ j, RFt rh rm bx (runL (hs0 n) (lns (ls.take k))).2 j → w0.heap.size ≤ j ∧ v.ownBlock ≠ some j
  ok : HOk (runL (hs0 n) (lns (ls.take k))).2 n k
  sl : SlS w w0.heap.size v (txs (runL (hs0 n) (lns (ls.take k))).1)
  up : Upd (fun _ => False) w0 w
theorem RHo.start (w : World) (n : Nat) (hn : n ≤ 64) : RHo ((w.alloc (.cells (refZero n) 48)).alloc (.cells #[.pointer (some ⟨w.heap.size, 0, none⟩), .pointer none, .pointer none, .pointer none, .pointer none] 52)) (w.heap.size + 1) w.heap.size w.heap.size (fun _ => w.heap.size) (fun _ => undef) (hs0 n) := by
  have ub := (Upd.refl (fun _ => False) (w.alloc (.cells (refZero n) 48))).alloc (.cells #[.pointer (some ⟨w.heap.size, 0, none⟩), .pointer none, .pointer none, .pointer none, .pointer none] 52)
  have sz : (w.alloc (.cells (refZero n) 48)).heap.size = w.heap.size + 1 := by simp
  have hcell : ∀ j, ((w.alloc (.cells (refZero n) 48)).alloc (.cells #[.pointer (some ⟨w.heap.size, 0, none⟩), .pointer none, .pointer none, .pointer none, .pointer none] 52)).cell? ⟨w.heap.size + 1, j, none⟩ = (#[.pointer (some ⟨w.heap.size, 0, none⟩), .pointer none, .pointer none, .pointer none, .pointer none] : Array Value)[j]? := fun j => by
    have := World.cell?_alloc_new (w.alloc (.cells (refZero n) 48)) #[.pointer (some ⟨w.heap.size, 0, none⟩), .pointer none, .pointer none, .pointer none, .pointer none] 52 j
    rw [sz] at this
    exact this
  refine ⟨by rw [hcell]; rfl, fun i hi => ?_, fun o => by rw [← sz]; exact World.frozen?_alloc_new _ _ _ _, (RefAt.new w n hn).upd ub (fun f => f), fun i x hx => (by cases hx), by omega, fun i x hx => (by cases hx), fun i j x y hx => (by cases hx), fun i x q hx => (by cases hx), by simp; omega, fun j _ => (by simp; omega), fun i x q j hx => (by cases hx)⟩
  rw [hcell]
  have : i = 0 ∨ i = 1 ∨ i = 2 ∨ i = 3 := by omega
  rcases this with rfl | rfl | rfl | rfl <;> rfl
theorem WI.start (w : World) (n : Nat) (hn : n ≤ 64) (ls : List ByteArray) : WI w ((w.alloc (.cells (refZero n) 48)).alloc (.cells #[.pointer (some ⟨w.heap.size, 0, none⟩), .pointer none, .pointer none, .pointer none, .pointer none] 52)) n 0 (w.heap.size + 1) w.heap.size (.slice none 0 0) ls := by
  refine ⟨⟨_, _, RHo.start w n hn, fun j hj => ⟨?_, by simp [Value.ownBlock]⟩⟩, HOk.start n, SlS.nil _ _, ((Upd.refl _ _).alloc _).alloc _⟩
  rcases hj with e | e | ⟨i, x, hx, _⟩
  · omega
  · omega
  · cases hx
/-- A list of texts is no list of entries. -/
theorem apart_tx {v u : Value} {l : List ByteArray} {es : List En} {b c j : Nat} (hs : SlS w b v l) (hc : SlC w c u es) (h1 : v.ownBlock = some j) (h2 : u.ownBlock = some j) : False := by
  rcases hs.2 with ⟨rfl, _⟩ | ⟨g, cap, cur, rfl, _, hg, _⟩
  · simp [Value.ownBlock] at h1
  · rcases hc.2 with ⟨rfl, _⟩ | ⟨g', cap', cur', rfl, _, hg', _⟩
    · simp [Value.ownBlock] at h2
    · simp only [Value.ownBlock, Option.some.injEq] at h1 h2
      subst h1
      subst h2
      rw [hg] at hg'
      simp at hg'
theorem WI.next {v : Value} {ls : List ByteArray} {w6 w7 : World} {v2 : Value} {o : Obj} {x : ByteArray} (I : WI w0 w n k rh rm v ls) (hlt : k < ls.length)
    (sep : ∀ j, RFt rh rm bx (runL (hs0 n) (lns (ls.take k))).2 j → w0.heap.size ≤ j ∧ v.ownBlock ≠ some j)
    (hd : ∃ bx' v', RHo w6 rh rm w0.heap.size bx' v' (sayL (runL (hs0 n) (lns (ls.take k))).2 (ls.getD k ByteArray.empty).data.toList).2 ∧ ∀ j, RFt rh rm bx' (sayL (runL (hs0 n) (lns (ls.take k))).2 (ls.getD k ByteArray.empty).data.toList).2 j → RFt rh rm bx (runL (hs0 n) (lns (ls.take k))).2 j ∨ w.heap.size ≤ j)
    (hu : Upd (RFt rh rm bx (runL (hs0 n) (lns (ls.take k))).2) w w6)
    (hx : x = TX (sayL (runL (hs0 n) (lns (ls.take k))).2 (ls.getD k ByteArray.empty).data.toList).1)
    (hown : SlS w7 w0.heap.size v2 (txs (runL (hs0 n) (lns (ls.take k))).1 ++ [x]))
    (hgrow : (w6.alloc o).grownBy w7 v.ownBlock) (hat : v2.ownBlock = v.ownBlock ∨ v2.ownBlock = some (w6.alloc o).heap.size) : WI w0 w7 n (k + 1) rh rm v2 ls := by
  have hR : runL (hs0 n) (lns (ls.take (k + 1))) = ((runL (hs0 n) (lns (ls.take k))).1 ++ [(sayL (runL (hs0 n) (lns (ls.take k))).2 (ls.getD k ByteArray.empty).data.toList).1], (sayL (runL (hs0 n) (lns (ls.take k))).2 (ls.getD k ByteArray.empty).data.toList).2) := by
    rw [take_lns hlt, runL_snoc]
  have u7 : Upd (fun j => v.ownBlock = some j) w6 w7 := ⟨hgrow.os, hgrow.tape, hgrow.output, by have := hgrow.size; simp only [World.size_alloc] at this; omega, fun j hj hn => by
    rw [hgrow.block j (by simp only [World.size_alloc]; omega) (fun e => hn e.symm), Below.heap_alloc _ _ _ hj]⟩
  have hvl : ∀ j, v.ownBlock = some j → w0.heap.size ≤ j ∧ j < w.heap.size := fun j hj => World.ownsRow.lt I.sl j hj
  have hs6 := hu.size
  have hWs := I.up.size
  obtain ⟨bx', v', r6, hj6⟩ := hd
  have s6 : SlS w6 w0.heap.size v (txs (runL (hs0 n) (lns (ls.take k))).1) := I.sl.upd hu (fun j hj e => (sep j e).2 hj)
  have nv : ∀ j, RFt rh rm bx' (sayL (runL (hs0 n) (lns (ls.take k))).2 (ls.getD k ByteArray.empty).data.toList).2 j → ¬ v.ownBlock = some j := fun j hj e => by
    rcases hj6 j hj with h | h
    · exact (sep j h).2 e
    · have := hvl j e; omega
  refine ⟨?_, ?_, ?_, ?_⟩
  · rw [hR]
    refine ⟨bx', v', r6.upd u7 nv (fun i x j hx hv e => apart_tx s6 (r6.gu i x hx).sl e hv), fun j hj => ⟨?_, fun e => ?_⟩⟩
    · rcases hj6 j hj with h | h
      · exact (sep j h).1
      · omega
    · have hjl := r6.ftLt hj
      rcases hat with h | h
      · exact nv j hj (by rw [← h, e])
      · rw [e] at h
        simp only [Option.some.injEq, World.size_alloc] at h
        omega
  · rw [hR]
    exact I.ok.say _
  · rw [hR]
    simp only [txs, List.map_append, List.map_cons, List.map_nil] at hown ⊢
    rw [← hx]
    exact hown
  · exact (I.up.trans hu (fun i hi e => by have := (sep i e).1; omega)).trans u7 (fun i hi e => by have := (hvl i e).1; omega)
theorem SlS.grew {b : Nat} {v : Value} {l : List ByteArray} {x : ByteArray} (h : SlS w b v (l ++ [x])) : ∃ g c, v = .slice (some ⟨g, 0, none⟩) (l.length + 1) c ∧ l.length + 1 ≤ c ∧ c ≤ maxLen ∧ TxAt w (some ⟨g, 0, none⟩) l := by
  have hl : (l ++ [x]).length = l.length + 1 := by simp
  have h0 := h
  rcases h.2 with ⟨rfl, h1⟩ | ⟨g, cap, cur, rfl, hb, hg, h1, h2, _⟩
  · omega
  · rw [hl] at h1 ⊢
    obtain ⟨a, c, e, ht, _⟩ := h0.txAt
    cases e
    exact ⟨g, cap, rfl, h1, h2, ht.pre⟩
end Go.Proofs.YtadpibcgjgcjhabGreatDoor
/- The walk of undercroftlaw.ConsoleSays. -/
namespace Go.Proofs.YtadpibcgjgcjhabGreatDoor
open Go.ChangeShapes Go.WideShapes Go.ChangeAt Go.RowKit
set_option maxRecDepth 100000
attribute [local go_sem ↓] Go.wp_at_zero Go.wp_at_succ
theorem says_long (w : World) (mx : Int) (hm : w.cell? ⟨0, 0, none⟩ = some (.int .i64 mx)) (ht : Tab w) (n : Int) (a : Option Addr) (len cap : Nat) (hl : 130 < len) : Calls Tryz.prog 3 #[.int .i64 n, .slice a len cap] w fun e w' => e = .returned (.bool true) ∧ Upd (fun _ => False) w w' := by
  have HH : Hid _ := hello_any w mx hm ht
  clear hm ht
  have d1 : decide (130 < (len : Int)) = true := by simp; omega
  go_enter Tryz.func3, Tryz.ntmps3
  go_wp2_with (go_at_call 4; refine Calls.mono HH.out ?_; rintro e w2 ⟨rfl, hu2⟩)
  go_ret
  exact ⟨rfl, hu2⟩
set_option maxHeartbeats 8000000 in
theorem says_walk (w : World) (mx : Int) (hm : w.cell? ⟨0, 0, none⟩ = some (.int .i64 mx)) (ht : Tab w) (n : Int) (a : Option Addr) (cap : Nat) (ls : List ByteArray) (hls : TxAt w a ls) (hl : ls.length ≤ 130) : Calls Tryz.prog 3 #[.int .i64 n, .slice a ls.length cap] w fun e w' => e = .returned (.bool true) ∧ Upd (fun _ => False) w w' := by
  have HH : Hid _ := hello_any w mx hm ht
  have HLS : Hid (TxAt w a ls) := hls
  have HRN : Hid (∀ (w5 : World) (b : Option Addr) (c : Nat), Upd (fun _ => False) w w5 → TxAt w5 b ls → Calls Tryz.prog 5 #[.int .i64 n, .slice b ls.length c] w5 fun e w' => (((n < 1 ∨ 64 < n ∨ 120 < ls.length) ∧ e = .returned (.tuple #[.slice none 0 0, .iface 37 (.int .i64 1)])) ∨ (∃ m : Nat, n = (m : Int) ∧ 1 ≤ m ∧ m ≤ 64 ∧ ls.length ≤ 120 ∧ ∃ v, e = .returned (.tuple #[v, .nilIface]) ∧ SlS w' w5.heap.size v (txs (runL (hs0 m) (lns ls)).1))) ∧ Upd (fun _ => False) w5 w') := fun w5 b c u5 hb => by
    by_cases hn : n < 1 ∨ 64 < n
    · refine (run_bad1 w5 n hn b ls.length c).mono ?_
      rintro e w' ⟨rfl, hu⟩
      exact ⟨Or.inl ⟨by omega, rfl⟩, hu⟩
    · obtain ⟨m, rfl⟩ : ∃ m : Nat, n = (m : Int) := ⟨n.toNat, by omega⟩
      by_cases h2 : 120 < ls.length
      · refine (run_bad2 w5 m (by omega) (by omega) b ls.length c h2).mono ?_
        rintro e w' ⟨rfl, hu⟩
        exact ⟨Or.inl ⟨by omega, rfl⟩, hu⟩
      · refine (run_yes w5 mx (u5.cell hm (fun f => f)) (ht.upd u5) m (by omega) (by omega) b c ls hb (by omega)).mono ?_
        rintro e w' ⟨v, rfl, hs, hu⟩
        exact ⟨Or.inr ⟨m, rfl, by omega, by omega, by omega, v, rfl, hs⟩, hu⟩
  clear hm ht hls
  have d1 : decide (130 < (ls.length : Int)) = false := by simp; omega
  go_enter Tryz.func3, Tryz.ntmps3
  go_wp2_with (go_at_call 4; refine Calls.mono HH.out ?_; rintro e w2 ⟨rfl, hu2⟩)
  clear HH
  go_loopg [6] ls.length (fun gk iv wr => ∃ k : Nat, k + gk = ls.length ∧ iv = .int .i64 (k : Int) ∧ Hid (∀ j, j < k → (ls.getD j ByteArray.empty).size ≤ 300) ∧ Hid (Upd (fun _ => False) w wr))
  case atStart => exact ⟨0, by omega, by rfl, fun j hj => absurd hj (by omega), hu2⟩
  case round =>
    clear hu2
    obtain ⟨k, hk, rfl, H3, HI⟩ := hrel
    have HK : Hid _ := hk
    clear hk
    by_cases hlt : k < ls.length
    · obtain ⟨g, o, rfl, hg, hc⟩ := HLS.out k hlt
      have hcr := HI.out.cell hc (fun f => f)
      obtain ⟨line, hline⟩ : ∃ line, ls.getD k ByteArray.empty = line := ⟨_, rfl⟩
      rw [hline] at hcr
      have HLI : Hid (ls.getD k ByteArray.empty = line) := hline
      clear hc hline
      by_cases h3 : 300 < line.size
      · have d3 : decide (300 < (line.size : Int)) = true := by simp; omega
        go_wp2_with fail
        go_ret
        exact ⟨rfl, HI.out⟩
      · have d3 : decide (300 < (line.size : Int)) = false := by simp; omega
        go_wp2_with fail
        go_roundg (ls.length - (k + 1))
        case rel => exact ⟨k + 1, by omega, by go_num, fun j hj => (by
          by_cases e : j = k
          · subst e
            rw [HLI.out]
            omega
          · exact H3.out j (by omega)), HI.out⟩
        case measure => have := HK.out; omega
    · have hke : k = ls.length := by have := HK.out; omega
      have HL3 : Hid (∀ j, j < ls.length → (ls.getD j ByteArray.empty).size ≤ 300) := show ∀ j, _ from fun j hj => H3.out j (by omega)
      clear H3
      have HN0 : Hid (SlS wr wr.heap.size (.slice none 0 0) []) := SlS.nil _ _
      have HT1 : Hid (TxAt wr a ls) := HLS.out.upd HI.out (fun _ _ _ f => f)
      go_wp2_with (first
        | (at_builtin; refine wpList_append_texts (by rfl) _ _ (by rfl) wr.heap.size (.slice none 0 0) [] (by rfl) HN0.out a cap ls (by rfl) HT1.out (by simp; omega) (Nat.le_refl _) ?_; intro v2 w3 hs3 hg3 hat3; have HS3 : Hid (SlS w3 wr.heap.size v2 ls) := hs3; have HU3 : Hid (Upd (fun _ => False) wr w3) := (show Upd _ _ _ from (upd_grown hg3).wide (fun j e => by cases e)); clear hs3 hg3)
        | (at_builtin; refine wpList_append_texts (by rfl) _ _ (by rfl) wr.heap.size v2 ls (by rfl) (SlS.upd HS3.out ((Upd.refl (fun _ => False) _).alloc _) (fun _ _ f => f)) (some ⟨w3.heap.size, 0, none⟩) 1 [⟨#[109, 97, 114, 107]⟩] (by rfl) (txAt_new w3 [⟨#[109, 97, 114, 107]⟩] _) (by simp; omega) (by have := HU3.out.size; simp only [World.size_alloc]; omega) ?_; intro v3 w4 hs4 hg4 hat4; obtain ⟨g3, c3, rfl, hc3, hm3, ht4⟩ := SlS.grew hs4; have HG4 : Hid _ := hg4; have HT4 : Hid _ := ht4; have HS4 : Hid _ := hs4; clear ht4 hg4 hs4))
      have HU4 : Hid (Upd (fun _ => False) w w4) := show Upd _ _ _ from ((HI.out.trans HU3.out (fun _ _ f => f)).alloc _).trans (upd_grown HG4.out) (fun i hi e => by
        have h1 := (World.ownsRow.lt HS3.out i e).1
        have h2 := HI.out.size
        omega)
      clear HS3 HU3 HG4 HS4 hat3 hat4 HN0 HT1 hc3 hm3
      refine Calls.mono (HRN.out w4 _ _ HU4.out HT4.out) ?_
      rintro e w5 ⟨⟨hbad, rfl⟩ | ⟨m, rfl, m1, m2, hl2, v5, rfl, hs5⟩, hu5⟩
      · have HU5 : Hid (Upd (fun _ => False) w w5) := HU4.out.trans hu5 (fun _ _ f => f)
        have HSE : Hid (∀ w : World, Calls Tryz.prog 6 #[.iface 37 (.int .i64 1), .int .i64 1] w fun e w' => e = .returned (.bool true) ∧ w' = w) := fun w => by
          have := sameE 1 w (by omega)
          have e : errV 1 = .iface 37 (.int .i64 1) := by simp [errV]
          rwa [e] at this
        clear hu5 HRN
        by_cases n1 : n < 1
        · have e1 : decide (n < 1) = true := by simp; omega
          clear hbad
          go_wp2_with (go_at_call 6; refine Calls.mono (HSE.out _) ?_; rintro e w6 ⟨rfl, rfl⟩)
          go_ret
          exact ⟨rfl, HU5.out⟩
        · have e1 : decide (n < 1) = false := by simp; omega
          by_cases n2 : 64 < n
          · have e2 : decide (64 < n) = true := by simp; omega
            clear hbad
            go_wp2_with (go_at_call 6; refine Calls.mono (HSE.out _) ?_; rintro e w6 ⟨rfl, rfl⟩)
            go_ret
            exact ⟨rfl, HU5.out⟩
          · have e2 : decide (64 < n) = false := by simp; omega
            have e3 : decide (120 < (ls.length : Int)) = true := by simp; omega
            clear hbad
            go_wp2_with (go_at_call 6; refine Calls.mono (HSE.out _) ?_; rintro e w6 ⟨rfl, rfl⟩)
            go_ret
            exact ⟨rfl, HU5.out⟩
      · have e1 : decide ((m : Int) < 1) = false := by simp; omega
        have e2 : decide (64 < (m : Int)) = false := by simp; omega
        have e3 : decide (120 < (ls.length : Int)) = false := by simp; omega
        have HU5 : Hid (Upd (fun _ => False) w w5) := HU4.out.trans hu5 (fun _ _ f => f)
        have HS5 : Hid _ := hs5
        have HT5 : Hid (TxAt w5 (some ⟨g3, 0, none⟩) ls) := TxAt.upd HT4.out hu5 (fun _ _ _ f => f)
        clear hu5 hs5 HRN HU4 HT4
        go_wp2_with fail
        refine Calls.mono (newHost_any _ m) ?_
        rintro e w6 ⟨rfl, rfl⟩
        have H0 : Hid _ := WI.start w5 m m2 ls
        revert H0
        generalize (w5.alloc (.cells (refZero m) 48)).alloc (.cells #[.pointer (some ⟨w5.heap.size, 0, none⟩), .pointer none, .pointer none, .pointer none, .pointer none] 52) = w6
        generalize w5.heap.size + 1 = rh
        intro H0
        go_wp2_with fail
        go_loopg [11, 12] ls.length (fun gk av iv wr => ∃ q : Nat, q + gk = ls.length ∧ iv = .int .i64 (q : Int) ∧ Hid (WI w5 wr m q rh w5.heap.size av ls))
        case atStart => exact ⟨0, by omega, by rfl, H0.out⟩
        case round =>
          clear H0
          obtain ⟨q, hq, rfl, HW⟩ := hrel
          have HQ : Hid _ := hq
          clear hq
          by_cases hlt : q < ls.length
          · obtain ⟨g, o, rfl, hg, hc⟩ := HLS.out q hlt
            have hcr := (HU5.out.trans HW.out.up (fun _ _ f => f)).cell hc (fun f => f)
            obtain ⟨bx, vs, hr, hsep⟩ := HW.out.ex
            have HSP : Hid _ := hsep
            obtain ⟨line, hline⟩ : ∃ line, ls.getD q ByteArray.empty = line := ⟨_, rfl⟩
            rw [hline] at hcr
            have HLI : Hid (ls.getD q ByteArray.empty = line) := hline
            have HSA : Hid _ := Say_any hr HW.out.ok (by omega) line (by rw [← hline]; exact HL3.out q hlt)
            clear hc hline hr hsep
            go_wp2_with fail
            refine Calls.mono HSA.out ?_
            rintro e w7 ⟨rfl, hex, hu7⟩
            have HEX : Hid _ := hex
            have HU7 : Hid _ := hu7
            obtain ⟨x, hx⟩ : ∃ x, TX (sayL (runL (hs0 m) (lns (ls.take q))).2 line.data.toList).1 = x := ⟨_, rfl⟩
            have HX : Hid (TX (sayL (runL (hs0 m) (lns (ls.take q))).2 line.data.toList).1 = x) := hx
            rw [hx]
            have HS7 : Hid (SlS w7 w5.heap.size u11 (txs (runL (hs0 m) (lns (ls.take q))).1)) := HW.out.sl.upd hu7 (fun j hj e => (HSP.out j e).2 hj)
            have HSZ : Hid (w5.heap.size ≤ w7.heap.size) := show _ ≤ _ from Nat.le_trans HW.out.up.size hu7.size
            have hdl : (txs (runL (hs0 m) (lns (ls.take q))).1).length ≤ q := by
              rw [txs_length, runL_length]
              unfold lns
              rw [List.length_map, List.length_take]
              omega
            have HNX : Hid (∀ w8 v8, _ → _ → _ → _) := fun w8 v8 hs hgr hat => HW.out.next (w7 := w8) (v2 := v8) (o := .cells #[.string x] 9) hlt HSP.out (by rw [HLI.out]; exact HEX.out) HU7.out (by rw [HLI.out, HX.out]) hs hgr hat
            clear hex hu7 hx HSA
            generalize txs (runL (hs0 m) (lns (ls.take q))).1 = acc at *
            go_wp2_with (at_builtin; refine wpList_append_texts (by rfl) _ _ (by rfl) w5.heap.size u11 acc (by rfl) (SlS.upd HS7.out ((Upd.refl (fun _ => False) _).alloc _) (fun _ _ f => f)) (some ⟨w7.heap.size, 0, none⟩) 1 [x] (by rfl) (txAt_new w7 [x] _) (by simp; omega) (by have := HSZ.out; simp only [World.size_alloc]; omega) ?_; intro v8 w8 hs8 hg8 hat8)
            have HR : Hid _ := HNX.out w8 v8 hs8 hg8 hat8
            clear hs8 hg8 hat8 HNX
            go_roundg (ls.length - (q + 1))
            case rel => exact ⟨q + 1, by omega, by go_num, HR.out⟩
            case measure => have := HQ.out; omega
          · have hqe : q = ls.length := by have := HQ.out; omega
            have HSL : Hid (SlS wr w5.heap.size u11 (txs (runL (hs0 m) (lns ls)).1)) := by
              have := HW.out.sl
              rw [hqe, List.take_length] at this
              exact this
            have HUW : Hid (Upd (fun _ => False) w5 wr) := HW.out.up
            have hal : (txs (runL (hs0 m) (lns ls)).1).length ≤ 1000 := by
              rw [txs_length, runL_length]
              unfold lns
              rw [List.length_map]
              omega
            clear HW
            generalize txs (runL (hs0 m) (lns ls)).1 = acc at *
            obtain ⟨a1, c1, rfl, t1, _⟩ := SlS.txAt HS5.out
            obtain ⟨a2, c2, rfl, t2, _⟩ := SlS.txAt HSL.out
            have HSA : Hid _ := sameTexts_any wr a1 a2 c1 c2 acc (t1.upd HUW.out (fun _ _ _ f => f)) t2 hal
            have HSB : Hid (∀ w9, Upd (fun _ => False) wr w9 → _) := fun w9 u9 => sameTexts_any w9 (some ⟨g3, 0, none⟩) a c3 cap ls (TxAt.upd HT5.out (HUW.out.trans u9 (fun _ _ f => f)) (fun _ _ _ f => f)) (TxAt.upd HLS.out ((HU5.out.trans HUW.out (fun _ _ f => f)).trans u9 (fun _ _ f => f)) (fun _ _ _ f => f)) (by omega)
            clear t1 t2
            have HS0 : Hid _ := same0 wr
            go_wp2_with fail
            refine Calls.mono HS0.out ?_
            rintro e w7 ⟨rfl, rfl⟩
            go_wp2_with fail
            refine Calls.mono HSA.out ?_
            rintro e w8 ⟨rfl, hu8⟩
            have HSC : Hid _ := HSB.out w8 hu8
            clear HSB HSA
            go_wp2_with fail
            refine Calls.mono HSC.out ?_
            rintro e w9 ⟨rfl, hu9⟩
            go_wp2_with fail
            go_ret
            exact ⟨rfl, ((HU5.out.trans HUW.out (fun _ _ f => f)).trans hu8 (fun _ _ f => f)).trans hu9 (fun _ _ f => f)⟩
end Go.Proofs.YtadpibcgjgcjhabGreatDoor
/- The row of undercroftlaw.ConsoleSays: what comes in. -/
namespace Go.Proofs.YtadpibcgjgcjhabGreatDoor
open Go.ChangeShapes Go.WideShapes Go.ChangeAt Go.RowKit
set_option maxRecDepth 100000

/-- The wrap with a condition beside the world's shape. -/
theorem handed_shaped_and {H : Type} {enc : TypeId × Value → H} {a : Assume} {C : Checked} {os : Os} {f : FuncId} {fn : Func} {s : ChangeSpec} {conds : List PathCond} {apart fresh handsOn again : Bool} {X : World → Array Value → Prop}
    (hX : ∀ (w w' : World) (args : Array Value), w.heap = w'.heap → X w args → X w' args)
    (own : ownKnob C.prog.godebug = none) (started : os.Started) (noInit : C.prog.inits.idxOf? f = none) (hfn : C.prog.funcs[f]? = some fn)
    (witness : ∃ (w : World) (tape : Tape) (i : Input), w.os = os ∧ (w.forCall tape i).Shaped C.prog ∧ i.vars = [] ∧ Input.okWide C.prog (w.forCall tape i) .any w.heap.size f i ∧
      ((s.pre enc C.prog fn conds apart (w.forCall tape i).memory i.args ∧ X (w.forCall tape i).memory i.args) ∧ sizedMet enc C.prog fn (OpenSpec.ofChange s) apart (w.forCall tape i).memory i.args) ∧ a.holds C.prog (lone (Frame.enter C.prog f i.args .normal) [] (w.forCall tape i)))
    (contract : ∀ (W : World) (base : Nat) (args : Array Value) (ds gs : List (DataW H)) (before : List MemPlace),
      (∀ (j : Nat) t v, fn.params[j]? = some t → args[j]? = some v → Value.okWide C.prog W .any base t v) →
      DataW.Whole enc C.prog fn.params.toList s.vars apart W args.toList ds gs before → X W args → W.ShapedOpen C.prog →
      Calls C.prog f args W fun e W' => ∃ v, e = .returned v ∧ s.post enc C.prog fn apart fresh handsOn again W args v W') :
    ReturnsInHanded a C os f .any (fun w args => (s.pre enc C.prog fn conds apart w args ∧ X w args) ∧ sizedMet enc C.prog fn (OpenSpec.ofChange s) apart w args) (s.post enc C.prog fn apart fresh handsOn again) := by
  refine returnsInHanded_of_calls own started noInit witness ?_
  intro w tape i _ hsh _ hok hpre _
  obtain ⟨_, _, _, fn', hfn', _, _, _, _, hval⟩ := hok
  have e : fn' = fn := Option.some.inj (hfn'.symm.trans hfn)
  subst e
  obtain ⟨⟨⟨ds, gs, before, hw, _⟩, hx⟩, _⟩ := hpre
  have hw' := DataW.Whole.of_heap (w' := w.forCall tape i) (by rfl) hw
  refine (contract (w.forCall tape i) w.heap.size i.args ds gs before hval hw' (hX _ _ _ (by rfl) hx) hsh).mono fun e W' ⟨v, he, hp⟩ => ?_
  subst he
  exact ChangeSpec.post_blind hp
theorem str_cells : Tryz.prog.cellsOf 9 = 1 := by kernel_rfl
/-- A list of texts that comes in. -/
theorem texts_of {H : Type} {enc : TypeId × Value → H} {W : World} {a : Option Addr} {len cap : Nat} {d : DataW H} {ps : List MemPlace}
    (h : DataW.Trod enc Tryz.prog W 0 (fun _ => true) true 22 (.slice a len cap) d ps) : ∃ ls : List ByteArray, ls.length = len ∧ TxAt W a ls := by
  obtain ⟨fuel, hf⟩ := h
  rcases open_strings Tryz.underlying22 Tryz.underlying9 str_cells hf with ⟨hcs, _⟩ | ⟨x, l, c, ss, hcs, _, hl, _, hz, _, hcell, _⟩
  · simp [Value.cells] at hcs
    obtain ⟨rfl, rfl, rfl⟩ := hcs
    exact ⟨[], rfl, fun i hi => absurd hi (by simp)⟩
  · simp [Value.cells] at hcs
    obtain ⟨rfl, rfl, rfl⟩ := hcs
    simp at hz
    have hlen : (ss.take len).length = len := by rw [List.length_take]; omega
    refine ⟨ss.take len, hlen, fun i hi => ?_⟩
    rw [hlen] at hi
    have hc := hcell i (by omega)
    have hb := World.block_lt_of_cell? W _ hc
    have hs := World.cell?_spot (hcell 0 (by omega))
    obtain ⟨b, off, spot⟩ := x
    have hspot : spot = none := by simpa [Addr.add] using hs
    subst hspot
    rw [Addr.add_mid] at hc hb
    refine ⟨b, off, rfl, hb, ?_⟩
    rw [hc]
    simp only [List.getD_eq_getElem?_getD]
    rw [List.getElem?_take, if_pos hi]
/-- The library's own number is some number. -/
theorem maxlen_of {W : World} (h : W.ShapedOpen Tryz.prog) : ∃ mx, W.cell? ⟨0, 0, none⟩ = some (.int .i64 mx) :=
  cell_of_shapedOpen_int (t := 3) (zero := #[.int .i64 0]) h (by rw [show Tryz.prog.globals.size = 6 by kernel_rfl]; omega) (by kernel_rfl) rfl (by kernel_rfl) (by kernel_rfl) Tryz.underlying3
/-- The table, as the row lists it. -/
theorem pow_data : (Rows.laid_internal_strconv_uint64pow10 : DataW Unit) = Lib.tabData .u64 Lib.pow10Tab := by kernel_rfl
theorem plain_laid (W : World) : laidMetH Tryz.prog Rows.consoleSaysRow.laid W = laidMet Tryz.prog Rows.consoleSaysRow.laid W := by
  rw [MakeChecks.laidMetH_plain _ _ _ (by kernel_rfl)]
end Go.Proofs.YtadpibcgjgcjhabGreatDoor
/- The row of undercroftlaw.ConsoleSays: for every number of frames and every list of lines the call returns true and leaves its argument as it was, where the listed tables of Go's own library read as their initialisers lay them. -/
namespace Go.Proofs.YtadpibcgjgcjhabGreatDoor
open Go.ChangeShapes Go.WideShapes Go.ChangeAt Go.RowKit
set_option maxRecDepth 100000
namespace TCon
theorem own : ownKnob Tryz.prog.godebug = none := by kernel_rfl
theorem laidOut : laidOutB Tryz.prog = true := by kernel_rfl
theorem tab_of {W : World} (h : laidMetH Tryz.prog Rows.consoleSaysRow.laid W) : Tab W := by
  rw [plain_laid] at h
  have h3 : laidMet Tryz.prog (("internal/strconv.uint64pow10", Rows.laid_internal_strconv_uint64pow10) :: [("unicode/utf8.acceptRanges", Rows.laid_unicode_utf8_acceptRanges), ("unicode/utf8.first", Rows.laid_unicode_utf8_first)]) W := laidMet.tail (laidMet.tail h)
  rw [pow_data] at h3
  exact Lib.tabIs_of_head (g := 3) (by kernel_rfl) (by kernel_rfl) (t := 225) Tryz.underlying225 Tryz.underlying197 (by kernel_rfl) (by kernel_rfl) h3
theorem walk (n : Int) (a : Option Addr) (cap : Nat) (ls : List ByteArray) (W : World) (hs : W.ShapedOpen Tryz.prog) (hL : laidMetH Tryz.prog Rows.consoleSaysRow.laid W) (h : TxAt W a ls) :
    Calls Tryz.prog 3 #[.int .i64 n, .slice a ls.length cap] W fun e w' => e = .returned (.bool true) ∧ Below W.heap.size W w' := by
  obtain ⟨mx, hm⟩ := maxlen_of hs
  by_cases hl : ls.length ≤ 130
  · exact (says_walk W mx hm (tab_of hL) n a cap ls h hl).mono fun _ _ ⟨he, hu⟩ => ⟨he, hu.below⟩
  · exact (says_long W mx hm (tab_of hL) n a ls.length cap (by omega)).mono fun _ _ ⟨he, hu⟩ => ⟨he, hu.below⟩
theorem w_shaped (os : Os) : ((World.laidAll Tryz.prog os Rows.consoleSaysRow.laid).forCall (fun _ _ => 0) ⟨#[], #[.int .i64 0, .slice none 0 0], []⟩).Shaped Tryz.prog := World.shaped_of_ZipB (by kernel_rfl) (by kernel_rfl)
theorem w_met (os : Os) : laidMetH Tryz.prog Rows.consoleSaysRow.laid ((World.laidAll Tryz.prog os Rows.consoleSaysRow.laid).forCall (fun _ _ => 0) ⟨#[], #[.int .i64 0, .slice none 0 0], []⟩).memory := by
  rw [plain_laid]
  exact laidMet_laidAll _ (by kernel_rfl) (by kernel_rfl)
theorem lifted (os : Os) (started : os.Started) (H : Type) (enc : TypeId × Value → H) :
    ReturnsInHanded {} Tryz.checked os 3 .any (fun w args => (Rows.consoleSaysSpec.pre enc Tryz.prog Tryz.f3 [] false w args ∧ laidMetH Tryz.prog Rows.consoleSaysRow.laid w) ∧ sizedMet enc Tryz.prog Tryz.f3 (OpenSpec.ofChange Rows.consoleSaysSpec) false w args)
      (Rows.consoleSaysSpec.post enc Tryz.prog Tryz.f3 false true false false) := by
  refine handed_shaped_and (C := Tryz.checked) (X := fun w _ => laidMetH Tryz.prog Rows.consoleSaysRow.laid w) (fun _ _ _ hh h => h.of_heap hh) own started (by kernel_rfl) Tryz.func3
    (ChangeSpec.witness_shaped (enc := enc) (C := Tryz.checked) (os := os) (X := fun w _ => laidMetH Tryz.prog Rows.consoleSaysRow.laid w) false (World.laidAll Tryz.prog os Rows.consoleSaysRow.laid) #[.int .i64 0, .slice none 0 0] 8 (World.laidAll_os _ _ _) (w_shaped os) (by kernel_rfl) (by kernel_rfl) (by kernel_rfl) (w_met os)) ?_
  intro W base args ds gs before hval0 hW hL hS
  have hval : ∀ (j : Nat) t v, Tryz.f3.params[j]? = some t → args[j]? = some v → Value.okWide Tryz.prog W .any base t v := hval0
  have hW' := hW
  obtain ⟨p, q, hA0, hV, rfl, hfz, hnd⟩ := hW
  have hA : DataW.TrodAll enc Tryz.prog W 0 (fun _ => true) true Tryz.f3.params.toList args.toList ds p := hA0
  rw [Tryz.params3] at hA hval
  obtain ⟨v0, vs0, d0, ds0, p0, q0, hargs, rfl, rfl, h0, r0⟩ := trodAll_cons hA
  obtain ⟨v2, vs2, d2, ds2, p2, q2, rfl, rfl, rfl, h2, r2⟩ := trodAll_cons r0
  obtain ⟨rfl, rfl, rfl⟩ := trodAll_nil r2
  obtain rfl : args = #[v0, v2] := by cases args; simp_all
  obtain ⟨rfl, rfl⟩ := trodVars_none hV
  obtain ⟨n, rfl, rfl, rfl, wn⟩ := open_int Tryz.underlying3 (hval 0 3 v0 rfl rfl) h0
  obtain ⟨a, len, cap, rfl⟩ := okWide_slice Tryz.underlying22 (hval 1 22 v2 rfl rfl)
  have lt1 : ∀ x ∈ p2, x.block < W.heap.size := by obtain ⟨m, hm⟩ := h2; exact DataW.trod_lt m _ _ _ hm
  obtain ⟨ls, rfl, hls⟩ := texts_of h2
  clear hA0 hval0
  refine (walk n a cap ls W hS hL hls).mono fun e W' ⟨he, bel⟩ => ?_
  subst he
  exact ⟨_, rfl, _, _, _, [], _, [], hW', trodAll_mk1 (shut_bool Tryz.underlying4 _), (trodAll_cons_mk (shut_int Tryz.underlying3 wn) (trodAll_cons_mk (Below.trod laidOut (by kernel_rfl) (of_decide_eq_true (by kernel_rfl)) h2 bel lt1) trodAll_mk0)), rfl, bel.frame _, fun h => by cases h⟩
theorem over : Rows.ConsoleSaysSaid :=
  OpenClaim.holds_of_wide 3 Tryz.f3 rfl rfl rfl rfl rfl rfl rfl ⟨rfl, rfl, rfl, rfl, rfl⟩ rfl rfl rfl rfl rfl (by kernel_rfl) Tryz.func3 (by kernel_rfl)
    (of_decide_eq_true (by kernel_rfl)) (by unfold Func.isWrapper; first | (rw [if_pos (by decide +kernel)]; kernel_rfl) | (rw [if_neg (by decide +kernel)]; exact ⟨rfl, rfl⟩))
    (fun os started H enc _ => lifted os started H enc)
end TCon
end Go.Proofs.YtadpibcgjgcjhabGreatDoor
