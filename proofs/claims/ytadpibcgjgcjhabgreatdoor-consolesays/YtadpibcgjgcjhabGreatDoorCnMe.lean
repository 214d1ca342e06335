/- The console's Run. -/
import Derived.Test.YtadpibcgjgcjhabGreatDoorCnMd
import Derived.Test.YtadpibcgjgcjhabGreatDoorHpH
namespace Go.Proofs.YtadpibcgjgcjhabGreatDoor
open Go.ChangeShapes Go.WideShapes Go.ChangeAt Go.RowKit Go.WideMaps Go.Maps
set_option maxRecDepth 100000
attribute [local go_sem ↓] Go.wp_at_zero Go.wp_at_succ
variable {W w w1 w2 w3 w' : World} {bh bp bf bm : Nat} {G G' : Nat → G3} {h h2 : Hs} {n k : Nat}

theorem runL_snoc : ∀ (l : List (List UInt8)) (h : Hs) (x : List UInt8), runL h (l ++ [x]) = ((runL h l).1 ++ [(sayL (runL h l).2 x).1], (sayL (runL h l).2 x).2)
  | [], h, x => rfl
  | y :: r, h, x => by
    have := runL_snoc r (sayL h y).2 x
    simp only [List.cons_append, runL, this]
theorem runL_length : ∀ (l : List (List UInt8)) (h : Hs), (runL h l).1.length = l.length
  | [], _ => rfl
  | y :: r, h => by simp only [runL, List.length_cons, runL_length r]
/-- The lines that are told. -/
def lns (ls : List ByteArray) : List (List UInt8) := ls.map (·.data.toList)
theorem take_lns {ls : List ByteArray} {k : Nat} (hk : k < ls.length) : lns (ls.take (k + 1)) = lns (ls.take k) ++ [(ls.getD k ByteArray.empty).data.toList] := by
  unfold lns
  rw [List.take_add_one, List.getElem?_eq_getElem hk, List.map_append, List.getD_eq_getElem?_getD, List.getElem?_eq_getElem hk]
  rfl
theorem run_bad1 (w : World) (n : Int) (hn : n < 1 ∨ 64 < n) (a : Option Addr) (len cap : Nat) : Calls Tryz.prog 5 #[.int .i64 n, .slice a len cap] w fun e w' => e = .returned (.tuple #[.slice none 0 0, .iface 37 (.int .i64 1)]) ∧ Upd (fun _ => False) w w' := by
  have HN : Hid _ := fun w => hNew_no w n hn
  clear hn
  go_enter Tryz.func5, Tryz.ntmps5
  go_wp2_with (go_at_call 10; refine Calls.mono (HN.out _) ?_; rintro e w2 ⟨rfl, hu2⟩)
  go_ret2
  exact ⟨rfl, hu2⟩
theorem run_bad2 (w : World) (n : Nat) (h1 : 1 ≤ n) (h2 : n ≤ 64) (a : Option Addr) (len cap : Nat) (hl : 120 < len) : Calls Tryz.prog 5 #[.int .i64 (n : Int), .slice a len cap] w fun e w' => e = .returned (.tuple #[.slice none 0 0, .iface 37 (.int .i64 1)]) ∧ Upd (fun _ => False) w w' := by
  have HN : Hid _ := fun w => hNew_yes w n h1 h2
  have t : decide (120 < (len : Int)) = true := by simp; omega
  go_enter Tryz.func5, Tryz.ntmps5
  go_wp2_with (go_at_call 10; refine Calls.mono (HN.out _) ?_; rintro e w2 ⟨bh, bp, bf, rfl, hm2, z1, z2, z3, hu2⟩)
  go_ret2
  exact ⟨rfl, hu2⟩
/-- Where a session stands behind k lines. -/
structure RunI (W w : World) (n k bh bp bf bm q : Nat) (v : Value) (ls : List ByteArray) : Prop where
  ex : ∃ G, PS W w n k bh bp bf G (runL (hs0 n) (lns (ls.take k))).2 ∧ (∀ j, Own bh bp bf G (runL (hs0 n) (lns (ls.take k))).2 j → j ≠ bm ∧ j ≠ q ∧ v.ownBlock ≠ some j)
  map : MapAt w bm manyL
  b0 : w.cell? ⟨q, 0, none⟩ = some (.pointer (some ⟨bh, 0, none⟩))
  b1 : w.cell? ⟨q, 1, none⟩ = some (.map (some bm))
  sl : SlS w W.heap.size v (txs (runL (hs0 n) (lns (ls.take k))).1)
  nm : v.ownBlock ≠ some bm ∧ v.ownBlock ≠ some q
theorem make_zero (w : World) (base n : Nat) (hb : base ≤ w.heap.size) (hn : n ≤ 1000) : ∃ w', (Instr.makeSlice 22 (.int .i64 0) (.int .i64 (n : Int))).run Tryz.prog w = .ok (.slice (some ⟨w.heap.size, 0, none⟩) 0 n) w' ∧ w'.ownsRow base 9 1 (.slice (some ⟨w.heap.size, 0, none⟩) 0 n) 0 [] ∧ w.heap.size < w'.heap.size ∧ Upd (fun _ => False) w w' := by
  obtain ⟨i, hi, he⟩ := Option.map_eq_some_iff.1 infoStr
  simp only [Prod.mk.injEq] at he
  obtain ⟨he1, he2, he3⟩ := he
  obtain ⟨w', hr, ho, hg⟩ := run_makeSlice_owned (P := Tryz.prog) w base 22 9 i (.string ByteArray.empty) 1 Tryz.underlying22 hi he3 he1 .i64 .i64 n (by omega) (by rw [he2]; omega) (by unfold maxLen; omega) hb
  refine ⟨w', hr, ho, ?_, ⟨hg.os, hg.tape, hg.output, hg.size, fun k hk _ => hg.block k hk (by simp)⟩⟩
  exact (World.ownsRow.lt ho _ rfl).2
theorem RunI.next {bm q : Nat} {v : Value} {ls : List ByteArray} {w6 w7 : World} {g2 cap2 : Nat} {o : Obj} (I : RunI W w n k bh bp bf bm q v ls) (hlt : k < ls.length) (hl : ls.length ≤ 120)
    (ps : PS W w n k bh bp bf G (runL (hs0 n) (lns (ls.take k))).2) (sep : ∀ j, Own bh bp bf G (runL (hs0 n) (lns (ls.take k))).2 j → j ≠ bm ∧ j ≠ q ∧ v.ownBlock ≠ some j)
    (hd : PM w w6 bh bp bf G (runL (hs0 n) (lns (ls.take k))).2 (sayL (runL (hs0 n) (lns (ls.take k))).2 (ls.getD k ByteArray.empty).data.toList).2)
    (hown : w7.ownsRow W.heap.size 9 1 (.slice (some ⟨g2, 0, none⟩) ((txs (runL (hs0 n) (lns (ls.take k))).1).length + 1) cap2) ((txs (runL (hs0 n) (lns (ls.take k))).1).length + 1) (txC (txs (runL (hs0 n) (lns (ls.take k))).1) ++ [.string (TX (sayL (runL (hs0 n) (lns (ls.take k))).2 (ls.getD k ByteArray.empty).data.toList).1)]))
    (hgrow : (w6.alloc o).grownBy w7 v.ownBlock) (hat : v.ownBlock = some g2 ∨ g2 = w6.heap.size + 1) :
    RunI W w7 n (k + 1) bh bp bf bm q (.slice (some ⟨g2, 0, none⟩) ((txs (runL (hs0 n) (lns (ls.take k))).1).length + 1) cap2) ls := by
  have hR : runL (hs0 n) (lns (ls.take (k + 1))) = ((runL (hs0 n) (lns (ls.take k))).1 ++ [(sayL (runL (hs0 n) (lns (ls.take k))).2 (ls.getD k ByteArray.empty).data.toList).1], (sayL (runL (hs0 n) (lns (ls.take k))).2 (ls.getD k ByteArray.empty).data.toList).2) := by
    rw [take_lns hlt, runL_snoc]
  have u7 : Upd (fun j => v.ownBlock = some j) w6 w7 := ⟨hgrow.os, hgrow.tape, hgrow.output, by have := hgrow.size; simp only [World.size_alloc] at this; omega, fun j hj hn => by
    rw [hgrow.block j (by simp only [World.size_alloc]; omega) (fun e => hn e.symm), Below.heap_alloc _ _ _ hj]⟩
  have hvl : ∀ j, v.ownBlock = some j → W.heap.size ≤ j ∧ j < w.heap.size := fun j hj => World.ownsRow.lt I.sl j hj
  have hs6 := hd.up.size
  have hWs := ps.up.size
  obtain ⟨G', m6, hj6⟩ := hd.ex
  have hbm := I.map.lt
  have hq := World.block_lt_of_cell? w _ I.b0
  simp only at hq
  have nv : ∀ j, Own bh bp bf G' (sayL (runL (hs0 n) (lns (ls.take k))).2 (ls.getD k ByteArray.empty).data.toList).2 j → ¬ v.ownBlock = some j := fun j hj e => by
    rcases hj6 j hj with h | h
    · exact (sep j h).2.2 e
    · have := hvl j e; omega
  refine ⟨⟨G', ?_, ?_⟩, (I.map.upd hd.up (fun e => (sep _ e).1 rfl)).upd u7 I.nm.1, u7.cell (hd.up.cell I.b0 (fun e => (sep _ e).2.1 rfl)) I.nm.2, u7.cell (hd.up.cell I.b1 (fun e => (sep _ e).2.1 rfl)) I.nm.2, ?_, ?_⟩
  · rw [hR]
    exact ⟨m6.upd u7 nv, ps.ok.say _, by omega, fun j hj => by
      rcases hj6 j hj with h | h
      · exact ps.new j h
      · omega, (ps.up2 hd).trans u7 (fun i hi e => by have := (hvl i e).1; omega), ps.tab⟩
  · rw [hR]
    intro j hj
    have hjl := m6.ownLt hj
    refine ⟨fun e => ?_, fun e => ?_, fun e => ?_⟩
    · rcases hj6 j hj with h | h
      · exact (sep j h).1 e
      · omega
    · rcases hj6 j hj with h | h
      · exact (sep j h).2.1 e
      · omega
    · simp only [Value.ownBlock, Option.some.injEq] at e
      rcases hat with h | h
      · exact nv j hj (by rw [h, e])
      · omega
  · rw [hR]
    unfold SlS
    simp only [txs, List.map_append, List.map_cons, List.map_nil, List.length_append, List.length_cons, List.length_nil, txC] at hown ⊢
    exact hown
  · constructor
    · intro e
      simp only [Value.ownBlock, Option.some.injEq] at e
      rcases hat with h | h
      · exact I.nm.1 (by rw [h, e])
      · omega
    · intro e
      simp only [Value.ownBlock, Option.some.injEq] at e
      rcases hat with h | h
      · exact I.nm.2 (by rw [h, e])
      · omega
set_option maxHeartbeats 1000000 in
theorem run_yes (w : World) (mx : Int) (hm : w.cell? ⟨0, 0, none⟩ = some (.int .i64 mx)) (ht : Tab w) (n : Nat) (h1 : 1 ≤ n) (h2 : n ≤ 64) (a : Option Addr) (cap : Nat) (ls : List ByteArray) (hls : TxAt w a ls) (hl : ls.length ≤ 120) : Calls Tryz.prog 5 #[.int .i64 (n : Int), .slice a ls.length cap] w fun e w' => ∃ v, e = .returned (.tuple #[v, .nilIface]) ∧ SlS w' w.heap.size v (txs (runL (hs0 n) (lns ls)).1) ∧ Upd (fun _ => False) w w' := by
  have HN : Hid _ := fun w => hNew_yes w n h1 h2
  have HC : Hid _ := commands_any
  have HT : Hid (Tab w) := ht
  have HMX : Hid (w.cell? ⟨0, 0, none⟩ = some (.int .i64 mx)) := hm
  have HL : Hid (TxAt w a ls) := hls
  have t : decide (120 < (ls.length : Int)) = false := by simp; omega
  clear ht hm hls
  go_enter Tryz.func5, Tryz.ntmps5
  go_wp2_with fail
  refine Calls.mono (HN.out _) ?_
  rintro e w2 ⟨bh, bp, bf, rfl, hm2, z1, z2, z3, hu2⟩
  have HM2 : Hid (∀ G, HM w2 bh bp bf G (hs0 n)) := hm2
  have HU2 : Hid _ := hu2
  have HZ : Hid (w.heap.size ≤ bh ∧ w.heap.size ≤ bp ∧ w.heap.size ≤ bf) := ⟨z1, z2, z3⟩
  clear hm2 hu2 z1 z2 z3 HN
  go_wp2_with fail
  refine Calls.mono (HC.out _) ?_
  rintro e w3 ⟨rfl, hmap, hu3⟩
  have HMP : Hid _ := hmap
  have HU3 : Hid _ := hu3
  have HU4 : Hid (Upd (fun _ => False) w (w3.alloc (.cells #[.pointer (some ⟨bh, 0, none⟩), .map (some w2.heap.size)] 41))) := (HU2.out.trans hu3 (fun _ _ f => f)).alloc _
  obtain ⟨w5, hmk, ho5, hl5, hu5⟩ := make_zero (w3.alloc (.cells #[.pointer (some ⟨bh, 0, none⟩), .map (some w2.heap.size)] 41)) w.heap.size ls.length HU4.out.size (by omega)
  have hb0 : (w3.alloc (.cells #[.pointer (some ⟨bh, 0, none⟩), .map (some w2.heap.size)] 41)).cell? ⟨w3.heap.size, 0, none⟩ = some (.pointer (some ⟨bh, 0, none⟩)) := by rw [World.cell?_alloc_new]; rfl
  have hb1 : (w3.alloc (.cells #[.pointer (some ⟨bh, 0, none⟩), .map (some w2.heap.size)] 41)).cell? ⟨w3.heap.size, 1, none⟩ = some (.map (some w2.heap.size)) := by rw [World.cell?_alloc_new]; rfl
  have hsz : (w3.alloc (.cells #[.pointer (some ⟨bh, 0, none⟩), .map (some w2.heap.size)] 41)).heap.size = w3.heap.size + 1 := by simp
  have hm3 := hmap.lt
  have H0 : Hid (RunI w w5 n 0 bh bp bf w2.heap.size w3.heap.size (.slice (some ⟨w3.heap.size + 1, 0, none⟩) 0 ls.length) ls) := show RunI _ _ _ _ _ _ _ _ _ _ _ by
    rw [hsz] at ho5
    have u25 : Upd (fun _ => False) w2 w5 := (hu3.trans ((Upd.refl (fun _ => False) _).alloc _) (fun _ _ f => f)).trans hu5 (fun _ _ f => f)
    have m2 := HM2.out (fun _ => ⟨0, 0, 0⟩)
    have hlt := m2.lt
    refine ⟨⟨fun _ => ⟨0, 0, 0⟩, ⟨m2.same u25, HOk.start n, by omega, fun j hj => ?_, HU4.out.trans hu5 (fun _ _ f => f), HT.out⟩, fun j hj => ?_⟩, (hmap.upd ((Upd.refl (fun _ => False) _).alloc _) (fun f => f)).upd hu5 (fun f => f), hu5.cell hb0 (fun f => f), hu5.cell hb1 (fun f => f), ho5, ?_⟩
    · have := HZ.out
      rcases hj with e | e | e | ⟨i, x, hx, _⟩
      · omega
      · omega
      · omega
      · cases hx
    · have hj2 : j < w2.heap.size := by
        rcases hj with e | e | e | ⟨i, x, hx, _⟩
        · omega
        · omega
        · omega
        · cases hx
      refine ⟨by omega, by omega, fun e => ?_⟩
      simp only [Value.ownBlock, Option.some.injEq] at e
      omega
    · constructor
      · intro e
        simp only [Value.ownBlock, Option.some.injEq] at e
        omega
      · intro e
        simp only [Value.ownBlock, Option.some.injEq] at e
        omega
  rw [hsz] at hmk
  clear hmap hu3 HC hb0 hb1 hm3 ho5 hl5 hu5 hsz HM2 HU2 HZ HMP HU3 HU4
  go_wp2_with fail
  clear hmk
  generalize w2.heap.size = bm at *
  generalize w3.heap.size = q at *
  go_loopg [9, 32] ls.length (fun gk av iv wr => ∃ k : Nat, k + gk = ls.length ∧ iv = .int .i64 (k : Int) ∧ Hid (RunI w wr n k bh bp bf bm q av ls))
  case atStart => exact ⟨0, by omega, by rfl, H0.out⟩
  case round =>
    clear H0
    obtain ⟨k, hk, rfl, HI⟩ := hrel
    have HK : Hid _ := hk
    clear hk
    obtain ⟨G, ps, sep⟩ := HI.out.ex
    have HPS : Hid _ := ps
    have HSE : Hid _ := sep
    clear ps sep
    by_cases hlt : k < ls.length
    · obtain ⟨g, o, rfl, hg, hc⟩ := HL.out k hlt
      have hcr := HPS.out.up.cell hc (fun f => f)
      have b0 := HI.out.b0
      have b1 := HI.out.b1
      obtain ⟨line, hline⟩ : ∃ line, ls.getD k ByteArray.empty = line := ⟨_, rfl⟩
      rw [hline] at hcr
      have HAN : Hid _ := answer_any HPS.out mx (HPS.out.up.cell HMX.out (fun f => f)) HI.out.map line
      have HLI : Hid (ls.getD k ByteArray.empty = line) := hline
      clear hc hline
      go_wp2_with fail
      refine Calls.mono HAN.out ?_
      rintro e w6 ⟨rfl, hd6⟩
      have HD6 : Hid _ := hd6
      have HS6 : Hid (SlS w6 w.heap.size u9 (txs (runL (hs0 n) (lns (ls.take k))).1)) := SlS.upd HI.out.sl hd6.up (fun j hj e => (HSE.out j e).2.2 hj)
      have hu6 := HPS.out.up2 hd6
      clear hd6 HAN b0 b1 hcr
      obtain ⟨i, hi, he⟩ := Option.map_eq_some_iff.1 infoStr
      simp only [Prod.mk.injEq] at he
      obtain ⟨he1, he2, he3⟩ := he
      have HE1 : Hid _ := he1
      have HE2 : Hid _ := he2
      have HE3 : Hid _ := he3
      have HII : Hid _ := hi
      obtain ⟨x, hx⟩ : ∃ x, TX (sayL (runL (hs0 n) (lns (ls.take k))).2 line.data.toList).1 = x := ⟨_, rfl⟩
      have HX : Hid (TX (sayL (runL (hs0 n) (lns (ls.take k))).2 line.data.toList).1 = x) := hx
      rw [hx]
      have HN : Hid (∀ j u, ([.string x] : List Value)[j]? = some u → (w6.alloc (.cells #[.string x] 9)).cell? ((⟨w6.heap.size, 0, none⟩ : Addr).add j) = some u) := by
        show ∀ j u, _
        intro j u hj
        rw [Addr.add_mid, Nat.zero_add, World.cell?_alloc_new, ← hj]
        simp
      have HO : Hid _ := World.ownsRow.alloc HS6.out (.cells #[.string x] 9)
      have HB : Hid (w.heap.size ≤ (w6.alloc (.cells #[.string x] 9)).heap.size) := show _ ≤ _ by have := hu6.size; simp only [World.size_alloc]; omega
      have H1 : Hid (∀ u ∈ ([.string x] : List Value), u.oneCell' = true) := show ∀ u ∈ ([.string x] : List Value), _ from fun u hu' => by simp at hu'; subst hu'; rfl
      have hdl : (txs (runL (hs0 n) (lns (ls.take k))).1).length ≤ k := by
        rw [txs_length, runL_length]
        unfold lns
        rw [List.length_map, List.length_take]
        omega
      have HAC : Hid (∃ acc, acc = txs (runL (hs0 n) (lns (ls.take k))).1) := ⟨_, rfl⟩
      clear he1 he2 he3 hi hx hu6
      have HNX : Hid (∀ w7 g2 cap2, _ → _ → _ → _) := fun w7 g2 cap2 ho hgr hat => HI.out.next (w7 := w7) (g2 := g2) (cap2 := cap2) (o := .cells #[.string x] 9) hlt hl HPS.out HSE.out (by rw [HLI.out]; exact HD6.out) (by rw [HLI.out, HX.out]; exact ho) hgr hat
      generalize txs (runL (hs0 n) (lns (ls.take k))).1 = acc at *
      go_wp2_with (at_builtin; refine wpList_append_lies _ (by rfl) _ _ 22 (by rfl) w.heap.size 9 i (.string ByteArray.empty) 1 16 Tryz.underlying22 HII.out HE3.out HE1.out HE2.out (by rfl) (by omega) u9 acc.length (txC acc) (by rfl) HO.out ⟨w6.heap.size, 0, none⟩ 1 1 ([.string x]) (by rfl) (by rfl) HN.out H1.out (by omega) (by unfold maxLen; omega) (by omega) HB.out (w6.heap.size + 1) (by simp) ?_; intro g2 cap2 w7 hown hgrow hat hlt2)
      have HR : Hid _ := HNX.out w7 g2 cap2 hown hgrow hat
      clear hown hgrow hat hlt2 HNX
      go_roundg (ls.length - (k + 1))
      case rel => exact ⟨k + 1, by omega, by go_num, HR.out⟩
      case measure => have := HK.out; omega
    · have hke : k = ls.length := by have := HK.out; omega
      have HSL : Hid (SlS wr w.heap.size u9 (txs (runL (hs0 n) (lns ls)).1)) := by
        have := HI.out.sl
        rw [hke, List.take_length] at this
        exact this
      have HUU : Hid _ := HPS.out.up
      go_wp2_with fail
      go_ret2
      exact ⟨_, rfl, HSL.out, HUU.out⟩
end Go.Proofs.YtadpibcgjgcjhabGreatDoor
