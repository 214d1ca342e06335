/- The console's read: numbers. -/
import Derived.Test.YtadpibcgjgcjhabGreatDoorCnMb
namespace Go.Proofs.YtadpibcgjgcjhabGreatDoor
open Go.ChangeShapes Go.WideShapes Go.ChangeAt Go.RowKit Go.WideMaps Go.Maps
set_option maxRecDepth 100000
attribute [local go_sem ↓] Go.wp_at_zero Go.wp_at_succ
variable {W w w1 w2 w' : World} {bm bh : Nat}

set_option maxHeartbeats 1000000 in
theorem read_good (w : World) (mx : Int) (hm : w.cell? ⟨0, 0, none⟩ = some (.int .i64 mx)) (hmap : MapAt w bm manyL) (s : ByteArray) (hs : s.size ≤ 200) (c : List UInt8) (args : List (List UInt8)) (hw : wordsL s.data.toList = c :: args) (hb : manyL c = some args.length) (hne : args ≠ []) : Calls Tryz.prog 34 #[.agg #[.pointer (some ⟨bh, 0, none⟩), .map (some bm)], .string s] w (RdP ((args.mapM numW).map fun ns => (c, ns)) w) := by
  have t : decide (200 < (s.size : Int)) = false := by simp; omega
  obtain ⟨hc3, ha3, HA0⟩ := read_pre s hs c args hw
  have HSP : Hid (∀ w1, Upd (fun _ => False) w w1 → _) := fun w1 u => split_any w1 mx (u.cell hm (fun f => f)) s (by omega)
  rw [hw] at HSP
  have HMP : Hid (MapAt w bm manyL) := hmap
  have h3 := manyL_le c hb
  have HB : Hid (manyL c = some args.length) := hb
  have HA : Hid (∀ i, i < args.length → (TX (args.getD i [])).size ≤ 300) := HA0
  clear hm hmap hb hw HA0
  go_enter Tryz.func34, Tryz.ntmps34
  go_wp2_with fail
  refine Calls.mono (HSP.out _ (((Upd.refl _ _).alloc _).alloc _)) ?_
  rintro e w2 ⟨rfl, ht2, hu2⟩
  have HN : Hid (NAt w2 (w.heap.size + 1) []) := by
    have := NAt.new (w.alloc (.cells #[.pointer (some ⟨bh, 0, none⟩), .map (some bm)] 41)) 84
    rw [World.size_alloc] at this
    exact this.upd hu2 (fun f => f)
  have q2 : w2.cell? ⟨w.heap.size, 1, none⟩ = some (.map (some bm)) := hu2.cell ((((Upd.refl (fun _ => False) _).alloc _).cell (by rw [World.cell?_alloc_new]; rfl) (fun f => f))) (fun f => f)
  have HU : Hid (Upd (fun _ => False) w w2) := (((Upd.refl _ _).alloc _).alloc _).trans hu2 (fun _ _ f => f)
  obtain ⟨g, o, eg, hg, hc⟩ := ht2 0 (by rw [txs_length]; simp)
  cases eg
  rw [txs_get (by simp), Nat.add_zero, List.getD_cons_zero] at hc
  obtain ⟨x, hlk, hx⟩ := look_any (HMP.out.upd HU.out (fun f => f)) c hc3
  obtain ⟨x', hlk', hx'⟩ := look_any (HMP.out.upd HU.out.drew (fun f => f)) c hc3
  simp only [World.size_alloc, List.length_cons] at hc ⊢
  have HT : Hid (TxAt w2 (some ⟨w.heap.size + 1 + 1, 0, none⟩) (txs (c :: args))) := by have := ht2; simp only [World.size_alloc] at this; exact this
  clear ht2 hu2 HSP HMP hg
  have HX : Hid (∀ m, manyL c = some m → x' = (m : Int)) := hx'
  clear hx hx' hlk
  have hlk2 := hlk'
  rw [HB.out, HX.out _ HB.out] at hlk2
  simp only [Option.isSome_some] at hlk2
  have hne1 : (((args.length : Int) + 1) != (1 + (args.length : Int))) = false := by simp; omega
  generalize hq0 : w.heap.size = q0 at *
  have HQ : Hid (w.heap.size ≤ q0 + 1) := show _ ≤ _ by omega
  clear hq0 HX HB hlk'
  go_wp2_with fail
  go_region_with (fail)
  all_goals go_wp2_with fail
  all_goals (
    go_loopg [6, 42] args.length (fun gk ev iv wr => ∃ (k : Nat) (ns : List Int), k + gk = args.length ∧ iv = .int .i64 (k : Int) ∧ ev = .nilIface ∧ Hid (RdAt args k ns) ∧ Hid (NAt wr (q0 + 1) ns) ∧ Hid (TxAt wr (some ⟨q0 + 1 + 1, 0, none⟩) (txs (c :: args))) ∧ Hid (Upd (fun _ => False) w wr))
    case atStart => exact ⟨0, [], by omega, by rfl, rfl, RdAt.start _, HN.out.upd (Upd.refl (fun _ => False) _).drew (fun f => f), HT.out.upd (Upd.refl (fun _ => False) _).drew (fun _ _ _ f => f), HU.out.drew⟩
    case round =>
      obtain ⟨k, ns, hk, rfl, rfl, HD, HNr, HTr, HUr⟩ := hrel
      have HK : Hid _ := hk
      clear hk hc q2 hlk2
      by_cases hlt : k < args.length
      · obtain ⟨g', o', e, _, hcw⟩ := HTr.out (k + 1) (by rw [txs_length]; simp; exact hlt)
        cases e
        rw [txs_get (by simp; exact hlt), List.getD_cons_succ, Nat.zero_add, Nat.add_comm k 1] at hcw
        have hnl := HD.out.len
        have hck := HNr.out.at (k := k) (by omega)
        have hfz := HNr.out.fz k
        cases hx : numW (args.getD k []) with
        | none =>
          have HFI : Hid (∀ w, Calls Tryz.prog 50 #[.string (TX (args.getD k []))] w fun e w' => e = .returned (.tuple #[.int .i64 0, .iface 37 (.int .i64 9)]) ∧ w' = w) := fun w => by
            have := number_any w (TX (args.getD k []))
            rw [show (TX (args.getD k [])).data.toList = args.getD k [] from rfl, hx] at this
            exact this
          have HBAD : Hid ((args.mapM numW).map (fun ns => (c, ns)) = none) := show _ = _ by rw [read_bad hlt hx]; rfl
          clear hx
          generalize TX (args.getD k []) = word at *
          have HP : Hid (NAt (wr.setCell ⟨q0 + 1, k, none⟩ (.int .i64 0)) (q0 + 1) (ns ++ [0])) := by
            have := HNr.out.put 0 (by omega)
            rw [hnl] at this
            exact this
          have HU4 : Hid (Upd (fun _ => False) w (wr.setCell ⟨q0 + 1, k, none⟩ (.int .i64 0))) := HUr.out.setCell _ (fun e => by have := HQ.out; simp only at e; omega) _
          go_wp2_with (go_at_call 50; refine Calls.mono (HFI.out _) ?_; rintro e w4 ⟨rfl, hw4⟩; subst hw4)
          revert HP HU4
          generalize w4.setCell ⟨q0 + 1, k, none⟩ (.int .i64 0) = w5
          generalize ns ++ [(0 : Int)] = ms
          intro HP HU4
          have d0 := HP.out.c0
          have d1 := HP.out.c1
          have d2 := HP.out.c2
          have z0 := HP.out.fz 0
          have z1 := HP.out.fz 1
          have z2 := HP.out.fz 2
          clear hck hfz hcw
          go_region_with (fail)
          all_goals go_wp2_with fail
          all_goals (try simp only [Exit.inBlock, Exit.then])
          all_goals refine bodyPost_ret (results_nums (q := q0 + 1) (ns := ms) rfl ((NAt.again HP.out).upd (Upd.refl (fun _ => False) _).drew (fun f => f))) rfl ?_
          all_goals (rw [HBAD.out]; exact ⟨⟨_, _, _, _, rfl⟩, (Upd.nums HU4.out HQ.out).drew⟩)
        | some y =>
          have HFI : Hid (∀ w, Calls Tryz.prog 50 #[.string (TX (args.getD k []))] w fun e w' => e = .returned (.tuple #[.int .i64 y, .nilIface]) ∧ w' = w) := fun w => by
            have := number_any w (TX (args.getD k []))
            rw [show (TX (args.getD k [])).data.toList = args.getD k [] from rfl, hx] at this
            exact this
          have HD2 : Hid _ := HD.out.next hlt hx
          clear hx
          generalize TX (args.getD k []) = word at *
          have HP : Hid (NAt (wr.setCell ⟨q0 + 1, k, none⟩ (.int .i64 y)) (q0 + 1) (ns ++ [y])) := by
            have := HNr.out.put y (by omega)
            rw [hnl] at this
            exact this
          have HU4 : Hid (Upd (fun _ => False) w (wr.setCell ⟨q0 + 1, k, none⟩ (.int .i64 y))) := HUr.out.setCell _ (fun e => by have := HQ.out; simp only at e; omega) _
          have HT4 : Hid (TxAt (wr.setCell ⟨q0 + 1, k, none⟩ (.int .i64 y)) (some ⟨q0 + 1 + 1, 0, none⟩) (txs (c :: args))) := HTr.out.upd (Upd.one wr (q0 + 1) k (.int .i64 y)) (fun g' o' e => by cases e; omega)
          go_wp2_with (go_at_call 50; refine Calls.mono (HFI.out _) ?_; rintro e w4 ⟨rfl, hw4⟩; subst hw4)
          go_roundg (args.length - (k + 1))
          case rel => exact ⟨k + 1, ns ++ [y], by omega, by go_num, rfl, HD2.out, HP.out, HT4.out, HU4.out⟩
          case measure => have := HK.out; omega
      · have hke : k = args.length := by have := HK.out; omega
        have HOKK : Hid ((args.mapM numW).map (fun ns => (c, ns)) = some (c, ns)) := show _ = _ by
          have := HD.out.ok
          rw [hke, List.take_length] at this
          rw [this]
          rfl
        obtain ⟨g', o', e, _, hcw⟩ := HTr.out 0 (by rw [txs_length]; simp)
        cases e
        rw [txs_get (by simp), Nat.add_zero, List.getD_cons_zero] at hcw
        have d0 := HNr.out.c0
        have d1 := HNr.out.c1
        have d2 := HNr.out.c2
        have z0 := HNr.out.fz 0
        have z1 := HNr.out.fz 1
        have z2 := HNr.out.fz 2
        go_wp2_with fail
        go_region_with (fail)
        all_goals go_wp2_with fail
        all_goals (try simp only [Exit.inBlock, Exit.then])
        all_goals refine bodyPost_ret (results_nums (q := q0 + 1) (ns := ns) rfl ((NAt.again HNr.out).upd (Upd.refl (fun _ => False) _).drew (fun f => f))) rfl ?_
        all_goals (rw [HOKK.out]; exact ⟨rfl, (Upd.nums HUr.out HQ.out).drew⟩))
set_option maxHeartbeats 1000000 in
theorem read_zero (w : World) (mx : Int) (hm : w.cell? ⟨0, 0, none⟩ = some (.int .i64 mx)) (hmap : MapAt w bm manyL) (s : ByteArray) (hs : s.size ≤ 200) (c : List UInt8) (hw : wordsL s.data.toList = [c]) (hb : manyL c = some 0) : Calls Tryz.prog 34 #[.agg #[.pointer (some ⟨bh, 0, none⟩), .map (some bm)], .string s] w (RdP (some (c, [])) w) := by
  have t : decide (200 < (s.size : Int)) = false := by simp; omega
  obtain ⟨hc3, ha3, HA0⟩ := read_pre s hs c [] hw
  have HSP : Hid (∀ w1, Upd (fun _ => False) w w1 → _) := fun w1 u => split_any w1 mx (u.cell hm (fun f => f)) s (by omega)
  rw [hw] at HSP
  have HMP : Hid (MapAt w bm manyL) := hmap
  have HB : Hid (manyL c = some 0) := hb
  clear hm hmap hb hw HA0
  go_enter Tryz.func34, Tryz.ntmps34
  go_wp2_with fail
  refine Calls.mono (HSP.out _ (((Upd.refl _ _).alloc _).alloc _)) ?_
  rintro e w2 ⟨rfl, ht2, hu2⟩
  have HN : Hid (NAt w2 (w.heap.size + 1) []) := by
    have := NAt.new (w.alloc (.cells #[.pointer (some ⟨bh, 0, none⟩), .map (some bm)] 41)) 84
    rw [World.size_alloc] at this
    exact this.upd hu2 (fun f => f)
  have q2 : w2.cell? ⟨w.heap.size, 1, none⟩ = some (.map (some bm)) := hu2.cell ((((Upd.refl (fun _ => False) _).alloc _).cell (by rw [World.cell?_alloc_new]; rfl) (fun f => f))) (fun f => f)
  have HU : Hid (Upd (fun _ => False) w w2) := (((Upd.refl _ _).alloc _).alloc _).trans hu2 (fun _ _ f => f)
  obtain ⟨g, o, eg, hg, hc⟩ := ht2 0 (by rw [txs_length]; simp)
  cases eg
  rw [txs_get (by simp), Nat.add_zero, List.getD_cons_zero] at hc
  obtain ⟨x, hlk, hx⟩ := look_any (HMP.out.upd HU.out (fun f => f)) c hc3
  obtain ⟨x', hlk', hx'⟩ := look_any (HMP.out.upd HU.out.drew (fun f => f)) c hc3
  simp only [World.size_alloc, List.length_cons, List.length_nil] at hc ⊢
  have HT : Hid (TxAt w2 (some ⟨w.heap.size + 1 + 1, 0, none⟩) (txs [c])) := by have := ht2; simp only [World.size_alloc] at this; exact this
  clear ht2 hu2 HSP HMP hg
  have HX : Hid (∀ m, manyL c = some m → x' = (m : Int)) := hx'
  clear hx hx' hlk
  have hlk2 := hlk'
  rw [HB.out, HX.out _ HB.out] at hlk2
  simp only [Option.isSome_some] at hlk2
  have HQ : Hid (w.heap.size ≤ w.heap.size + 1) := Nat.le_succ _
  generalize hq0 : w.heap.size = q0 at *
  clear HX HB hlk' ha3 HT
  go_wp2_with fail
  go_region_with (fail)
  all_goals go_wp2_with fail
  all_goals (
    go_loopg [6, 42] 0 (fun gk ev iv wr => iv = .int .i64 0 ∧ ev = .nilIface ∧ Hid (wr = w2.drew))
    case atStart => exact ⟨rfl, rfl, rfl⟩
    case round =>
      obtain ⟨rfl, rfl, HWR⟩ := hrel
      have hwr := HWR.out
      subst hwr
      have d0 := HN.out.c0
      have d1 := HN.out.c1
      have d2 := HN.out.c2
      have z0 := HN.out.fz 0
      have z1 := HN.out.fz 1
      have z2 := HN.out.fz 2
      go_wp2_with fail
      go_region_with (fail)
      all_goals go_wp2_with fail
      all_goals (try simp only [Exit.inBlock, Exit.then])
      all_goals refine bodyPost_ret (results_nums (q := q0 + 1) (ns := []) rfl ((NAt.again HN.out).upd (Upd.refl (fun _ => False) _).drew.drew (fun f => f))) rfl ?_
      all_goals exact ⟨rfl, (Upd.nums HU.out (by rw [hq0]; exact HQ.out)).drew.drew⟩)
end Go.Proofs.YtadpibcgjgcjhabGreatDoor
