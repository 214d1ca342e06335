/- The console's read. -/
import Derived.Test.YtadpibcgjgcjhabGreatDoorCnMa
namespace Go.Proofs.YtadpibcgjgcjhabGreatDoor
open Go.ChangeShapes Go.WideShapes Go.ChangeAt Go.RowKit Go.WideMaps Go.Maps
set_option maxRecDepth 100000
attribute [local go_sem ↓] Go.wp_at_zero Go.wp_at_succ
variable {W w w1 w2 w' : World} {bm bh : Nat}

/-- How a line's reading ends. -/
def RdP (r : Option (List UInt8 × List Int)) (w : World) (e : Ending) (w' : World) : Prop :=
  (match r with
  | some (c, ns) => e = .returned (.tuple #[.string (TX c), .agg #[.int .i64 (ns.getD 0 0), .int .i64 (ns.getD 1 0), .int .i64 (ns.getD 2 0)], .nilIface])
  | none => ∃ c a b v, e = .returned (.tuple #[.string c, .agg #[.int .i64 a, .int .i64 b, .int .i64 v], .iface 37 (.int .i64 9)])) ∧ Upd (fun _ => False) w w'
theorem zeroInt (w : World) : (zeroValue 3).run Tryz.prog w = .ok (.int .i64 0) w := by kernel_rfl
theorem read_results : Tryz.f34.results = #[.tmp 4, .cell 5 84, .tmp 6] := by kernel_rfl
theorem load_nums {q : Nat} {ns : List Int} (hN : NAt w q ns) : (loadVar 84 ⟨q, 0, none⟩).run Tryz.prog w = .ok (.agg #[.int .i64 (ns.getD 0 0), .int .i64 (ns.getD 1 0), .int .i64 (ns.getD 2 0)]) w := by
  have hl := run_loadCells_list (P := Tryz.prog) w ⟨q, 0, none⟩ [.int .i64 (ns.getD 0 0), .int .i64 (ns.getD 1 0), .int .i64 (ns.getD 2 0)] (fun j v hj => by
    rw [Addr.add_mid, Nat.zero_add]
    match j, hj with
    | 0, hj => cases hj; exact hN.c0
    | 1, hj => cases hj; exact hN.c1
    | 2, hj => cases hj; exact hN.c2)
  have ha : (isAgg 84).run Tryz.prog w = .ok true w := Tryz.isAgg84 w
  have hz : (sizeOf 84).run Tryz.prog w = .ok 3 w := Tryz.sizeOf84 w
  unfold loadVar
  simp only [Sem.run_bind, ha, Result.andThen, if_true, hz]
  simp only [List.length_cons, List.length_nil] at hl
  rw [hl]
  rfl
theorem results_tct {fn : Func} {t p u : Tmp} {ty : TypeId} (h : fn.results = #[.tmp t, .cell p ty, .tmp u]) (tmps : Array Value) (P : Program) (w : World) :
    (results fn tmps).run P w = ((asAddr (tmps.getD p undef)).run P w).andThen fun a w₁ => ((loadVar ty a).run P w₁).andThen fun v w₂ => .ok (.tuple #[tmps.getD t undef, v, tmps.getD u undef]) w₂ := by
  simp only [results, h]
  simp [Sem.run_bind, Result.andThen]
theorem results_nums {tmps : Array Value} {q : Nat} {ns : List Int} (h5 : tmps.getD 5 undef = .pointer (some ⟨q, 0, none⟩)) (hN : NAt w q ns) : (results Tryz.f34 tmps).run Tryz.prog w = .ok (.tuple #[tmps.getD 4 undef, .agg #[.int .i64 (ns.getD 0 0), .int .i64 (ns.getD 1 0), .int .i64 (ns.getD 2 0)], tmps.getD 6 undef]) w := by
  have hl := load_nums hN
  have ha : (asAddr (.pointer (some ⟨q, 0, none⟩))).run Tryz.prog w = .ok ⟨q, 0, none⟩ w := by rfl
  rw [results_tct read_results, h5, ha]
  simp only [Result.andThen, hl]
theorem NAt.again {q : Nat} {ns : List Int} (h : NAt w q ns) : NAt (((w.setCell ⟨q, 0, none⟩ (.int .i64 (ns.getD 0 0))).setCell ⟨q, 1, none⟩ (.int .i64 (ns.getD 1 0))).setCell ⟨q, 2, none⟩ (.int .i64 (ns.getD 2 0))) q ns := by
  have o : ∀ (w : World) (i j : Nat) (v : Value), i ≠ j → (w.setCell ⟨q, i, none⟩ v).cell? ⟨q, j, none⟩ = w.cell? ⟨q, j, none⟩ := fun w i j v hij => World.cell?_setCell_other _ _ _ _ (addr_ne (Or.inr (by omega)))
  refine ⟨?_, ?_, ?_, fun k => by rw [World.frozen?_setCell, World.frozen?_setCell, World.frozen?_setCell]; exact h.fz k⟩
  · rw [o _ _ _ _ (by omega), o _ _ _ _ (by omega)]
    exact World.cell?_setCell_same _ _ _ h.c0
  · rw [o _ _ _ _ (by omega)]
    exact World.cell?_setCell_same _ _ _ (by rw [o _ _ _ _ (by omega)]; exact h.c1)
  · exact World.cell?_setCell_same _ _ _ (by rw [o _ _ _ _ (by omega), o _ _ _ _ (by omega)]; exact h.c2)
theorem Upd.nums {q : Nat} {v0 v1 v2 : Value} (u : Upd (fun _ => False) w w1) (hq : w.heap.size ≤ q) : Upd (fun _ => False) w (((w1.setCell ⟨q, 0, none⟩ v0).setCell ⟨q, 1, none⟩ v1).setCell ⟨q, 2, none⟩ v2) :=
  ((u.setCell _ (fun e => by simp only at e; omega) _).setCell _ (fun e => by simp only at e; omega) _).setCell _ (fun e => by simp only at e; omega) _
theorem read_long (w : World) (bh bm : Nat) (s : ByteArray) (hl : 200 < s.size) : Calls Tryz.prog 34 #[.agg #[.pointer (some ⟨bh, 0, none⟩), .map (some bm)], .string s] w (RdP none w) := by
  have t : decide (200 < (s.size : Int)) = true := by simp; omega
  have hn := NAt.new (w.alloc (.cells #[.pointer (some ⟨bh, 0, none⟩), .map (some bm)] 41)) 84
  rw [World.size_alloc] at hn
  have HN : Hid (NAt ((w.alloc (.cells #[.pointer (some ⟨bh, 0, none⟩), .map (some bm)] 41)).alloc (.cells #[.int .i64 0, .int .i64 0, .int .i64 0] 84)) (w.heap.size + 1) []) := hn
  have HU : Hid (Upd (fun _ => False) w ((w.alloc (.cells #[.pointer (some ⟨bh, 0, none⟩), .map (some bm)] 41)).alloc (.cells #[.int .i64 0, .int .i64 0, .int .i64 0] 84))) := ((Upd.refl _ _).alloc _).alloc _
  have HQ : Hid (w.heap.size ≤ w.heap.size + 1) := Nat.le_succ _
  clear hn
  go_enter Tryz.func34, Tryz.ntmps34
  go_wp2_with fail
  revert HN HU HQ
  generalize (w.alloc (.cells #[.pointer (some ⟨bh, 0, none⟩), .map (some bm)] 41)).alloc (.cells #[.int .i64 0, .int .i64 0, .int .i64 0] 84) = w2
  generalize w.heap.size + 1 = q
  intro HN HU HQ
  have c0 := HN.out.c0
  have c1 := HN.out.c1
  have c2 := HN.out.c2
  have z0 := HN.out.fz 0
  have z1 := HN.out.fz 1
  have z2 := HN.out.fz 2
  go_region_with (fail)
  all_goals go_wp2_with fail
  all_goals (try simp only [Exit.inBlock, Exit.then])
  all_goals refine bodyPost_ret (results_nums (q := q) (ns := []) rfl ((NAt.again HN.out).upd (Upd.refl (fun _ => False) _).drew (fun f => f))) rfl ?_
  all_goals exact ⟨⟨_, _, _, _, rfl⟩, (Upd.nums HU.out HQ.out).drew⟩
theorem split_any (w : World) (mx : Int) (hm : w.cell? ⟨0, 0, none⟩ = some (.int .i64 mx)) (s : ByteArray) (hs : s.size ≤ 300) : Calls Tryz.prog 49 #[.string s, .string ⟨#[32]⟩] w fun e w' => e = .returned (.slice (some ⟨w.heap.size, 0, none⟩) (wordsL s.data.toList).length (wordsL s.data.toList).length) ∧ TxAt w' (some ⟨w.heap.size, 0, none⟩) (txs (wordsL s.data.toList)) ∧ Upd (fun _ => False) w w' := by
  refine (Tryz.strings_Split s ⟨#[32]⟩ mx w (by omega) hm (by decide)).mono ?_
  rintro e w2 ⟨he, hw⟩
  have hl := Lib.splitB_all ⟨#[32]⟩ (by decide) 0 (Lib.countB s ⟨#[32]⟩) s rfl
  have hw2 := splitB_words s
  have hl2 : (wordsL s.data.toList).length = Lib.countB s ⟨#[32]⟩ + 1 := by rw [← hw2, List.length_map, hl]
  refine ⟨by rw [he, hl2], fun i hi => ⟨_, _, rfl, by rw [hw]; simp, ?_⟩, by rw [hw]; exact (Upd.refl _ _).alloc _⟩
  rw [txs_length] at hi
  rw [hw, Nat.zero_add, World.cell?_alloc_new, txs_get hi]
  have hi2 : i < (Lib.splitB ⟨#[32]⟩ 0 (Lib.countB s ⟨#[32]⟩) s).length := by rw [hl]; omega
  have e3 : (wordsL s.data.toList).getD i [] = ((Lib.splitB ⟨#[32]⟩ 0 (Lib.countB s ⟨#[32]⟩) s)[i]).data.toList := by
    rw [← hw2, List.getD_eq_getElem?_getD, List.getElem?_map, List.getElem?_eq_getElem hi2]
    rfl
  rw [e3, TX_of]
  simp [List.getElem?_eq_getElem hi2]
theorem look_any (hmap : MapAt w bm manyL) (c : List UInt8) (hc : c.length ≤ 300) : ∃ x, (Instr.lookup 38 (.map (some bm)) (.string (TX c)) true).run Tryz.prog w = .ok (.tuple #[.int .i64 x, .bool (manyL c).isSome]) w ∧ ∀ m, manyL c = some m → x = (m : Int) := by
  obtain ⟨D, nn, ho, hnn, ha⟩ := hmap
  have hkey : keyOf Tryz.prog 9 (.string (TX c)) = some (.string c) := keyOf_string_mk Tryz.underlying9 (by rw [TX_size]; unfold maxLen; omega)
  obtain ⟨v, ps, hrun, hv⟩ := ho.look_ok keyed Tryz.underlying38 (zeroInt w) (plainElem_int Tryz.underlying3 (by decide)) hkey
  obtain ⟨x, rfl, hx, _⟩ := plainElem_int_inv Tryz.underlying3 hv
  rw [(ha.2 c).1] at hrun
  refine ⟨x, hrun, fun m hm => ?_⟩
  have h1 := (ha.2 c).2 m hm
  simp only [Prod.mk.injEq] at hx
  rw [hx.1] at h1
  cases h1
  rfl
/-- Behind the words' splitting. -/
theorem read_pre (s : ByteArray) (hs : s.size ≤ 200) (c : List UInt8) (args : List (List UInt8)) (hw : wordsL s.data.toList = c :: args) : c.length ≤ 300 ∧ args.length ≤ 300 ∧ ∀ i, i < args.length → (TX (args.getD i [])).size ≤ 300 := by
  have hz : s.size = s.data.toList.length := (Array.length_toList (xs := s.data)).symm
  have h1 := words_len s.data.toList c (by rw [hw]; exact List.mem_cons_self)
  have hlen := wordsL_length s.data.toList
  rw [hw, List.length_cons] at hlen
  have hcl : s.data.toList.count 32 ≤ s.data.toList.length := List.count_le_length
  refine ⟨by omega, by omega, fun i hi => ?_⟩
  have := words_len s.data.toList (args.getD i []) (by rw [hw, List.getD_eq_getElem?_getD, List.getElem?_eq_getElem hi]; exact List.mem_cons_of_mem _ (List.getElem_mem hi))
  rw [TX_size]
  omega
set_option maxHeartbeats 1000000 in
theorem read_none (w : World) (mx : Int) (hm : w.cell? ⟨0, 0, none⟩ = some (.int .i64 mx)) (hmap : MapAt w bm manyL) (s : ByteArray) (hs : s.size ≤ 200) (c : List UInt8) (args : List (List UInt8)) (hw : wordsL s.data.toList = c :: args) (hb : manyL c ≠ some args.length) : Calls Tryz.prog 34 #[.agg #[.pointer (some ⟨bh, 0, none⟩), .map (some bm)], .string s] w (RdP none w) := by
  have t : decide (200 < (s.size : Int)) = false := by simp; omega
  obtain ⟨hc3, ha3, _⟩ := read_pre s hs c args hw
  have HSP : Hid (∀ w1, Upd (fun _ => False) w w1 → _) := fun w1 u => split_any w1 mx (u.cell hm (fun f => f)) s (by omega)
  rw [hw] at HSP
  have HMP : Hid (MapAt w bm manyL) := hmap
  have HB : Hid (manyL c ≠ some args.length) := hb
  clear hm hmap hb hw
  go_enter Tryz.func34, Tryz.ntmps34
  go_wp2_with fail
  refine Calls.mono (HSP.out _ (((Upd.refl _ _).alloc _).alloc _)) ?_
  rintro e w2 ⟨rfl, ht2, hu2⟩
  have HN : Hid (NAt w2 (w.heap.size + 1) []) := by
    have := NAt.new (w.alloc (.cells #[.pointer (some ⟨bh, 0, none⟩), .map (some bm)] 41)) 84
    rw [World.size_alloc] at this
    exact this.upd hu2 (fun f => f)
  have q2 : w2.cell? ⟨w.heap.size, 1, none⟩ = some (.map (some bm)) := hu2.cell ((((Upd.refl (fun _ => False) _).alloc _).cell (by rw [World.cell?_alloc_new]; rfl) (fun f => f))) (fun f => f)
  have HU : Hid (Upd (fun _ => False) w w2) := (((Upd.refl _ _).alloc _).alloc _).trans hu2 (fun _ _ f => f)
  obtain ⟨g, o, eg, hg, hc⟩ := ht2 0 (by rw [txs_length]; simp)
  cases eg
  rw [txs_get (by simp), Nat.add_zero, List.getD_cons_zero] at hc
  obtain ⟨x, hlk, hx⟩ := look_any (HMP.out.upd HU.out (fun f => f)) c hc3
  obtain ⟨x', hlk', hx'⟩ := look_any (HMP.out.upd HU.out.drew (fun f => f)) c hc3
  simp only [World.size_alloc, List.length_cons] at hc ⊢
  clear ht2 hu2 HSP HMP hg
  have HX : Hid (∀ m, manyL c = some m → x' = (m : Int)) := hx'
  clear hx hx' hlk
  cases hk : manyL c with
  | none =>
    rw [hk] at hlk'
    simp only [Option.isSome_none] at hlk'
    generalize hq0 : w.heap.size = q0 at *
    have HQ : Hid (w.heap.size ≤ q0 + 1) := show _ ≤ _ by omega
    clear hq0
    go_wp2_with fail
    go_region_with (fail)
    all_goals go_wp2_with fail
    all_goals (
      have c0 := HN.out.c0
      have c1 := HN.out.c1
      have c2 := HN.out.c2
      have z0 := HN.out.fz 0
      have z1 := HN.out.fz 1
      have z2 := HN.out.fz 2
      go_region_with (fail)
      all_goals go_wp2_with fail
      all_goals (try simp only [Exit.inBlock, Exit.then])
      all_goals first
        | (refine bodyPost_ret (results_nums (q := q0 + 1) (ns := []) rfl ((NAt.again HN.out).upd (Upd.refl (fun _ => False) _).drew.drew (fun f => f))) rfl ?_; exact ⟨⟨_, _, _, _, rfl⟩, (Upd.nums HU.out HQ.out).drew.drew⟩)
        | (refine bodyPost_ret (results_nums (q := q0 + 1) (ns := []) rfl ((NAt.again HN.out).upd (Upd.refl (fun _ => False) _).drew (fun f => f))) rfl ?_; exact ⟨⟨_, _, _, _, rfl⟩, (Upd.nums HU.out HQ.out).drew⟩))
  | some m =>
    rw [hk] at hlk'
    simp only [Option.isSome_some] at hlk'
    have hxm := HX.out m hk
    subst hxm
    have hne : ¬ m = args.length := fun e => HB.out (by rw [hk, e])
    have h3 := manyL_le c hk
    have hne1 : (((args.length : Int) + 1) != (1 + (m : Int))) = true := by simp; omega
    generalize hq0 : w.heap.size = q0 at *
    have HQ : Hid (w.heap.size ≤ q0 + 1) := show _ ≤ _ by omega
    clear hq0 HX HB
    go_wp2_with fail
    go_region_with (fail)
    all_goals go_wp2_with fail
    all_goals (
      have c0 := HN.out.c0
      have c1 := HN.out.c1
      have c2 := HN.out.c2
      have z0 := HN.out.fz 0
      have z1 := HN.out.fz 1
      have z2 := HN.out.fz 2
      go_region_with (fail)
      all_goals go_wp2_with fail
      all_goals (try simp only [Exit.inBlock, Exit.then])
      all_goals first
        | (refine bodyPost_ret (results_nums (q := q0 + 1) (ns := []) rfl ((NAt.again HN.out).upd (Upd.refl (fun _ => False) _).drew.drew (fun f => f))) rfl ?_; exact ⟨⟨_, _, _, _, rfl⟩, (Upd.nums HU.out HQ.out).drew.drew⟩)
        | (refine bodyPost_ret (results_nums (q := q0 + 1) (ns := []) rfl ((NAt.again HN.out).upd (Upd.refl (fun _ => False) _).drew (fun f => f))) rfl ?_; exact ⟨⟨_, _, _, _, rfl⟩, (Upd.nums HU.out HQ.out).drew⟩))
end Go.Proofs.YtadpibcgjgcjhabGreatDoor
