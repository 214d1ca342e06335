/- The console's read. -/
import Derived.Test.YtadpibcgjgcjhabGreatDoorPart23
import Derived.Test.YtadpibcgjgcjhabGreatDoorPart16
import Derived.Test.YtadpibcgjgcjhabGreatDoorPart03
import Derived.Test.YtadpibcgjgcjhabGreatDoorPart18
import Derived.Laws.OwnMore
import Derived.Deep.AppendLies
import Derived.Maps.AppendAt
namespace Go.Proofs.YtadpibcgjgcjhabGreatDoor
open Go.ChangeShapes Go.WideShapes Go.ChangeAt Go.RowKit Go.WideMaps Go.Maps
set_option maxRecDepth 100000
attribute [local go_sem ↓] Go.wp_at_zero Go.wp_at_succ
variable {W w w1 w2 w' : World} {bm bh : Nat}

/-- How a line's reading ends. -/
def RdP (r : Option (List UInt8 × List Int)) (w : World) (e : Ending) (w' : World) : Prop :=
  (match r with
  | some (c, ns) => e = .returned (.tuple #[.string (TX c), .agg #[.int .i64 (ns.getD 0 0), .int .i64 (ns.getD 1 0), .int .i64 (ns.getD 2 0)], .nilIface])
  | none => ∃ c a b v, e = .returned (.tuple #[.string c, .agg #[.int .i64 a, .int .i64 b, .int .i64 v], .iface 37 (.int .i64 9)])) ∧ Upd (fun _ => False) w w'
theorem zeroInt (w : World) : (zeroValue 3).run Tryz.prog w = .ok (.int .i64 0) w := by kernel_rfl
theorem read_results : Tryz.f34.results = #[.tmp 4, .cell 5 84, .tmp 6] := by kernel_rfl
theorem load_nums {q : Nat} {ns : List Int} (hN : NAt w q ns) : (loadVar 84 ⟨q, 0, none⟩).run Tryz.prog w = .ok (.agg #[.int .i64 (ns.getD 0 0), .int .i64 (ns.getD 1 0), .int .i64 (ns.getD 2 0)]) w := by
  have hl := run_loadCells_list (P := Tryz.prog) w ⟨q, 0, none⟩ [.int .i64 (ns.getD 0 0), .int .i64 (ns.getD 1 0), .int .i64 (ns.getD 2 0)] (fun j v hj => by
    rw [Addr.add_mid, Nat.zero_add]
    match j, hj with
    | 0, hj => cases hj; exact hN.c0
    | 1, hj => cases hj; exact hN.c1
    | 2, hj => cases hj; exact hN.c2)
  have ha : (isAgg 84).run Tryz.prog w = .ok true w := Tryz.isAgg84 w
  have hz : (sizeOf 84).run Tryz.prog w = .ok 3 w := Tryz.sizeOf84 w
  unfold loadVar
  simp only [Sem.run_bind, ha, Result.andThen, if_true, hz]
  simp only [List.length_cons, List.length_nil] at hl
  rw [hl]
  rfl
theorem results_tct {fn : Func} {t p u : Tmp} {ty : TypeId} (h : fn.results = #[.tmp t, .cell p ty, .tmp u]) (tmps : Array Value) (P : Program) (w : World) :
    (results fn tmps).run P w = ((asAddr (tmps.getD p undef)).run P w).andThen fun a w₁ => ((loadVar ty a).run P w₁).andThen fun v w₂ => .ok (.tuple #[tmps.getD t undef, v, tmps.getD u undef]) w₂ := by
  simp only [results, h]
  simp [Sem.run_bind, Result.andThen]
theorem results_nums {tmps : Array Value} {q : Nat} {ns : List Int} (h5 : tmps.getD 5 undef = .pointer (some ⟨q, 0, none⟩)) (hN : NAt w q ns) : (results Tryz.f34 tmps).run Tryz.prog w = .ok (.tuple #[tmps.getD 4 undef, .agg #[.int .i64 (ns.getD 0 0), .int .i64 (ns.getD 1 0), .int .i64 (ns.getD 2 0)], tmps.getD 6 undef]) w := by
  have hl := load_nums hN
  have ha : (asAddr (.pointer (some ⟨q, 0, none⟩))).run Tryz.prog w = .ok ⟨q, 0, none⟩ w := by rfl
  rw [results_tct read_results, h5, ha]
  simp only [Result.andThen, hl]
theorem NAt.again {q : Nat} {ns : List Int} (h : NAt w q ns) : NAt (((w.setCell ⟨q, 0, none⟩ (.int .i64 (ns.getD 0 0))).setCell ⟨q, 1, none⟩ (.int .i64 (ns.getD 1 0))).setCell ⟨q, 2, none⟩ (.int .i64 (ns.getD 2 0))) q ns := by
  have o : ∀ (w : World) (i j : Nat) (v : Value), i ≠ j → (w.setCell ⟨q, i, none⟩ v).cell? ⟨q, j, none⟩ = w.cell? ⟨q, j, none⟩ := fun w i j v hij => World.cell?_setCell_other _ _ _ _ (addr_ne (Or.inr (by omega)))
  refine ⟨?_, ?_, ?_, fun k => by rw [World.frozen?_setCell, World.frozen?_setCell, World.frozen?_setCell]; exact h.fz k⟩
  · rw [o _ _ _ _ (by omega), o _ _ _ _ (by omega)]
    exact World.cell?_setCell_same _ _ _ h.c0
  · rw [o _ _ _ _ (by omega)]
    exact World.cell?_setCell_same _ _ _ (by rw [o _ _ _ _ (by omega)]; exact h.c1)
  · exact World.cell?_setCell_same _ _ _ (by rw [o _ _ _ _ (by omega), o _ _ _ _ (by omega)]; exact h.c2)
theorem Upd.nums {q : Nat} {v0 v1 v2 : Value} (u : Upd (fun _ => False) w w1) (hq : w.heap.size ≤ q) : Upd (fun _ => False) w (((w1.setCell ⟨q, 0, none⟩ v0).setCell ⟨q, 1, none⟩ v1).setCell ⟨q, 2, none⟩ v2) :=
  ((u.setCell _ (fun e => by simp only at e; omega) _).setCell _ (fun e => by simp only at e; omega) _).setCell _ (fun e => by simp only at e; omega) _
theorem read_long (w : World) (bh bm : Nat) (s : ByteArray) (hl : 200 < s.size) : Calls Tryz.prog 34 #[.agg #[.pointer (some ⟨bh, 0, none⟩), .map (some bm)], .string s] w (RdP none w) := by
  have t : decide (200 < (s.size : Int)) = true := by simp; omega
  have hn := NAt.new (w.alloc (.cells #[.pointer (some ⟨bh, 0, none⟩), .map (some bm)] 41)) 84
  rw [World.size_alloc] at hn
  have HN : Hid (NAt ((w.alloc (.cells #[.pointer (some ⟨bh, 0, none⟩), .map (some bm)] 41)).alloc (.cells #[.int .i64 0, .int .i64 0, .int .i64 0] 84)) (w.heap.size + 1) []) := hn
  have HU : Hid (Upd (fun _ => False) w ((w.alloc (.cells #[.pointer (some ⟨bh, 0, none⟩), .map (some bm)] 41)).alloc (.cells #[.int .i64 0, .int .i64 0, .int .i64 0] 84))) := ((Upd.refl _ _).alloc _).alloc _
  have HQ : Hid (w.heap.size ≤ w.heap.size + 1) := Nat.le_succ _
  clear hn
  go_enter Tryz.func34, Tryz.ntmps34
  go_wp2_with fail
  revert HN HU HQ
  generalize (w.alloc (.cells #[.pointer (some ⟨bh, 0, none⟩), .map (some bm)] 41)).alloc (.cells #[.int .i64 0, .int .i64 0, .int .i64 0] 84) = w2
  generalize w.heap.size + 1 = q
  intro HN HU HQ
  have c0 := HN.out.c0
  have c1 := HN.out.c1
  have c2 := HN.out.c2
  have z0 := HN.out.fz 0
  have z1 := HN.out.fz 1
  have z2 := HN.out.fz 2
  go_region_with (fail)
  all_goals go_wp2_with fail
  all_goals (try simp only [Exit.inBlock, Exit.then])
  all_goals refine bodyPost_ret (results_nums (q := q) (ns := []) rfl ((NAt.again HN.out).upd (Upd.refl (fun _ => False) _).drew (fun f => f))) rfl ?_
  all_goals exact ⟨⟨_, _, _, _, rfl⟩, (Upd.nums HU.out HQ.out).drew⟩
theorem split_any (w : World) (mx : Int) (hm : w.cell? ⟨0, 0, none⟩ = some (.int .i64 mx)) (s : ByteArray) (hs : s.size ≤ 300) : Calls Tryz.prog 49 #[.string s, .string ⟨#[32]⟩] w fun e w' => e = .returned (.slice (some ⟨w.heap.size, 0, none⟩) (wordsL s.data.toList).length (wordsL s.data.toList).length) ∧ TxAt w' (some ⟨w.heap.size, 0, none⟩) (txs (wordsL s.data.toList)) ∧ Upd (fun _ => False) w w' := by
  refine (Tryz.strings_Split s ⟨#[32]⟩ mx w (by omega) hm (by decide)).mono ?_
  rintro e w2 ⟨he, hw⟩
  have hl := Lib.splitB_all ⟨#[32]⟩ (by decide) 0 (Lib.countB s ⟨#[32]⟩) s rfl
  have hw2 := splitB_words s
  have hl2 : (wordsL s.data.toList).length = Lib.countB s ⟨#[32]⟩ + 1 := by rw [← hw2, List.length_map, hl]
  refine ⟨by rw [he, hl2], fun i hi => ⟨_, _, rfl, by rw [hw]; simp, ?_⟩, by rw [hw]; exact (Upd.refl _ _).alloc _⟩
  rw [txs_length] at hi
  rw [hw, Nat.zero_add, World.cell?_alloc_new, txs_get hi]
  have hi2 : i < (Lib.splitB ⟨#[32]⟩ 0 (Lib.countB s ⟨#[32]⟩) s).length := by rw [hl]; omega
  have e3 : (wordsL s.data.toList).getD i [] = ((Lib.splitB ⟨#[32]⟩ 0 (Lib.countB s ⟨#[32]⟩) s)[i]).data.toList := by
    rw [← hw2, List.getD_eq_getElem?_getD, List.getElem?_map, List.getElem?_eq_getElem hi2]
    rfl
  rw [e3, TX_of]
  simp [List.getElem?_eq_getElem hi2]
theorem look_any (hmap : MapAt w bm manyL) (c : List UInt8) (hc : c.length ≤ 300) : ∃ x, (Instr.lookup 38 (.map (some bm)) (.string (TX c)) true).run Tryz.prog w = .ok (.tuple #[.int .i64 x, .bool (manyL c).isSome]) w ∧ ∀ m, manyL c = some m → x = (m : Int) := by
  obtain ⟨D, nn, ho, hnn, ha⟩ := hmap
  have hkey : keyOf Tryz.prog 9 (.string (TX c)) = some (.string c) := keyOf_string_mk Tryz.underlying9 (by rw [TX_size]; unfold maxLen; omega)
  obtain ⟨v, ps, hrun, hv⟩ := ho.look_ok keyed Tryz.underlying38 (zeroInt w) (plainElem_int Tryz.underlying3 (by decide)) hkey
  obtain ⟨x, rfl, hx, _⟩ := plainElem_int_inv Tryz.underlying3 hv
  rw [(ha.2 c).1] at hrun
  refine ⟨x, hrun, fun m hm => ?_⟩
  have h1 := (ha.2 c).2 m hm
  simp only [Prod.mk.injEq] at hx
  rw [hx.1] at h1
  cases h1
  rfl
/-- Behind the words' splitting. -/
theorem read_pre (s : ByteArray) (hs : s.size ≤ 200) (c : List UInt8) (args : List (List UInt8)) (hw : wordsL s.data.toList = c :: args) : c.length ≤ 300 ∧ args.length ≤ 300 ∧ ∀ i, i < args.length → (TX (args.getD i [])).size ≤ 300 := by
  have hz : s.size = s.data.toList.length := (Array.length_toList (xs := s.data)).symm
  have h1 := words_len s.data.toList c (by rw [hw]; exact List.mem_cons_self)
  have hlen := wordsL_length s.data.toList
  rw [hw, List.length_cons] at hlen
  have hcl : s.data.toList.count 32 ≤ s.data.toList.length := List.count_le_length
  refine ⟨by omega, by omega, fun i hi => ?_⟩
  have := words_len s.data.toList (args.getD i []) (by rw [hw, List.getD_eq_getElem?_getD, List.getElem?_eq_getElem hi]; exact List.mem_cons_of_mem _ (List.getElem_mem hi))
  rw [TX_size]
  omega
set_option maxHeartbeats 1000000 in
theorem read_none (w : World) (mx : Int) (hm : w.cell? ⟨0, 0, none⟩ = some (.int .i64 mx)) (hmap : MapAt w bm manyL) (s : ByteArray) (hs : s.size ≤ 200) (c : List UInt8) (args : List (List UInt8)) (hw : wordsL s.data.toList = c :: args) (hb : manyL c ≠ some args.length) : Calls Tryz.prog 34 #[.agg #[.pointer (some ⟨bh, 0, none⟩), .map (some bm)], .string s] w (RdP none w) := by
  have t : decide (200 < (s.size : Int)) = false := by simp; omega
  obtain ⟨hc3, ha3, _⟩ := read_pre s hs c args hw
  have HSP : Hid (∀ w1, Upd (fun _ => False) w w1 → _) := fun w1 u => split_any w1 mx (u.cell hm (fun f => f)) s (by omega)
  rw [hw] at HSP
  have HMP : Hid (MapAt w bm manyL) := hmap
  have HB : Hid (manyL c ≠ some args.length) := hb
  clear hm hmap hb hw
  go_enter Tryz.func34, Tryz.ntmps34
  go_wp2_with fail
  refine Calls.mono (HSP.out _ (((Upd.refl _ _).alloc _).alloc _)) ?_
  rintro e w2 ⟨rfl, ht2, hu2⟩
  have HN : Hid (NAt w2 (w.heap.size + 1) []) := by
    have := NAt.new (w.alloc (.cells #[.pointer (some ⟨bh, 0, none⟩), .map (some bm)] 41)) 84
    rw [World.size_alloc] at this
    exact this.upd hu2 (fun f => f)
  have q2 : w2.cell? ⟨w.heap.size, 1, none⟩ = some (.map (some bm)) := hu2.cell ((((Upd.refl (fun _ => False) _).alloc _).cell (by rw [World.cell?_alloc_new]; rfl) (fun f => f))) (fun f => f)
  have HU : Hid (Upd (fun _ => False) w w2) := (((Upd.refl _ _).alloc _).alloc _).trans hu2 (fun _ _ f => f)
  obtain ⟨g, o, eg, hg, hc⟩ := ht2 0 (by rw [txs_length]; simp)
  cases eg
  rw [txs_get (by simp), Nat.add_zero, List.getD_cons_zero] at hc
  obtain ⟨x, hlk, hx⟩ := look_any (HMP.out.upd HU.out (fun f => f)) c hc3
  obtain ⟨x', hlk', hx'⟩ := look_any (HMP.out.upd HU.out.drew (fun f => f)) c hc3
  simp only [World.size_alloc, List.length_cons] at hc ⊢
  clear ht2 hu2 HSP HMP hg
  have HX : Hid (∀ m, manyL c = some m → x' = (m : Int)) := hx'
  clear hx hx' hlk
  cases hk : manyL c with
  | none =>
    rw [hk] at hlk'
    simp only [Option.isSome_none] at hlk'
    generalize hq0 : w.heap.size = q0 at *
    have HQ : Hid (w.heap.size ≤ q0 + 1) := show _ ≤ _ by omega
    clear hq0
    go_wp2_with fail
    go_region_with (fail)
    all_goals go_wp2_with fail
    all_goals (
      have c0 := HN.out.c0
      have c1 := HN.out.c1
      have c2 := HN.out.c2
      have z0 := HN.out.fz 0
      have z1 := HN.out.fz 1
      have z2 := HN.out.fz 2
      go_region_with (fail)
      all_goals go_wp2_with fail
      all_goals (try simp only [Exit.inBlock, Exit.then])
      all_goals first
        | (refine bodyPost_ret (results_nums (q := q0 + 1) (ns := []) rfl ((NAt.again HN.out).upd (Upd.refl (fun _ => False) _).drew.drew (fun f => f))) rfl ?_; exact ⟨⟨_, _, _, _, rfl⟩, (Upd.nums HU.out HQ.out).drew.drew⟩)
        | (refine bodyPost_ret (results_nums (q := q0 + 1) (ns := []) rfl ((NAt.again HN.out).upd (Upd.refl (fun _ => False) _).drew (fun f => f))) rfl ?_; exact ⟨⟨_, _, _, _, rfl⟩, (Upd.nums HU.out HQ.out).drew⟩))
  | some m =>
    rw [hk] at hlk'
    simp only [Option.isSome_some] at hlk'
    have hxm := HX.out m hk
    subst hxm
    have hne : ¬ m = args.length := fun e => HB.out (by rw [hk, e])
    have h3 := manyL_le c hk
    have hne1 : (((args.length : Int) + 1) != (1 + (m : Int))) = true := by simp; omega
    generalize hq0 : w.heap.size = q0 at *
    have HQ : Hid (w.heap.size ≤ q0 + 1) := show _ ≤ _ by omega
    clear hq0 HX HB
    go_wp2_with fail
    go_region_with (fail)
    all_goals go_wp2_with fail
    all_goals (
      have c0 := HN.out.c0
      have c1 := HN.out.c1
      have c2 := HN.out.c2
      have z0 := HN.out.fz 0
      have z1 := HN.out.fz 1
      have z2 := HN.out.fz 2
      go_region_with (fail)
      all_goals go_wp2_with fail
      all_goals (try simp only [Exit.inBlock, Exit.then])
      all_goals first
        | (refine bodyPost_ret (results_nums (q := q0 + 1) (ns := []) rfl ((NAt.again HN.out).upd (Upd.refl (fun _ => False) _).drew.drew (fun f => f))) rfl ?_; exact ⟨⟨_, _, _, _, rfl⟩, (Upd.nums HU.out HQ.out).drew.drew⟩)
        | (refine bodyPost_ret (results_nums (q := q0 + 1) (ns := []) rfl ((NAt.again HN.out).upd (Upd.refl (fun _ => False) _).drew (fun f => f))) rfl ?_; exact ⟨⟨_, _, _, _, rfl⟩, (Upd.nums HU.out HQ.out).drew⟩))
end Go.Proofs.YtadpibcgjgcjhabGreatDoor
/- The console's read: numbers. -/
namespace Go.Proofs.YtadpibcgjgcjhabGreatDoor
open Go.ChangeShapes Go.WideShapes Go.ChangeAt Go.RowKit Go.WideMaps Go.Maps
set_option maxRecDepth 100000
attribute [local go_sem ↓] Go.wp_at_zero Go.wp_at_succ
variable {W w w1 w2 w' : World} {bm bh : Nat}

set_option maxHeartbeats 1000000 in
theorem read_good (w : World) (mx : Int) (hm : w.cell? ⟨0, 0, none⟩ = some (.int .i64 mx)) (hmap : MapAt w bm manyL) (s : ByteArray) (hs : s.size ≤ 200) (c : List UInt8) (args : List (List UInt8)) (hw : wordsL s.data.toList = c :: args) (hb : manyL c = some args.length) (hne : args ≠ []) : Calls Tryz.prog 34 #[.agg #[.pointer (some ⟨bh, 0, none⟩), .map (some bm)], .string s] w (RdP ((args.mapM numW).map fun ns => (c, ns)) w) := by
  have t : decide (200 < (s.size : Int)) = false := by simp; omega
  obtain ⟨hc3, ha3, HA0⟩ := read_pre s hs c args hw
  have HSP : Hid (∀ w1, Upd (fun _ => False) w w1 → _) := fun w1 u => split_any w1 mx (u.cell hm (fun f => f)) s (by omega)
  rw [hw] at HSP
  have HMP : Hid (MapAt w bm manyL) := hmap
  have h3 := manyL_le c hb
  have HB : Hid (manyL c = some args.length) := hb
  have HA : Hid (∀ i, i < args.length → (TX (args.getD i [])).size ≤ 300) := HA0
  clear hm hmap hb hw HA0
  go_enter Tryz.func34, Tryz.ntmps34
  go_wp2_with fail
  refine Calls.mono (HSP.out _ (((Upd.refl _ _).alloc _).alloc _)) ?_
  rintro e w2 ⟨rfl, ht2, hu2⟩
  have HN : Hid (NAt w2 (w.heap.size + 1) []) := by
    have := NAt.new (w.alloc (.cells #[.pointer (some ⟨bh, 0, none⟩), .map (some bm)] 41)) 84
    rw [World.size_alloc] at this
    exact this.upd hu2 (fun f => f)
  have q2 : w2.cell? ⟨w.heap.size, 1, none⟩ = some (.map (some bm)) := hu2.cell ((((Upd.refl (fun _ => False) _).alloc _).cell (by rw [World.cell?_alloc_new]; rfl) (fun f => f))) (fun f => f)
  have HU : Hid (Upd (fun _ => False) w w2) := (((Upd.refl _ _).alloc _).alloc _).trans hu2 (fun _ _ f => f)
  obtain ⟨g, o, eg, hg, hc⟩ := ht2 0 (by rw [txs_length]; simp)
  cases eg
  rw [txs_get (by simp), Nat.add_zero, List.getD_cons_zero] at hc
  obtain ⟨x, hlk, hx⟩ := look_any (HMP.out.upd HU.out (fun f => f)) c hc3
  obtain ⟨x', hlk', hx'⟩ := look_any (HMP.out.upd HU.out.drew (fun f => f)) c hc3
  simp only [World.size_alloc, List.length_cons] at hc ⊢
  have HT : Hid (TxAt w2 (some ⟨w.heap.size + 1 + 1, 0, none⟩) (txs (c :: args))) := by have := ht2; simp only [World.size_alloc] at this; exact this
  clear ht2 hu2 HSP HMP hg
  have HX : Hid (∀ m, manyL c = some m → x' = (m : Int)) := hx'
  clear hx hx' hlk
  have hlk2 := hlk'
  rw [HB.out, HX.out _ HB.out] at hlk2
  simp only [Option.isSome_some] at hlk2
  have hne1 : (((args.length : Int) + 1) != (1 + (args.length : Int))) = false := by simp; omega
  generalize hq0 : w.heap.size = q0 at *
  have HQ : Hid (w.heap.size ≤ q0 + 1) := show _ ≤ _ by omega
  clear hq0 HX HB hlk'
  go_wp2_with fail
  go_region_with (fail)
  all_goals go_wp2_with fail
  all_goals (
    go_loopg [6, 42] args.length (fun gk ev iv wr => ∃ (k : Nat) (ns : List Int), k + gk = args.length ∧ iv = .int .i64 (k : Int) ∧ ev = .nilIface ∧ Hid (RdAt args k ns) ∧ Hid (NAt wr (q0 + 1) ns) ∧ Hid (TxAt wr (some ⟨q0 + 1 + 1, 0, none⟩) (txs (c :: args))) ∧ Hid (Upd (fun _ => False) w wr))
    case atStart => exact ⟨0, [], by omega, by rfl, rfl, RdAt.start _, HN.out.upd (Upd.refl (fun _ => False) _).drew (fun f => f), HT.out.upd (Upd.refl (fun _ => False) _).drew (fun _ _ _ f => f), HU.out.drew⟩
    case round =>
      obtain ⟨k, ns, hk, rfl, rfl, HD, HNr, HTr, HUr⟩ := hrel
      have HK : Hid _ := hk
      clear hk hc q2 hlk2
      by_cases hlt : k < args.length
      · obtain ⟨g', o', e, _, hcw⟩ := HTr.out (k + 1) (by rw [txs_length]; simp; exact hlt)
        cases e
        rw [txs_get (by simp; exact hlt), List.getD_cons_succ, Nat.zero_add, Nat.add_comm k 1] at hcw
        have hnl := HD.out.len
        have hck := HNr.out.at (k := k) (by omega)
        have hfz := HNr.out.fz k
        cases hx : numW (args.getD k []) with
        | none =>
          have HFI : Hid (∀ w, Calls Tryz.prog 50 #[.string (TX (args.getD k []))] w fun e w' => e = .returned (.tuple #[.int .i64 0, .iface 37 (.int .i64 9)]) ∧ w' = w) := fun w => by
            have := number_any w (TX (args.getD k []))
            rw [show (TX (args.getD k [])).data.toList = args.getD k [] from rfl, hx] at this
            exact this
          have HBAD : Hid ((args.mapM numW).map (fun ns => (c, ns)) = none) := show _ = _ by rw [read_bad hlt hx]; rfl
          clear hx
          generalize TX (args.getD k []) = word at *
          have HP : Hid (NAt (wr.setCell ⟨q0 + 1, k, none⟩ (.int .i64 0)) (q0 + 1) (ns ++ [0])) := by
            have := HNr.out.put 0 (by omega)
            rw [hnl] at this
            exact this
          have HU4 : Hid (Upd (fun _ => False) w (wr.setCell ⟨q0 + 1, k, none⟩ (.int .i64 0))) := HUr.out.setCell _ (fun e => by have := HQ.out; simp only at e; omega) _
          go_wp2_with (go_at_call 50; refine Calls.mono (HFI.out _) ?_; rintro e w4 ⟨rfl, hw4⟩; subst hw4)
          revert HP HU4
          generalize w4.setCell ⟨q0 + 1, k, none⟩ (.int .i64 0) = w5
          generalize ns ++ [(0 : Int)] = ms
          intro HP HU4
          have d0 := HP.out.c0
          have d1 := HP.out.c1
          have d2 := HP.out.c2
          have z0 := HP.out.fz 0
          have z1 := HP.out.fz 1
          have z2 := HP.out.fz 2
          clear hck hfz hcw
          go_region_with (fail)
          all_goals go_wp2_with fail
          all_goals (try simp only [Exit.inBlock, Exit.then])
          all_goals refine bodyPost_ret (results_nums (q := q0 + 1) (ns := ms) rfl ((NAt.again HP.out).upd (Upd.refl (fun _ => False) _).drew (fun f => f))) rfl ?_
          all_goals (rw [HBAD.out]; exact ⟨⟨_, _, _, _, rfl⟩, (Upd.nums HU4.out HQ.out).drew⟩)
        | some y =>
          have HFI : Hid (∀ w, Calls Tryz.prog 50 #[.string (TX (args.getD k []))] w fun e w' => e = .returned (.tuple #[.int .i64 y, .nilIface]) ∧ w' = w) := fun w => by
            have := number_any w (TX (args.getD k []))
            rw [show (TX (args.getD k [])).data.toList = args.getD k [] from rfl, hx] at this
            exact this
          have HD2 : Hid _ := HD.out.next hlt hx
          clear hx
          generalize TX (args.getD k []) = word at *
          have HP : Hid (NAt (wr.setCell ⟨q0 + 1, k, none⟩ (.int .i64 y)) (q0 + 1) (ns ++ [y])) := by
            have := HNr.out.put y (by omega)
            rw [hnl] at this
            exact this
          have HU4 : Hid (Upd (fun _ => False) w (wr.setCell ⟨q0 + 1, k, none⟩ (.int .i64 y))) := HUr.out.setCell _ (fun e => by have := HQ.out; simp only at e; omega) _
          have HT4 : Hid (TxAt (wr.setCell ⟨q0 + 1, k, none⟩ (.int .i64 y)) (some ⟨q0 + 1 + 1, 0, none⟩) (txs (c :: args))) := HTr.out.upd (Upd.one wr (q0 + 1) k (.int .i64 y)) (fun g' o' e => by cases e; omega)
          go_wp2_with (go_at_call 50; refine Calls.mono (HFI.out _) ?_; rintro e w4 ⟨rfl, hw4⟩; subst hw4)
          go_roundg (args.length - (k + 1))
          case rel => exact ⟨k + 1, ns ++ [y], by omega, by go_num, rfl, HD2.out, HP.out, HT4.out, HU4.out⟩
          case measure => have := HK.out; omega
      · have hke : k = args.length := by have := HK.out; omega
        have HOKK : Hid ((args.mapM numW).map (fun ns => (c, ns)) = some (c, ns)) := show _ = _ by
          have := HD.out.ok
          rw [hke, List.take_length] at this
          rw [this]
          rfl
        obtain ⟨g', o', e, _, hcw⟩ := HTr.out 0 (by rw [txs_length]; simp)
        cases e
        rw [txs_get (by simp), Nat.add_zero, List.getD_cons_zero] at hcw
        have d0 := HNr.out.c0
        have d1 := HNr.out.c1
        have d2 := HNr.out.c2
        have z0 := HNr.out.fz 0
        have z1 := HNr.out.fz 1
        have z2 := HNr.out.fz 2
        go_wp2_with fail
        go_region_with (fail)
        all_goals go_wp2_with fail
        all_goals (try simp only [Exit.inBlock, Exit.then])
        all_goals refine bodyPost_ret (results_nums (q := q0 + 1) (ns := ns) rfl ((NAt.again HNr.out).upd (Upd.refl (fun _ => False) _).drew (fun f => f))) rfl ?_
        all_goals (rw [HOKK.out]; exact ⟨rfl, (Upd.nums HUr.out HQ.out).drew⟩))
set_option maxHeartbeats 1000000 in
theorem read_zero (w : World) (mx : Int) (hm : w.cell? ⟨0, 0, none⟩ = some (.int .i64 mx)) (hmap : MapAt w bm manyL) (s : ByteArray) (hs : s.size ≤ 200) (c : List UInt8) (hw : wordsL s.data.toList = [c]) (hb : manyL c = some 0) : Calls Tryz.prog 34 #[.agg #[.pointer (some ⟨bh, 0, none⟩), .map (some bm)], .string s] w (RdP (some (c, [])) w) := by
  have t : decide (200 < (s.size : Int)) = false := by simp; omega
  obtain ⟨hc3, ha3, HA0⟩ := read_pre s hs c [] hw
  have HSP : Hid (∀ w1, Upd (fun _ => False) w w1 → _) := fun w1 u => split_any w1 mx (u.cell hm (fun f => f)) s (by omega)
  rw [hw] at HSP
  have HMP : Hid (MapAt w bm manyL) := hmap
  have HB : Hid (manyL c = some 0) := hb
  clear hm hmap hb hw HA0
  go_enter Tryz.func34, Tryz.ntmps34
  go_wp2_with fail
  refine Calls.mono (HSP.out _ (((Upd.refl _ _).alloc _).alloc _)) ?_
  rintro e w2 ⟨rfl, ht2, hu2⟩
  have HN : Hid (NAt w2 (w.heap.size + 1) []) := by
    have := NAt.new (w.alloc (.cells #[.pointer (some ⟨bh, 0, none⟩), .map (some bm)] 41)) 84
    rw [World.size_alloc] at this
    exact this.upd hu2 (fun f => f)
  have q2 : w2.cell? ⟨w.heap.size, 1, none⟩ = some (.map (some bm)) := hu2.cell ((((Upd.refl (fun _ => False) _).alloc _).cell (by rw [World.cell?_alloc_new]; rfl) (fun f => f))) (fun f => f)
  have HU : Hid (Upd (fun _ => False) w w2) := (((Upd.refl _ _).alloc _).alloc _).trans hu2 (fun _ _ f => f)
  obtain ⟨g, o, eg, hg, hc⟩ := ht2 0 (by rw [txs_length]; simp)
  cases eg
  rw [txs_get (by simp), Nat.add_zero, List.getD_cons_zero] at hc
  obtain ⟨x, hlk, hx⟩ := look_any (HMP.out.upd HU.out (fun f => f)) c hc3
  obtain ⟨x', hlk', hx'⟩ := look_any (HMP.out.upd HU.out.drew (fun f => f)) c hc3
  simp only [World.size_alloc, List.length_cons, List.length_nil] at hc ⊢
  have HT : Hid (TxAt w2 (some ⟨w.heap.size + 1 + 1, 0, none⟩) (txs [c])) := by have := ht2; simp only [World.size_alloc] at this; exact this
  clear ht2 hu2 HSP HMP hg
  have HX : Hid (∀ m, manyL c = some m → x' = (m : Int)) := hx'
  clear hx hx' hlk
  have hlk2 := hlk'
  rw [HB.out, HX.out _ HB.out] at hlk2
  simp only [Option.isSome_some] at hlk2
  have HQ : Hid (w.heap.size ≤ w.heap.size + 1) := Nat.le_succ _
  generalize hq0 : w.heap.size = q0 at *
  clear HX HB hlk' ha3 HT
  go_wp2_with fail
  go_region_with (fail)
  all_goals go_wp2_with fail
  all_goals (
    go_loopg [6, 42] 0 (fun gk ev iv wr => iv = .int .i64 0 ∧ ev = .nilIface ∧ Hid (wr = w2.drew))
    case atStart => exact ⟨rfl, rfl, rfl⟩
    case round =>
      obtain ⟨rfl, rfl, HWR⟩ := hrel
      have hwr := HWR.out
      subst hwr
      have d0 := HN.out.c0
      have d1 := HN.out.c1
      have d2 := HN.out.c2
      have z0 := HN.out.fz 0
      have z1 := HN.out.fz 1
      have z2 := HN.out.fz 2
      go_wp2_with fail
      go_region_with (fail)
      all_goals go_wp2_with fail
      all_goals (try simp only [Exit.inBlock, Exit.then])
      all_goals refine bodyPost_ret (results_nums (q := q0 + 1) (ns := []) rfl ((NAt.again HN.out).upd (Upd.refl (fun _ => False) _).drew.drew (fun f => f))) rfl ?_
      all_goals exact ⟨rfl, (Upd.nums HU.out (by rw [hq0]; exact HQ.out)).drew.drew⟩)
end Go.Proofs.YtadpibcgjgcjhabGreatDoor
/- The console's answer. -/
namespace Go.Proofs.YtadpibcgjgcjhabGreatDoor
open Go.ChangeShapes Go.WideShapes Go.ChangeAt Go.RowKit Go.WideMaps Go.Maps
set_option maxRecDepth 100000
attribute [local go_sem ↓] Go.wp_at_zero Go.wp_at_succ
variable {W w w1 w2 w3 w' : World} {bh bp bf bm : Nat} {G G' : Nat → G3} {h h2 : Hs} {n k : Nat}

theorem read_any (w : World) (mx : Int) (hm : w.cell? ⟨0, 0, none⟩ = some (.int .i64 mx)) (hmap : MapAt w bm manyL) (s : ByteArray) : Calls Tryz.prog 34 #[.agg #[.pointer (some ⟨bh, 0, none⟩), .map (some bm)], .string s] w (RdP (readL s.data.toList) w) := by
  have hz : s.size = s.data.toList.length := (Array.length_toList (xs := s.data)).symm
  by_cases hl : 200 < s.size
  · have e : readL s.data.toList = none := by unfold readL; rw [if_pos (by omega)]
    rw [e]
    exact read_long w bh bm s hl
  · obtain ⟨c, args, hw⟩ : ∃ c args, wordsL s.data.toList = c :: args := by
      cases hw : wordsL s.data.toList with
      | nil => exact absurd hw (wordsL_ne _)
      | cons c args => exact ⟨c, args, rfl⟩
    by_cases hmy : manyL c = some args.length
    · have e : readL s.data.toList = (args.mapM numW).map fun ns => (c, ns) := by
        unfold readL
        rw [if_neg (by omega), hw]
        simp only [hmy, if_true]
        cases args.mapM numW <;> rfl
      rw [e]
      by_cases ha : args = []
      · subst ha
        exact read_zero w mx hm hmap s (by omega) c hw hmy
      · exact read_good w mx hm hmap s (by omega) c args hw hmy ha
    · have e : readL s.data.toList = none := by unfold readL; rw [if_neg (by omega), hw]; simp only [hmy, if_false]
      rw [e]
      exact read_none w mx hm hmap s (by omega) c args hw hmy
theorem read_many {l c : List UInt8} {ns : List Int} (e : readL l = some (c, ns)) : ∃ m, manyL c = some m := by
  unfold readL at e
  split at e
  · cases e
  · split at e
    · cases e
    · next w ws hw =>
      split at e
      · next hm =>
        split at e
        · cases e; exact ⟨_, hm⟩
        · cases e
      · cases e
theorem boxN (w : World) : (w.alloc (.cells #[.int .i64 0, .int .i64 0, .int .i64 0] 84)).cell? ⟨w.heap.size, 0, none⟩ = some (.int .i64 0) ∧ (w.alloc (.cells #[.int .i64 0, .int .i64 0, .int .i64 0] 84)).cell? ⟨w.heap.size, 1, none⟩ = some (.int .i64 0) ∧ (w.alloc (.cells #[.int .i64 0, .int .i64 0, .int .i64 0] 84)).cell? ⟨w.heap.size, 2, none⟩ = some (.int .i64 0) ∧ (w.alloc (.cells #[.int .i64 0, .int .i64 0, .int .i64 0] 84)).frozen? ⟨w.heap.size, 0, none⟩ = false ∧ (w.alloc (.cells #[.int .i64 0, .int .i64 0, .int .i64 0] 84)).frozen? ⟨w.heap.size, 1, none⟩ = false ∧ (w.alloc (.cells #[.int .i64 0, .int .i64 0, .int .i64 0] 84)).frozen? ⟨w.heap.size, 2, none⟩ = false := by
  refine ⟨?_, ?_, ?_, World.frozen?_alloc_new _ _ _ _, World.frozen?_alloc_new _ _ _ _, World.frozen?_alloc_new _ _ _ _⟩
  all_goals rw [World.cell?_alloc_new]; rfl
set_option maxHeartbeats 1000000 in
theorem answer_any (s : PS W w n k bh bp bf G h) (mx : Int) (hm : w.cell? ⟨0, 0, none⟩ = some (.int .i64 mx)) (hmap : MapAt w bm manyL) (l : ByteArray) :
    Calls Tryz.prog 12 #[.agg #[.pointer (some ⟨bh, 0, none⟩), .map (some bm)], .string l] w fun e w2 => e = .returned (.string (TX (sayL h l.data.toList).1)) ∧ PM w w2 bh bp bf G h (sayL h l.data.toList).2 := by
  have HS0 : Hid (PS W w n k bh bp bf G h) := s
  have HRD : Hid (∀ w1, Upd (fun _ => False) w w1 → _) := fun w1 u => read_any (bh := bh) w1 mx (u.cell hm (fun f => f)) (hmap.upd u (fun f => f)) l
  have HRF : Hid (∀ w1, Upd (fun _ => False) w w1 → _) := fun w1 u => refusal_any w1 (s.tab1 u) 9 (by omega) (by omega)
  rw [errV_no (by omega)] at HRF
  cases hr : readL l.data.toList with
  | none =>
    have HE : Hid (sayL h l.data.toList = (errT 9, h)) := show _ = _ by unfold sayL; rw [hr]
    rw [hr] at HRD
    rw [HE.out]
    clear hr s hm hmap
    go_enter Tryz.func12, Tryz.ntmps12
    go_wp2_with fail
    refine Calls.mono (HRD.out _ ((Upd.refl _ _).alloc _)) ?_
    rintro e w2 ⟨⟨c, a, b, v, rfl⟩, hu2⟩
    have HU2 : Hid (Upd (fun _ => False) w w2) := ((Upd.refl _ _).alloc _).trans hu2 (fun _ _ f => f)
    obtain ⟨y0, y1, y2, z0, z1, z2⟩ := boxN w2
    clear hu2 HRD
    go_wp2_with (go_at_call 35; refine Calls.mono (HRF.out _ (HU2.out.alloc _)) ?_; rintro e w3 ⟨rfl, hu3⟩)
    go_ret
    exact ⟨rfl, ((PM.refl HS0.out.m).more (HU2.out.alloc _)).more hu3⟩
  | some cn =>
    obtain ⟨c, ns⟩ := cn
    obtain ⟨m, hmy⟩ := read_many hr
    have HE : Hid (sayL h l.data.toList = ansL h c (ns.getD 0 0) (ns.getD 1 0) (ns.getD 2 0)) := show _ = _ by unfold sayL; rw [hr]
    rw [hr] at HRD
    rw [HE.out]
    unfold RdP at HRD
    simp only at HRD
    have HOB : Hid (∀ w1, Upd (fun _ => False) w w1 → _) := fun w1 u => obey_any (s.same u) (.map (some bm)) c hmy (ns.getD 0 0) (ns.getD 1 0) (ns.getD 2 0)
    have HRE : Hid (∀ w1 w2, Upd (fun _ => False) w w1 → PM w1 w2 bh bp bf G h (ansL h c (ns.getD 0 0) (ns.getD 1 0) (ns.getD 2 0)).2 → ∀ e : Int, 0 < e → e ≤ 9 → _) := fun w1 w2 u d e h0 h9 => refusal_any w2 (s.tab2 u d) e h0 h9
    clear hr s hm hmap hmy HRF
    generalize ns.getD 0 0 = a at *
    generalize ns.getD 1 0 = b at *
    generalize ns.getD 2 0 = v at *
    generalize ansL h c a b v = r at *
    go_enter Tryz.func12, Tryz.ntmps12
    go_wp2_with fail
    refine Calls.mono (HRD.out _ ((Upd.refl _ _).alloc _)) ?_
    rintro e w2 ⟨rfl, hu2⟩
    have HU2 : Hid (Upd (fun _ => False) w w2) := ((Upd.refl _ _).alloc _).trans hu2 (fun _ _ f => f)
    obtain ⟨y0, y1, y2, z0, z1, z2⟩ := boxN w2
    have q0 : w2.cell? ⟨w.heap.size, 0, none⟩ = some (.pointer (some ⟨bh, 0, none⟩)) := hu2.cell (by rw [World.cell?_alloc_new]; rfl) (fun f => f)
    have q1 : w2.cell? ⟨w.heap.size, 1, none⟩ = some (.map (some bm)) := hu2.cell (by rw [World.cell?_alloc_new]; rfl) (fun f => f)
    have hq := World.block_lt_of_cell? w2 _ q0
    simp only at hq
    clear hu2 HRD
    generalize w.heap.size = q at *
    go_wp2_with fail
    refine Calls.mono (HOB.out _ (HU2.out.alloc _)) ?_
    rintro e w3 ⟨t, e, rfl, ⟨he0, he9⟩, hte, hd3⟩
    have HD3 : Hid (PM w w3 bh bp bf G h r.2) := PM.fore (HU2.out.alloc _) hd3
    by_cases h0 : 0 < e
    · have HRR : Hid _ := HRE.out _ _ (HU2.out.alloc _) hd3 e h0 he9
      rw [if_pos h0] at hte
      have HTE : Hid (errT e = r.1) := hte
      rw [errV_no (by omega)] at HRR ⊢
      clear hte hd3 HRE y0 y1 y2 z0 z1 z2 q0 q1
      go_wp2_with (go_at_call 35; refine Calls.mono HRR.out ?_; rintro e4 w4 ⟨rfl, hu4⟩)
      go_ret
      exact ⟨by rw [← HTE.out]; rfl, HD3.out.more hu4⟩
    · have e0 : e = 0 := by omega
      subst e0
      rw [if_neg h0] at hte
      have HTE : Hid (t = r.1) := hte
      rw [errV_zero]
      clear hte hd3 HRE y0 y1 y2 z0 z1 z2 q0 q1
      go_wp2_with fail
      go_ret
      exact ⟨by rw [← HTE.out]; rfl, HD3.out⟩
end Go.Proofs.YtadpibcgjgcjhabGreatDoor
/- The console's Run. -/
namespace Go.Proofs.YtadpibcgjgcjhabGreatDoor
open Go.ChangeShapes Go.WideShapes Go.ChangeAt Go.RowKit Go.WideMaps Go.Maps
set_option maxRecDepth 100000
attribute [local go_sem ↓] Go.wp_at_zero Go.wp_at_succ
variable {W w w1 w2 w3 w' : World} {bh bp bf bm : Nat} {G G' : Nat → G3} {h h2 : Hs} {n k : Nat}

theorem runL_snoc : ∀ (l : List (List UInt8)) (h : Hs) (x : List UInt8), runL h (l ++ [x]) = ((runL h l).1 ++ [(sayL (runL h l).2 x).1], (sayL (runL h l).2 x).2)
  | [], h, x => rfl
  | y :: r, h, x => by
    have := runL_snoc r (sayL h y).2 x
    simp only [List.cons_append, runL, this]
theorem runL_length : ∀ (l : List (List UInt8)) (h : Hs), (runL h l).1.length = l.length
  | [], _ => rfl
  | y :: r, h => by simp only [runL, List.length_cons, runL_length r]
/-- The lines that are told. -/
def lns (ls : List ByteArray) : List (List UInt8) := ls.map (·.data.toList)
theorem take_lns {ls : List ByteArray} {k : Nat} (hk : k < ls.length) : lns (ls.take (k + 1)) = lns (ls.take k) ++ [(ls.getD k ByteArray.empty).data.toList] := by
  unfold lns
  rw [List.take_add_one, List.getElem?_eq_getElem hk, List.map_append, List.getD_eq_getElem?_getD, List.getElem?_eq_getElem hk]
  rfl
theorem run_bad1 (w : World) (n : Int) (hn : n < 1 ∨ 64 < n) (a : Option Addr) (len cap : Nat) : Calls Tryz.prog 5 #[.int .i64 n, .slice a len cap] w fun e w' => e = .returned (.tuple #[.slice none 0 0, .iface 37 (.int .i64 1)]) ∧ Upd (fun _ => False) w w' := by
  have HN : Hid _ := fun w => hNew_no w n hn
  clear hn
  go_enter Tryz.func5, Tryz.ntmps5
  go_wp2_with (go_at_call 10; refine Calls.mono (HN.out _) ?_; rintro e w2 ⟨rfl, hu2⟩)
  go_ret2
  exact ⟨rfl, hu2⟩
theorem run_bad2 (w : World) (n : Nat) (h1 : 1 ≤ n) (h2 : n ≤ 64) (a : Option Addr) (len cap : Nat) (hl : 120 < len) : Calls Tryz.prog 5 #[.int .i64 (n : Int), .slice a len cap] w fun e w' => e = .returned (.tuple #[.slice none 0 0, .iface 37 (.int .i64 1)]) ∧ Upd (fun _ => False) w w' := by
  have HN : Hid _ := fun w => hNew_yes w n h1 h2
  have t : decide (120 < (len : Int)) = true := by simp; omega
  go_enter Tryz.func5, Tryz.ntmps5
  go_wp2_with (go_at_call 10; refine Calls.mono (HN.out _) ?_; rintro e w2 ⟨bh, bp, bf, rfl, hm2, z1, z2, z3, hu2⟩)
  go_ret2
  exact ⟨rfl, hu2⟩
/-- Where a session stands behind k lines. -/
structure RunI (W w : World) (n k bh bp bf bm q : Nat) (v : Value) (ls : List ByteArray) : Prop where
  ex : ∃ G, PS W w n k bh bp bf G (runL (hs0 n) (lns (ls.take k))).2 ∧ (∀ j, Own bh bp bf G (runL (hs0 n) (lns (ls.take k))).2 j → j ≠ bm ∧ j ≠ q ∧ v.ownBlock ≠ some j)
  map : MapAt w bm manyL
  b0 : w.cell? ⟨q, 0, none⟩ = some (.pointer (some ⟨bh, 0, none⟩))
  b1 : w.cell? ⟨q, 1, none⟩ = some (.map (some bm))
  sl : SlS w W.heap.size v (txs (runL (hs0 n) (lns (ls.take k))).1)
  nm : v.ownBlock ≠ some bm ∧ v.ownBlock ≠ some q
theorem make_zero (w : World) (base n : Nat) (hb : base ≤ w.heap.size) (hn : n ≤ 1000) : ∃ w', (Instr.makeSlice 22 (.int .i64 0) (.int .i64 (n : Int))).run Tryz.prog w = .ok (.slice (some ⟨w.heap.size, 0, none⟩) 0 n) w' ∧ w'.ownsRow base 9 1 (.slice (some ⟨w.heap.size, 0, none⟩) 0 n) 0 [] ∧ w.heap.size < w'.heap.size ∧ Upd (fun _ => False) w w' := by
  obtain ⟨i, hi, he⟩ := Option.map_eq_some_iff.1 infoStr
  simp only [Prod.mk.injEq] at he
  obtain ⟨he1, he2, he3⟩ := he
  obtain ⟨w', hr, ho, hg⟩ := run_makeSlice_owned (P := Tryz.prog) w base 22 9 i (.string ByteArray.empty) 1 Tryz.underlying22 hi he3 he1 .i64 .i64 n (by omega) (by rw [he2]; omega) (by unfold maxLen; omega) hb
  refine ⟨w', hr, ho, ?_, ⟨hg.os, hg.tape, hg.output, hg.size, fun k hk _ => hg.block k hk (by simp)⟩⟩
  exact (World.ownsRow.lt ho _ rfl).2
theorem RunI.next {bm q : Nat} {v : Value} {ls : List ByteArray} {w6 w7 : World} {g2 cap2 : Nat} {o : Obj} (I : RunI W w n k bh bp bf bm q v ls) (hlt : k < ls.length) (hl : ls.length ≤ 120)
    (ps : PS W w n k bh bp bf G (runL (hs0 n) (lns (ls.take k))).2) (sep : ∀ j, Own bh bp bf G (runL (hs0 n) (lns (ls.take k))).2 j → j ≠ bm ∧ j ≠ q ∧ v.ownBlock ≠ some j)
    (hd : PM w w6 bh bp bf G (runL (hs0 n) (lns (ls.take k))).2 (sayL (runL (hs0 n) (lns (ls.take k))).2 (ls.getD k ByteArray.empty).data.toList).2)
    (hown : w7.ownsRow W.heap.size 9 1 (.slice (some ⟨g2, 0, none⟩) ((txs (runL (hs0 n) (lns (ls.take k))).1).length + 1) cap2) ((txs (runL (hs0 n) (lns (ls.take k))).1).length + 1) (txC (txs (runL (hs0 n) (lns (ls.take k))).1) ++ [.string (TX (sayL (runL (hs0 n) (lns (ls.take k))).2 (ls.getD k ByteArray.empty).data.toList).1)]))
    (hgrow : (w6.alloc o).grownBy w7 v.ownBlock) (hat : v.ownBlock = some g2 ∨ g2 = w6.heap.size + 1) :
    RunI W w7 n (k + 1) bh bp bf bm q (.slice (some ⟨g2, 0, none⟩) ((txs (runL (hs0 n) (lns (ls.take k))).1).length + 1) cap2) ls := by
  have hR : runL (hs0 n) (lns (ls.take (k + 1))) = ((runL (hs0 n) (lns (ls.take k))).1 ++ [(sayL (runL (hs0 n) (lns (ls.take k))).2 (ls.getD k ByteArray.empty).data.toList).1], (sayL (runL (hs0 n) (lns (ls.take k))).2 (ls.getD k ByteArray.empty).data.toList).2) := by
    rw [take_lns hlt, runL_snoc]
  have u7 : Upd (fun j => v.ownBlock = some j) w6 w7 := ⟨hgrow.os, hgrow.tape, hgrow.output, by have := hgrow.size; simp only [World.size_alloc] at this; omega, fun j hj hn => by
    rw [hgrow.block j (by simp only [World.size_alloc]; omega) (fun e => hn e.symm), Below.heap_alloc _ _ _ hj]⟩
  have hvl : ∀ j, v.ownBlock = some j → W.heap.size ≤ j ∧ j < w.heap.size := fun j hj => World.ownsRow.lt I.sl j hj
  have hs6 := hd.up.size
  have hWs := ps.up.size
  obtain ⟨G', m6, hj6⟩ := hd.ex
  have hbm := I.map.lt
  have hq := World.block_lt_of_cell? w _ I.b0
  simp only at hq
  have nv : ∀ j, Own bh bp bf G' (sayL (runL (hs0 n) (lns (ls.take k))).2 (ls.getD k ByteArray.empty).data.toList).2 j → ¬ v.ownBlock = some j := fun j hj e => by
    rcases hj6 j hj with h | h
    · exact (sep j h).2.2 e
    · have := hvl j e; omega
  refine ⟨⟨G', ?_, ?_⟩, (I.map.upd hd.up (fun e => (sep _ e).1 rfl)).upd u7 I.nm.1, u7.cell (hd.up.cell I.b0 (fun e => (sep _ e).2.1 rfl)) I.nm.2, u7.cell (hd.up.cell I.b1 (fun e => (sep _ e).2.1 rfl)) I.nm.2, ?_, ?_⟩
  · rw [hR]
    exact ⟨m6.upd u7 nv, ps.ok.say _, by omega, fun j hj => by
      rcases hj6 j hj with h | h
      · exact ps.new j h
      · omega, (ps.up2 hd).trans u7 (fun i hi e => by have := (hvl i e).1; omega), ps.tab⟩
  · rw [hR]
    intro j hj
    have hjl := m6.ownLt hj
    refine ⟨fun e => ?_, fun e => ?_, fun e => ?_⟩
    · rcases hj6 j hj with h | h
      · exact (sep j h).1 e
      · omega
    · rcases hj6 j hj with h | h
      · exact (sep j h).2.1 e
      · omega
    · simp only [Value.ownBlock, Option.some.injEq] at e
      rcases hat with h | h
      · exact nv j hj (by rw [h, e])
      · omega
  · rw [hR]
    unfold SlS
    simp only [txs, List.map_append, List.map_cons, List.map_nil, List.length_append, List.length_cons, List.length_nil, txC] at hown ⊢
    exact hown
  · constructor
    · intro e
      simp only [Value.ownBlock, Option.some.injEq] at e
      rcases hat with h | h
      · exact I.nm.1 (by rw [h, e])
      · omega
    · intro e
      simp only [Value.ownBlock, Option.some.injEq] at e
      rcases hat with h | h
      · exact I.nm.2 (by rw [h, e])
      · omega
set_option maxHeartbeats 1000000 in
theorem run_yes (w : World) (mx : Int) (hm : w.cell? ⟨0, 0, none⟩ = some (.int .i64 mx)) (ht : Tab w) (n : Nat) (h1 : 1 ≤ n) (h2 : n ≤ 64) (a : Option Addr) (cap : Nat) (ls : List ByteArray) (hls : TxAt w a ls) (hl : ls.length ≤ 120) : Calls Tryz.prog 5 #[.int .i64 (n : Int), .slice a ls.length cap] w fun e w' => ∃ v, e = .returned (.tuple #[v, .nilIface]) ∧ SlS w' w.heap.size v (txs (runL (hs0 n) (lns ls)).1) ∧ Upd (fun _ => False) w w' := by
  have HN : Hid _ := fun w => hNew_yes w n h1 h2
  have HC : Hid _ := commands_any
  have HT : Hid (Tab w) := ht
  have HMX : Hid (w.cell? ⟨0, 0, none⟩ = some (.int .i64 mx)) := hm
  have HL : Hid (TxAt w a ls) := hls
  have t : decide (120 < (ls.length : Int)) = false := by simp; omega
  clear ht hm hls
  go_enter Tryz.func5, Tryz.ntmps5
  go_wp2_with fail
  refine Calls.mono (HN.out _) ?_
  rintro e w2 ⟨bh, bp, bf, rfl, hm2, z1, z2, z3, hu2⟩
  have HM2 : Hid (∀ G, HM w2 bh bp bf G (hs0 n)) := hm2
  have HU2 : Hid _ := hu2
  have HZ : Hid (w.heap.size ≤ bh ∧ w.heap.size ≤ bp ∧ w.heap.size ≤ bf) := ⟨z1, z2, z3⟩
  clear hm2 hu2 z1 z2 z3 HN
  go_wp2_with fail
  refine Calls.mono (HC.out _) ?_
  rintro e w3 ⟨rfl, hmap, hu3⟩
  have HMP : Hid _ := hmap
  have HU3 : Hid _ := hu3
  have HU4 : Hid (Upd (fun _ => False) w (w3.alloc (.cells #[.pointer (some ⟨bh, 0, none⟩), .map (some w2.heap.size)] 41))) := (HU2.out.trans hu3 (fun _ _ f => f)).alloc _
  obtain ⟨w5, hmk, ho5, hl5, hu5⟩ := make_zero (w3.alloc (.cells #[.pointer (some ⟨bh, 0, none⟩), .map (some w2.heap.size)] 41)) w.heap.size ls.length HU4.out.size (by omega)
  have hb0 : (w3.alloc (.cells #[.pointer (some ⟨bh, 0, none⟩), .map (some w2.heap.size)] 41)).cell? ⟨w3.heap.size, 0, none⟩ = some (.pointer (some ⟨bh, 0, none⟩)) := by rw [World.cell?_alloc_new]; rfl
  have hb1 : (w3.alloc (.cells #[.pointer (some ⟨bh, 0, none⟩), .map (some w2.heap.size)] 41)).cell? ⟨w3.heap.size, 1, none⟩ = some (.map (some w2.heap.size)) := by rw [World.cell?_alloc_new]; rfl
  have hsz : (w3.alloc (.cells #[.pointer (some ⟨bh, 0, none⟩), .map (some w2.heap.size)] 41)).heap.size = w3.heap.size + 1 := by simp
  have hm3 := hmap.lt
  have H0 : Hid (RunI w w5 n 0 bh bp bf w2.heap.size w3.heap.size (.slice (some ⟨w3.heap.size + 1, 0, none⟩) 0 ls.length) ls) := show RunI _ _ _ _ _ _ _ _ _ _ _ by
    rw [hsz] at ho5
    have u25 : Upd (fun _ => False) w2 w5 := (hu3.trans ((Upd.refl (fun _ => False) _).alloc _) (fun _ _ f => f)).trans hu5 (fun _ _ f => f)
    have m2 := HM2.out (fun _ => ⟨0, 0, 0⟩)
    have hlt := m2.lt
    refine ⟨⟨fun _ => ⟨0, 0, 0⟩, ⟨m2.same u25, HOk.start n, by omega, fun j hj => ?_, HU4.out.trans hu5 (fun _ _ f => f), HT.out⟩, fun j hj => ?_⟩, (hmap.upd ((Upd.refl (fun _ => False) _).alloc _) (fun f => f)).upd hu5 (fun f => f), hu5.cell hb0 (fun f => f), hu5.cell hb1 (fun f => f), ho5, ?_⟩
    · have := HZ.out
      rcases hj with e | e | e | ⟨i, x, hx, _⟩
      · omega
      · omega
      · omega
      · cases hx
    · have hj2 : j < w2.heap.size := by
        rcases hj with e | e | e | ⟨i, x, hx, _⟩
        · omega
        · omega
        · omega
        · cases hx
      refine ⟨by omega, by omega, fun e => ?_⟩
      simp only [Value.ownBlock, Option.some.injEq] at e
      omega
    · constructor
      · intro e
        simp only [Value.ownBlock, Option.some.injEq] at e
        omega
      · intro e
        simp only [Value.ownBlock, Option.some.injEq] at e
        omega
  rw [hsz] at hmk
  clear hmap hu3 HC hb0 hb1 hm3 ho5 hl5 hu5 hsz HM2 HU2 HZ HMP HU3 HU4
  go_wp2_with fail
  clear hmk
  generalize w2.heap.size = bm at *
  generalize w3.heap.size = q at *
  go_loopg [9, 32] ls.length (fun gk av iv wr => ∃ k : Nat, k + gk = ls.length ∧ iv = .int .i64 (k : Int) ∧ Hid (RunI w wr n k bh bp bf bm q av ls))
  case atStart => exact ⟨0, by omega, by rfl, H0.out⟩
  case round =>
    clear H0
    obtain ⟨k, hk, rfl, HI⟩ := hrel
    have HK : Hid _ := hk
    clear hk
    obtain ⟨G, ps, sep⟩ := HI.out.ex
    have HPS : Hid _ := ps
    have HSE : Hid _ := sep
    clear ps sep
    by_cases hlt : k < ls.length
    · obtain ⟨g, o, rfl, hg, hc⟩ := HL.out k hlt
      have hcr := HPS.out.up.cell hc (fun f => f)
      have b0 := HI.out.b0
      have b1 := HI.out.b1
      obtain ⟨line, hline⟩ : ∃ line, ls.getD k ByteArray.empty = line := ⟨_, rfl⟩
      rw [hline] at hcr
      have HAN : Hid _ := answer_any HPS.out mx (HPS.out.up.cell HMX.out (fun f => f)) HI.out.map line
      have HLI : Hid (ls.getD k ByteArray.empty = line) := hline
      clear hc hline
      go_wp2_with fail
      refine Calls.mono HAN.out ?_
      rintro e w6 ⟨rfl, hd6⟩
      have HD6 : Hid _ := hd6
      have HS6 : Hid (SlS w6 w.heap.size u9 (txs (runL (hs0 n) (lns (ls.take k))).1)) := SlS.upd HI.out.sl hd6.up (fun j hj e => (HSE.out j e).2.2 hj)
      have hu6 := HPS.out.up2 hd6
      clear hd6 HAN b0 b1 hcr
      obtain ⟨i, hi, he⟩ := Option.map_eq_some_iff.1 infoStr
      simp only [Prod.mk.injEq] at he
      obtain ⟨he1, he2, he3⟩ := he
      have HE1 : Hid _ := he1
      have HE2 : Hid _ := he2
      have HE3 : Hid _ := he3
      have HII : Hid _ := hi
      obtain ⟨x, hx⟩ : ∃ x, TX (sayL (runL (hs0 n) (lns (ls.take k))).2 line.data.toList).1 = x := ⟨_, rfl⟩
      have HX : Hid (TX (sayL (runL (hs0 n) (lns (ls.take k))).2 line.data.toList).1 = x) := hx
      rw [hx]
      have HN : Hid (∀ j u, ([.string x] : List Value)[j]? = some u → (w6.alloc (.cells #[.string x] 9)).cell? ((⟨w6.heap.size, 0, none⟩ : Addr).add j) = some u) := by
        show ∀ j u, _
        intro j u hj
        rw [Addr.add_mid, Nat.zero_add, World.cell?_alloc_new, ← hj]
        simp
      have HO : Hid _ := World.ownsRow.alloc HS6.out (.cells #[.string x] 9)
      have HB : Hid (w.heap.size ≤ (w6.alloc (.cells #[.string x] 9)).heap.size) := show _ ≤ _ by have := hu6.size; simp only [World.size_alloc]; omega
      have H1 : Hid (∀ u ∈ ([.string x] : List Value), u.oneCell' = true) := show ∀ u ∈ ([.string x] : List Value), _ from fun u hu' => by simp at hu'; subst hu'; rfl
      have hdl : (txs (runL (hs0 n) (lns (ls.take k))).1).length ≤ k := by
        rw [txs_length, runL_length]
        unfold lns
        rw [List.length_map, List.length_take]
        omega
      have HAC : Hid (∃ acc, acc = txs (runL (hs0 n) (lns (ls.take k))).1) := ⟨_, rfl⟩
      clear he1 he2 he3 hi hx hu6
      have HNX : Hid (∀ w7 g2 cap2, _ → _ → _ → _) := fun w7 g2 cap2 ho hgr hat => HI.out.next (w7 := w7) (g2 := g2) (cap2 := cap2) (o := .cells #[.string x] 9) hlt hl HPS.out HSE.out (by rw [HLI.out]; exact HD6.out) (by rw [HLI.out, HX.out]; exact ho) hgr hat
      generalize txs (runL (hs0 n) (lns (ls.take k))).1 = acc at *
      go_wp2_with (at_builtin; refine wpList_append_lies _ (by rfl) _ _ 22 (by rfl) w.heap.size 9 i (.string ByteArray.empty) 1 16 Tryz.underlying22 HII.out HE3.out HE1.out HE2.out (by rfl) (by omega) u9 acc.length (txC acc) (by rfl) HO.out ⟨w6.heap.size, 0, none⟩ 1 1 ([.string x]) (by rfl) (by rfl) HN.out H1.out (by omega) (by unfold maxLen; omega) (by omega) HB.out (w6.heap.size + 1) (by simp) ?_; intro g2 cap2 w7 hown hgrow hat hlt2)
      have HR : Hid _ := HNX.out w7 g2 cap2 hown hgrow hat
      clear hown hgrow hat hlt2 HNX
      go_roundg (ls.length - (k + 1))
      case rel => exact ⟨k + 1, by omega, by go_num, HR.out⟩
      case measure => have := HK.out; omega
    · have hke : k = ls.length := by have := HK.out; omega
      have HSL : Hid (SlS wr w.heap.size u9 (txs (runL (hs0 n) (lns ls)).1)) := by
        have := HI.out.sl
        rw [hke, List.take_length] at this
        exact this
      have HUU : Hid _ := HPS.out.up
      go_wp2_with fail
      go_ret2
      exact ⟨_, rfl, HSL.out, HUU.out⟩
end Go.Proofs.YtadpibcgjgcjhabGreatDoor
/- The law's hello. -/
namespace Go.Proofs.YtadpibcgjgcjhabGreatDoor
open Go.ChangeShapes Go.WideShapes Go.ChangeAt Go.RowKit
set_option maxRecDepth 100000
attribute [local go_sem ↓] Go.wp_at_zero Go.wp_at_succ
theorem txAt_new (w : World) (l : List ByteArray) (t : Nat) : TxAt (w.alloc (.cells (txC l).toArray t)) (some ⟨w.heap.size, 0, none⟩) l := fun i hi => by
  refine ⟨_, _, rfl, by simp, ?_⟩
  rw [Nat.zero_add, World.cell?_alloc_new]
  simp [txC, List.getElem?_map, List.getElem?_eq_getElem hi, List.getD_eq_getElem?_getD]
def heA : List ByteArray := [⟨#[97, 100, 100]⟩, ⟨#[112, 108, 117, 103, 32, 48, 32, 48]⟩, ⟨#[115, 116, 111, 114, 101, 32, 48, 32, 53, 32, 57]⟩, ⟨#[108, 111, 97, 100, 32, 48, 32, 53]⟩, ⟨#[112, 97, 103, 101, 32, 48, 32, 48]⟩, ⟨#[102, 108, 121]⟩]
def heB : List ByteArray := [⟨#[48]⟩, ⟨#[111, 107]⟩, ⟨#[111, 107]⟩, ⟨#[57]⟩, ⟨#[49, 32, 111, 119, 110, 32, 49]⟩, ⟨#[101, 114, 114, 111, 114, 32, 57]⟩]
theorem he_run : txs (runL (hs0 8) (lns heA)).1 = heB := by
  have : lns heA = [[97, 100, 100], [112, 108, 117, 103, 32, 48, 32, 48], [115, 116, 111, 114, 101, 32, 48, 32, 53, 32, 57], [108, 111, 97, 100, 32, 48, 32, 53], [112, 97, 103, 101, 32, 48, 32, 48], [102, 108, 121]] := rfl
  rw [this, hello_run]
  rfl
theorem hello_any (w : World) (mx : Int) (hm : w.cell? ⟨0, 0, none⟩ = some (.int .i64 mx)) (ht : Tab w) : Calls Tryz.prog 4 #[] w fun e w' => e = .returned (.bool true) ∧ Upd (fun _ => False) w w' := by
  have ua : Upd (fun _ => False) w (w.alloc (.cells (txC heA).toArray 9)) := (Upd.refl _ _).alloc _
  have HR : Hid (Calls Tryz.prog 5 #[.int .i64 8, .slice (some ⟨w.heap.size, 0, none⟩) 6 6] (w.alloc (.cells (txC heA).toArray 9)) fun e w' => ∃ a cap, e = .returned (.tuple #[.slice a 6 cap, .nilIface]) ∧ TxAt w' a heB ∧ Upd (fun _ => False) w w') :=
    (run_yes _ mx (ua.cell hm (fun f => f)) (ht.upd ua) 8 (by omega) (by omega) _ 6 heA (txAt_new w heA _) (by decide)).mono (by
      rintro e w' ⟨v, rfl, hs, hu⟩
      rw [he_run] at hs
      obtain ⟨a, cap, rfl, hx, _⟩ := hs.txAt
      exact ⟨a, cap, rfl, hx, ua.trans hu (fun _ _ f => f)⟩)
  clear hm ht ua
  go_enter Tryz.func4, Tryz.ntmps4
  go_wp2_with fail
  refine Calls.mono HR.out ?_
  rintro e w2 ⟨a, cap, rfl, hx, hu⟩
  have HX : Hid _ := hx
  have HU : Hid _ := hu
  have HS : Hid (∀ w3, Upd (fun _ => False) w2 w3 → Calls Tryz.prog 9 #[.slice a 6 cap, .slice (some ⟨w3.heap.size, 0, none⟩) 6 6] (w3.alloc (.cells (txC heB).toArray 9)) fun e w' => e = .returned (.bool true) ∧ Upd (fun _ => False) w w') := fun w3 u3 =>
    (sameTexts_any _ _ _ _ _ heB (hx.upd (u3.alloc _) (fun _ _ _ f => f)) (txAt_new w3 heB _) (by decide)).mono (by
      rintro e w' ⟨rfl, hu'⟩
      exact ⟨rfl, (hu.trans (u3.alloc _) (fun _ _ f => f)).trans hu' (fun _ _ f => f)⟩)
  clear hx hu HR
  go_wp2_with (first
    | (go_at_call 6; refine Calls.mono (same0 _) ?_; rintro e w3 ⟨rfl, rfl⟩)
    | (go_at_call 9; refine Calls.mono (HS.out _ (by repeat (first | exact Upd.refl _ _ | apply Upd.drew | apply Upd.alloc))) ?_; rintro e w4 ⟨rfl, hu4⟩))
  go_ret
  exact ⟨rfl, hu4⟩
end Go.Proofs.YtadpibcgjgcjhabGreatDoor
/- Appending any list of texts. -/
namespace Go.Proofs.YtadpibcgjgcjhabGreatDoor
open Go.ChangeShapes Go.WideShapes Go.ChangeAt Go.RowKit
set_option maxRecDepth 100000
theorem append_none (w : World) (base : Nat) (v : Value) (l : List ByteArray) (ty c : Nat) (hown : SlS w base v l) : (Builtin.append_ #[22, 22] ty #[v, .slice none 0 c]).run Tryz.prog w = .ok v w := by
  obtain ⟨i, hi, _⟩ := Option.map_eq_some_iff.1 infoStr
  rcases hown.2 with ⟨rfl, h0⟩ | ⟨g, cap, cur, rfl, _, _, hnc, _⟩
  · simp [Builtin.append_, run_underlying Tryz.underlying22, sizeOf, typeInfo, hi, Builtin.lenOf, Builtin.firstCells]
  · simp [Builtin.append_, run_underlying Tryz.underlying22, sizeOf, typeInfo, hi, Builtin.lenOf, Builtin.firstCells, hnc, storeCells]
theorem append_texts (w : World) (base : Nat) (v : Value) (l : List ByteArray) (ty : Nat) (hown : SlS w base v l) (ad : Option Addr) (c : Nat) (ns : List ByteArray) (hns : TxAt w ad ns) (hl : l.length + ns.length ≤ 1000) (hb : base ≤ w.heap.size) :
    ∃ v' w', (Builtin.append_ #[22, 22] ty #[v, .slice ad ns.length c]).run Tryz.prog w = .ok v' w' ∧ SlS w' base v' (l ++ ns) ∧ w.grownBy w' v.ownBlock ∧ (v'.ownBlock = v.ownBlock ∨ v'.ownBlock = some w.heap.size) := by
  cases ad with
  | none =>
    have : ns = [] := by
      rcases ns with _ | ⟨x, r⟩
      · rfl
      · obtain ⟨g, o, e, _⟩ := hns 0 (by simp)
        cases e
    subst this
    refine ⟨v, w, append_none w base v l ty c hown, by rw [List.append_nil]; exact hown, World.grownBy.refl _ _, Or.inl rfl⟩
  | some ad =>
    obtain ⟨i, hi, he⟩ := Option.map_eq_some_iff.1 infoStr
    simp only [Prod.mk.injEq] at he
    obtain ⟨he1, he2, he3⟩ := he
    obtain ⟨v', w', hr, h2, h3, _, h5⟩ := run_append_own_at (P := Tryz.prog) w base 22 ty 9 i (.string ByteArray.empty) 1 16 Tryz.underlying22 hi he3 he1 he2 rfl (by omega) v l.length (txC l) hown ad ns.length c (txC ns) (by rw [txC_length]; omega) (fun j u hj => by
      have hjl : j < ns.length := by rw [← txC_length ns]; exact (List.getElem?_eq_some_iff.1 hj).1
      obtain ⟨g, o, e, _, hc⟩ := hns j hjl
      cases e
      rw [Addr.add_mid, hc, ← hj]
      simp [txC, List.getElem?_map, List.getElem?_eq_getElem hjl, List.getD_eq_getElem?_getD]) (fun u hu => by
      simp only [txC, List.mem_map] at hu
      obtain ⟨x, _, rfl⟩ := hu
      rfl) (by unfold maxLen; omega) (by omega) hb
    refine ⟨v', w', hr, ?_, h3, h5⟩
    unfold SlS
    rw [List.length_append]
    simp only [txC, List.map_append] at h2 ⊢
    exact h2
theorem wpList_append_texts {ops : Array Oper} {rest : List Oper} {o : Oper} {a : Act} {w : World} {Q : Exit → Act → World → Prop} (hgd : o.guard = none) (s x : Operand)
    (ho : o.op = .call { callee := .builtin .append, args := #[s, x], argTypes := #[22, 22] }) (base : Nat) (v : Value) (l : List ByteArray) (hs : a.eval s = v) (hown : SlS w base v l) (ad : Option Addr) (c : Nat) (ns : List ByteArray) (hx : a.eval x = .slice ad ns.length c) (hns : TxAt w ad ns) (hl : l.length + ns.length ≤ 1000) (hb : base ≤ w.heap.size)
    (h : ∀ v' w', SlS w' base v' (l ++ ns) → w.grownBy w' v.ownBlock → (v'.ownBlock = v.ownBlock ∨ v'.ownBlock = some w.heap.size) → wpList Tryz.prog ops Q rest (a.put o.dst v') w') : wpList Tryz.prog ops Q (o :: rest) a w := by
  refine wpList_plain hgd fun K hK => ?_
  obtain ⟨v', w', hr, h2, h3, h4⟩ := append_texts w base v l o.type hown ad c ns hns hl hb
  unfold Oper.wp execOp
  simp only [ho, resolve, invoke, builtin, Sem.run_bind, Sem.run_pure, Result.andThen_ok, List.map_toArray, List.map_cons, List.map_nil, hs, hx, hr]
  exact hK _ _ (h v' w' h2 h3 h4)
theorem TxAt.pre {w : World} {a : Option Addr} {l r : List ByteArray} (h : TxAt w a (l ++ r)) : TxAt w a l := fun i hi => by
  obtain ⟨g, o, e, hg, hc⟩ := h i (by rw [List.length_append]; omega)
  refine ⟨g, o, e, hg, ?_⟩
  rw [hc, List.getD_eq_getElem?_getD, List.getD_eq_getElem?_getD, List.getElem?_append_left hi]
theorem upd_grown {w w' : World} {b : Option Nat} (h : w.grownBy w' b) : Upd (fun j => b = some j) w w' := ⟨h.os, h.tape, h.output, h.size, fun k hk hn => h.block k hk (fun e => hn e.symm)⟩
end Go.Proofs.YtadpibcgjgcjhabGreatDoor
