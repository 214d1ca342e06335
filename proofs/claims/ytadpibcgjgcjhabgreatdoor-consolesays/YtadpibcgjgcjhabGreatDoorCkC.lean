/- Package cache: what the library's DeleteFunc answers and turns over a cache's places; remove. -/
import Derived.Test.YtadpibcgjgcjhabGreatDoorCkB
namespace Go.Proofs.YtadpibcgjgcjhabGreatDoor
open Go.ChangeShapes Go.WideShapes Go.ChangeAt Go.RowKit
set_option maxRecDepth 100000
attribute [local go_sem ↓] Go.wp_at_zero Go.wp_at_succ

/-- Of the first j those of which p does not hold. -/
def fltTo (p : En → Bool) (es : List En) (j : Nat) : List En := (es.take j).filter fun e => !p e
def flt (p : En → Bool) (es : List En) : List En := es.filter fun e => !p e
theorem take_succ_atE (es : List En) (j : Nat) (h : j < es.length) : es.take (j + 1) = es.take j ++ [atE es j] := by
  rw [List.take_add_one, List.getElem?_eq_getElem h]
  simp [atE, List.getD_eq_getElem?_getD, h]
theorem fltTo_succ (p : En → Bool) (es : List En) (j : Nat) (h : j < es.length) : fltTo p es (j + 1) = fltTo p es j ++ if p (atE es j) then [] else [atE es j] := by
  unfold fltTo
  rw [take_succ_atE es j h, List.filter_append]
  cases hp : p (atE es j) <;> simp [hp]
theorem fltTo_all (p : En → Bool) (es : List En) : fltTo p es es.length = flt p es := by simp [fltTo, flt]
theorem flt_length (p : En → Bool) (es : List En) : (flt p es).length ≤ es.length := List.length_filter_le _ _
theorem fltTo_keep (p : En → Bool) (es : List En) : ∀ k, k ≤ es.length → (∀ i, i < k → p (atE es i) = false) → fltTo p es k = (List.range k).map (atE es)
  | 0, _, _ => by simp [fltTo]
  | k + 1, h, hb => by
    rw [fltTo_succ p es k (by omega), fltTo_keep p es k (by omega) (fun i hi => hb i (by omega)), hb k (by omega), List.range_succ]
    simp
theorem range_set (c : Nat → En) (i : Nat) (x : En) : (List.range (i + 1)).map (setAt c i x) = (List.range i).map c ++ [x] := by
  rw [List.range_succ, List.map_append]
  congr 1
  · apply List.map_congr_left
    intro t ht
    rw [setAt_other _ _ _ _ (by have := List.mem_range.1 ht; omega)]
  · simp [setAt]
theorem of_range {c : Nat → En} {n : Nat} {es : List En} (h : (List.range n).map c = es) : es.length = n ∧ ∀ i, i < n → c i = atE es i := by
  subst h
  refine ⟨by simp, fun i hi => ?_⟩
  simp [atE, List.getD_eq_getElem?_getD, hi]
theorem zeroCells_get (m t : Nat) (h : t < m * 7) : (Builtin.zeroCells zeroEn m).toList[t]? = (enCells en0)[t % 7]? := by
  have hz : zeroEn.size = 7 := rfl
  have h2 : t % 7 < 7 := by omega
  unfold Builtin.zeroCells
  rw [hz]
  simp only [Array.toList_map, Array.toList_range, List.getElem?_map, List.getElem?_range h, Option.map_some]
  generalize t % 7 = r at h2
  rcases r with _ | _ | _ | _ | _ | _ | _ | r
  all_goals first | rfl | omega
theorem zeroCells_length (m : Nat) : (Builtin.zeroCells zeroEn m).toList.length = m * 7 := by
  have hz : zeroEn.size = 7 := rfl
  simp [Builtin.zeroCells, hz]
theorem clear_entries (w : World) (b i n : Nat) (cur : Nat → En) (h : CaAt w b cur n) (hi : i < n) (c : Nat) (ty : TypeId) :
    (Builtin.clear_ #[96] ty #[.slice (some ⟨b, i * 7, none⟩) (n - i) c]).run Tryz.prog w = .ok (.tuple #[]) (w.setCells b (i * 7) (Builtin.zeroCells zeroEn (n - i)).toList) := by
  have hl := h.le
  have hst := run_storeCells_cells (P := Tryz.prog) b (i * 7) (Builtin.zeroCells zeroEn (n - i)).toList 0 w
    (fun j hj => by rw [zeroCells_length] at hj; exact (h.there _ (by omega)).1) (fun j hj => by rw [zeroCells_length] at hj; exact (h.there _ (by omega)).2)
    (fun v hv => by
      obtain ⟨t, ht, rfl⟩ := List.getElem_of_mem hv
      have ht' := ht
      rw [zeroCells_length] at ht'
      have := zeroCells_get (n - i) t ht'
      rw [List.getElem?_eq_getElem ht] at this
      exact enAll_one [en0] _ (by simpa [enAll] using List.mem_of_getElem? this.symm))
  simp only [Nat.add_zero] at hst
  obtain ⟨m, hm⟩ : ∃ m, n - i = m + 1 := ⟨n - i - 1, by omega⟩
  rw [hm] at hst ⊢
  simp [Builtin.clear_, run_underlying Tryz.underlying96]
  change ((Sem.run Tryz.prog (storeCells ⟨b, i * 7, none⟩ (Builtin.zeroCells zeroEn (m + 1)).toList) w).andThen _) = _
  rw [hst]
  rfl
theorem CaAt.cleared {w : World} {b i n : Nat} {cur : Nat → En} (h : CaAt w b cur n) (hi : i < n) : CaAt (w.setCells b (i * 7) (Builtin.zeroCells zeroEn (n - i)).toList) b (fun t => if i ≤ t ∧ t < n then en0 else cur t) n where
  cells := fun k j hk hj => by
    have hl := h.le
    by_cases e : i ≤ k ∧ k < n
    · rw [if_pos e]
      have hlt : (k - i) * 7 + j < (n - i) * 7 := by have : k - i + 1 ≤ n - i := by omega
                                                     omega
      have hg := zeroCells_get (n - i) ((k - i) * 7 + j) hlt
      rw [show ((k - i) * 7 + j) % 7 = j by omega] at hg
      obtain ⟨v, hv⟩ := enCells_some en0 j hj
      have := World.rangeAt_setCells_same w b (i * 7) (Builtin.zeroCells zeroEn (n - i)).toList (fun o ho => h.there _ (by rw [zeroCells_length] at ho; omega)) ((k - i) * 7 + j) v (hg.trans hv)
      rw [show i * 7 + ((k - i) * 7 + j) = k * 7 + j by omega] at this
      rw [this, hv]
    · rw [if_neg e, World.cell?_setCells_out _ _ _ _ _ (fun _ _ => by simp only [zeroCells_length]; omega)]
      exact h.cells k j hk hj
  cnt := by have hl := h.le; rw [World.cell?_setCells_out _ _ _ _ _ (fun _ _ => by simp only [zeroCells_length]; omega)]; exact h.cnt
  fz := fun o => by rw [World.frozen?_setCells]; exact h.fz o
  le := h.le
theorem Upd.free {S : Nat → Prop} {w w' : World} (u : Upd (fun _ => False) w w') : Upd S w w' := ⟨u.os, u.tape, u.output, u.size, fun k hk _ => u.block k hk (fun f => f)⟩
theorem kDelete_any (w : World) (b : Nat) (cur : Nat → En) (es : List En) (g : Nat) (lb : Array Value) (p : En → Bool) (h : CaAt w b cur es.length) (hes : ∀ i, i < es.length → cur i = atE es i)
    (hp : PredOn b w g lb p) (eg : ∀ args w, (callFunc g args).run Tryz.prog w = .ok (.enter g args) w) :
    Calls Tryz.prog 196 #[.slice (some ⟨b, 0, none⟩) es.length 4, .func (.func g) #[] lb] w fun e w' =>
      e = .returned (.slice (some ⟨b, 0, none⟩) (flt p es).length 4) ∧ Upd (fun k => k = b) w w' ∧ ∃ c, CaAt w' b c es.length ∧ ∀ i, i < (flt p es).length → c i = atE (flt p es) i := by
  have hI := kIndex_any w b cur es g lb p h hes hp eg
  have HH : Hid _ := h
  have HE : Hid _ := hes
  have HP : Hid _ := hp
  have hle := h.le
  clear h hes hp
  rcases idxP_cases p es with ⟨k, hk, ek, hpk, hbk⟩ | ⟨ek, hbk⟩
  · rw [ek] at hI
    clear ek
    have HBK : Hid _ := hbk
    have HPK : Hid _ := hpk
    clear hbk hpk
    have hne : ((k : Int) == -1) = false := beq_eq_false_iff_ne.2 (by omega)
    go_enter Tryz.func196, Tryz.ntmps196
    go_wp2_with fail
    refine Calls.mono hI ?_
    rintro e w1 ⟨rfl, hu1⟩
    have HU1 : Hid _ := hu1
    clear hI hu1
    go_wp2_with fail
    go_loopg [5, 6] es.length (fun gg s5 s6 wi => ∃ (j i : Nat) (c : Nat → En), j ≤ es.length ∧ es.length - j ≤ gg ∧ s5 = .int .i64 i ∧ s6 = .int .i64 j ∧ i < j ∧ Hid (CaAt wi b c es.length) ∧ Hid ((List.range i).map c = fltTo p es j) ∧ Hid (∀ t, j ≤ t → t < es.length → c t = atE es t) ∧ Hid (Upd (fun k => k = b) w wi))
    case atStart =>
      refine ⟨k + 1, k, cur, by omega, by omega, rfl, by go_num, by omega, HH.out.upd HU1.out (fun f => f), (show _ = _ from ?_), fun t _ ht => HE.out t ht, HU1.out.free⟩
      rw [fltTo_succ p es k hk, HPK.out, fltTo_keep p es k (by omega) HBK.out]
      simp only [if_true, List.append_nil]
      apply List.map_congr_left
      intro t ht
      exact HE.out t (by have := List.mem_range.1 ht; omega)
    case round =>
      obtain ⟨j, i, c, hj, hgg, rfl, rfl, hij, HA, HF, HT, HU⟩ := hrel
      by_cases hlt : j < es.length
      · have ej := HT.out j (Nat.le_refl _) hlt
        have c0 : wr.cell? ⟨b, j * 7, none⟩ = some (.int .i64 (atE es j).root) := by have := HA.out.cells j 0 (by omega) (by omega); rw [ej] at this; exact this
        have c1 : wr.cell? ⟨b, j * 7 + 1, none⟩ = some (.int .i64 (atE es j).page) := by have := HA.out.cells j 1 (by omega) (by omega); rw [ej] at this; exact this
        have c2 : wr.cell? ⟨b, j * 7 + 2, none⟩ = some (.int .i64 (atE es j).dest) := by have := HA.out.cells j 2 (by omega) (by omega); rw [ej] at this; exact this
        have c3 : wr.cell? ⟨b, j * 7 + 3, none⟩ = some (.bool (atE es j).may) := by have := HA.out.cells j 3 (by omega) (by omega); rw [ej] at this; exact this
        have c4 : wr.cell? ⟨b, j * 7 + 4, none⟩ = some (.bool (atE es j).lf.there) := by have := HA.out.cells j 4 (by omega) (by omega); rw [ej] at this; exact this
        have c5 : wr.cell? ⟨b, j * 7 + 5, none⟩ = some (.bool (atE es j).lf.wr) := by have := HA.out.cells j 5 (by omega) (by omega); rw [ej] at this; exact this
        have c6 : wr.cell? ⟨b, j * 7 + 6, none⟩ = some (.int .i64 (atE es j).lf.fr) := by have := HA.out.cells j 6 (by omega) (by omega); rw [ej] at this; exact this
        have HS : Hid _ := fltTo_succ p es j hlt
        clear ej
        have k0 : (0 : Int) ≤ (j : Int) := by omega
        have k1 : (j : Int) < es.length := by omega
        have i0 : (0 : Int) ≤ (i : Int) := by omega
        have i1 : (i : Int) < es.length := by omega
        generalize hx : atE es j = x at c0 c1 c2 c3 c4 c5 c6 HS
        have HX : Hid _ := hx
        clear hx
        have hu2 := (Upd.refl (fun _ => False) wr).alloc (.cells #[.int .i64 x.root, .int .i64 x.page, .int .i64 x.dest, .bool x.may, .bool x.lf.there, .bool x.lf.wr, .int .i64 x.lf.fr] 151)
        have hcall := HP.out (wr.alloc (.cells #[.int .i64 x.root, .int .i64 x.page, .int .i64 x.dest, .bool x.may, .bool x.lf.there, .bool x.lf.wr, .int .i64 x.lf.fr] 151)) x (HU.out.trans hu2 (fun _ _ f => f.elim))
        have hq : ∀ j, (wr.alloc (.cells #[.int .i64 x.root, .int .i64 x.page, .int .i64 x.dest, .bool x.may, .bool x.lf.there, .bool x.lf.wr, .int .i64 x.lf.fr] 151)).cell? ⟨wr.heap.size, j, none⟩ = (enCells x)[j]? := fun j => by
          rw [World.cell?_alloc_new]
          show (enCells x).toArray[j]? = _
          simp
        have HU2 : Hid _ := hu2
        have HQ : Hid _ := hq
        clear hu2 hq HE HBK HPK HH
        cases hpx : p x with
        | true =>
          rw [hpx] at hcall HS
          clear HQ
          go_wp2_with fail
          refine Calls.mono hcall ?_
          rintro e w2 ⟨rfl, hu3⟩
          have hu4 := HU2.out.trans hu3 (fun _ _ f => f)
          have HU4 : Hid _ := hu4
          clear hcall hu3 hu4 HU2
          go_wp2_with fail
          go_roundg (es.length - (j + 1))
          case rel =>
            refine ⟨j + 1, i, c, by omega, Nat.le_refl _, rfl, by go_num, by omega, HA.out.upd HU4.out (fun f => f), (show _ = _ from ?_), fun t h1 h2 => HT.out t (by omega) h2, HU.out.trans HU4.out (fun _ _ f => f.elim)⟩
            rw [HF.out, HS.out]; simp
          case measure => omega
        | false =>
          rw [hpx] at hcall HS
          go_wp2_with fail
          refine Calls.mono hcall ?_
          rintro e w2 ⟨rfl, hu3⟩
          have hu4 := HU2.out.trans hu3 (fun _ _ f => f)
          have HU4 : Hid _ := hu4
          have q0 := hu3.cell (show _ = some (.int .i64 x.root) from HQ.out 0) (fun f => f)
          have q1 := hu3.cell (show _ = some (.int .i64 x.page) from HQ.out 1) (fun f => f)
          have q2 := hu3.cell (show _ = some (.int .i64 x.dest) from HQ.out 2) (fun f => f)
          have q3 := hu3.cell (show _ = some (.bool x.may) from HQ.out 3) (fun f => f)
          have q4 := hu3.cell (show _ = some (.bool x.lf.there) from HQ.out 4) (fun f => f)
          have q5 := hu3.cell (show _ = some (.bool x.lf.wr) from HQ.out 5) (fun f => f)
          have q6 := hu3.cell (show _ = some (.int .i64 x.lf.fr) from HQ.out 6) (fun f => f)
          have hA2 := HA.out.upd hu4 (fun f => f)
          have fz := hA2.fz
          have e0 : w2.cell? ⟨b, i * 7, none⟩ = some (.int .i64 (c i).root) := hA2.cells i 0 (by omega) (by omega)
          have e1 : w2.cell? ⟨b, i * 7 + 1, none⟩ = some (.int .i64 (c i).page) := hA2.cells i 1 (by omega) (by omega)
          have e2 : w2.cell? ⟨b, i * 7 + 2, none⟩ = some (.int .i64 (c i).dest) := hA2.cells i 2 (by omega) (by omega)
          have e3 : w2.cell? ⟨b, i * 7 + 3, none⟩ = some (.bool (c i).may) := hA2.cells i 3 (by omega) (by omega)
          have e4 : w2.cell? ⟨b, i * 7 + 4, none⟩ = some (.bool (c i).lf.there) := hA2.cells i 4 (by omega) (by omega)
          have e5 : w2.cell? ⟨b, i * 7 + 5, none⟩ = some (.bool (c i).lf.wr) := hA2.cells i 5 (by omega) (by omega)
          have e6 : w2.cell? ⟨b, i * 7 + 6, none⟩ = some (.int .i64 (c i).lf.fr) := hA2.cells i 6 (by omega) (by omega)
          have HA2 : Hid _ := hA2
          generalize (c i) = y at e0 e1 e2 e3 e4 e5 e6
          clear hcall hu3 hu4 HU2 HQ hA2 c0 c1 c2 c3 c4 c5 c6
          go_wp2_with fail
          go_roundg (es.length - (j + 1))
          case rel =>
            refine ⟨j + 1, i + 1, setAt c i x, by omega, Nat.le_refl _, by go_num, by go_num, by omega, HA2.out.set7 (by omega) x, (show _ = _ from ?_), (show Hid _ from fun t h1 h2 => ?_), HU.out.trans (HU4.out.free.trans (Upd.set7 w2 b i x) (fun _ _ e => e)) (fun _ _ e => e)⟩
            · rw [range_set, HF.out, HS.out]; simp
            · rw [setAt_other _ _ _ _ (by omega)]; exact HT.out t (by omega) h2
          case measure => omega
      · obtain rfl : j = es.length := by omega
        have hcl := clear_entries wr b i es.length c HA.out hij
        have i0 : (0 : Int) ≤ (i : Int) := by omega
        have i1 : (i : Int) ≤ es.length := by omega
        have i4 : (i : Int) ≤ 4 := by omega
        have hnn : ¬ ((es.length : Nat) : Int) < ((es.length : Nat) : Int) := by omega
        clear hlt HE HBK HPK HH HP
        go_wp2_with fail
        go_ret
        obtain ⟨l1, l2⟩ := of_range HF.out
        rw [fltTo_all] at l1 l2
        refine ⟨by rw [l1]; rfl, HU.out.trans (Upd.row _ _ _ _) (fun _ _ e => e), _, HA.out.cleared hij, fun t ht => ?_⟩
        rw [l1] at ht
        show (if i ≤ t ∧ t < es.length then en0 else c t) = _
        rw [if_neg (by omega)]
        exact l2 t ht
  · rw [ek] at hI
    clear ek
    have hfe : flt p es = es := by
      unfold flt
      rw [List.filter_eq_self]
      intro x hx
      obtain ⟨i, hi, rfl⟩ := List.getElem_of_mem hx
      have := hbk i hi
      simp only [atE, List.getD_eq_getElem?_getD, List.getElem?_eq_getElem hi, Option.getD_some] at this
      rw [this]; rfl
    rw [hfe]
    clear hfe hbk
    go_enter Tryz.func196, Tryz.ntmps196
    go_wp2_with fail
    refine Calls.mono hI ?_
    rintro e w1 ⟨rfl, hu1⟩
    have HU1 : Hid _ := hu1
    clear hI hu1
    go_wp2_with fail
    go_ret
    exact ⟨rfl, HU1.out.free, cur, HH.out.upd HU1.out (fun f => f), HE.out⟩
end Go.Proofs.YtadpibcgjgcjhabGreatDoor
