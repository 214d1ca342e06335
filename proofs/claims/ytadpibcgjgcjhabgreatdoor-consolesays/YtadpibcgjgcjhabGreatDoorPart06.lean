/- Package cache: what the library's IndexFunc answers over a cache's places. -/
import Derived.Test.YtadpibcgjgcjhabGreatDoorPart05
namespace Go.Proofs.YtadpibcgjgcjhabGreatDoor
open Go.ChangeShapes Go.WideShapes Go.ChangeAt Go.RowKit
set_option maxRecDepth 100000
attribute [local go_sem ↓] Go.wp_at_zero Go.wp_at_succ

/-- The place of the first entry of which p holds. -/
def idxP (p : En → Bool) (es : List En) : Int := match es.findIdx? p with
  | some i => i
  | none => -1
theorem idxP_some {p : En → Bool} {es : List En} {k : Nat} (hk : k < es.length) (h : p (atE es k) = true) (hb : ∀ i, i < k → p (atE es i) = false) : idxP p es = k := by
  have : es.findIdx? p = some k := by
    rw [List.findIdx?_eq_some_iff_getElem]
    refine ⟨hk, ?_, fun j hj => ?_⟩
    · simpa [atE, List.getD_eq_getElem?_getD, List.getElem?_eq_getElem hk] using h
    · have := hb j hj
      simpa [atE, List.getD_eq_getElem?_getD, List.getElem?_eq_getElem (show j < es.length by omega)] using this
  unfold idxP
  rw [this]
theorem idxP_none {p : En → Bool} {es : List En} (hb : ∀ i, i < es.length → p (atE es i) = false) : idxP p es = -1 := by
  have : es.findIdx? p = none := by
    rw [List.findIdx?_eq_none_iff]
    intro x hx
    obtain ⟨i, hi, rfl⟩ := List.getElem_of_mem hx
    have := hb i hi
    simpa [atE, List.getD_eq_getElem?_getD, List.getElem?_eq_getElem hi] using this
  unfold idxP
  rw [this]
/-- It is a place, or there is none. -/
theorem idxP_cases (p : En → Bool) (es : List En) : (∃ k : Nat, k < es.length ∧ idxP p es = k ∧ p (atE es k) = true ∧ ∀ i, i < k → p (atE es i) = false) ∨ (idxP p es = -1 ∧ ∀ i, i < es.length → p (atE es i) = false) := by
  by_cases h : ∃ k, k < es.length ∧ p (atE es k) = true
  · obtain ⟨k, ⟨hk, hp⟩, hmin⟩ := exists_least h
    have hb : ∀ i, i < k → p (atE es i) = false := fun i hi => by
      cases hq : p (atE es i) with
      | false => rfl
      | true => have := hmin i ⟨by omega, hq⟩; omega
    exact Or.inl ⟨k, hk, idxP_some hk hp hb, hp, hb⟩
  · have hb : ∀ i, i < es.length → p (atE es i) = false := fun i hi => by
      cases hq : p (atE es i) with
      | false => rfl
      | true => exact absurd ⟨i, hi, hq⟩ h
    exact Or.inr ⟨idxP_none hb, hb⟩
/-- The entries of a cache. -/
def CaL (w : World) (b : Nat) (es : List En) : Prop := ∃ cur, CaAt w b cur es.length ∧ ∀ i, i < es.length → cur i = atE es i
theorem kIndex_any (w : World) (b : Nat) (cur : Nat → En) (es : List En) (g : Nat) (lb : Array Value) (p : En → Bool) (h : CaAt w b cur es.length) (hes : ∀ i, i < es.length → cur i = atE es i)
    (hp : PredOn b w g lb p) (eg : ∀ args w, (callFunc g args).run Tryz.prog w = .ok (.enter g args) w) :
    Calls Tryz.prog 193 #[.slice (some ⟨b, 0, none⟩) es.length 4, .func (.func g) #[] lb] w fun e w' => e = .returned (.int .i64 (idxP p es)) ∧ Upd (fun _ => False) w w' := by
  have HH : Hid _ := h
  have HE : Hid _ := hes
  have HP : Hid _ := hp
  have hle := h.le
  clear h hes hp
  go_enter Tryz.func193, Tryz.ntmps193
  go_wp2_with fail
  go_loopg [8] es.length (fun gg i wi => ∃ k : Nat, k + gg = es.length ∧ i = .int .i64 k ∧ Hid (∀ i, i < k → p (atE es i) = false) ∧ Hid (Upd (fun _ => False) w wi))
  case atStart => exact ⟨0, by omega, rfl, fun i hi => absurd hi (by omega), Upd.refl _ _⟩
  case round =>
    obtain ⟨k, hk, rfl, HB, HU⟩ := hrel
    have HK : Hid _ := hk
    by_cases hlt : k < es.length
    · clear hk
      have HA : Hid _ := HH.out.upd HU.out (fun f => f)
      have ek := HE.out k hlt
      have c0 : wr.cell? ⟨b, k * 7, none⟩ = some (.int .i64 (atE es k).root) := by have := HA.out.cells k 0 (by omega) (by omega); rw [ek] at this; exact this
      have c1 : wr.cell? ⟨b, k * 7 + 1, none⟩ = some (.int .i64 (atE es k).page) := by have := HA.out.cells k 1 (by omega) (by omega); rw [ek] at this; exact this
      have c2 : wr.cell? ⟨b, k * 7 + 2, none⟩ = some (.int .i64 (atE es k).dest) := by have := HA.out.cells k 2 (by omega) (by omega); rw [ek] at this; exact this
      have c3 : wr.cell? ⟨b, k * 7 + 3, none⟩ = some (.bool (atE es k).may) := by have := HA.out.cells k 3 (by omega) (by omega); rw [ek] at this; exact this
      have c4 : wr.cell? ⟨b, k * 7 + 4, none⟩ = some (.bool (atE es k).lf.there) := by have := HA.out.cells k 4 (by omega) (by omega); rw [ek] at this; exact this
      have c5 : wr.cell? ⟨b, k * 7 + 5, none⟩ = some (.bool (atE es k).lf.wr) := by have := HA.out.cells k 5 (by omega) (by omega); rw [ek] at this; exact this
      have c6 : wr.cell? ⟨b, k * 7 + 6, none⟩ = some (.int .i64 (atE es k).lf.fr) := by have := HA.out.cells k 6 (by omega) (by omega); rw [ek] at this; exact this
      clear ek HA HE
      have k0 : (0 : Int) ≤ (k : Int) := by omega
      have k1 : (k : Int) < es.length := by omega
      generalize hx : atE es k = x at c0 c1 c2 c3 c4 c5 c6
      have HX : Hid _ := hx
      clear hx
      have hcall := HP.out wr x (HU.out.trans (T := fun _ => False) (Upd.refl _ _) (fun _ _ f => f.elim) |> fun u => ⟨u.os, u.tape, u.output, u.size, fun i hi _ => u.block i hi (fun f => f)⟩)
      clear HP
      cases hq : p x with
      | true =>
        rw [hq] at hcall
        go_wp2_with (go_at_fn g; refine hcall.mono ?_; rintro e w' ⟨rfl, hb'⟩)
        go_ret
        exact ⟨by rw [idxP_some hlt (by rw [HX.out]; exact hq) HB.out]; rfl, HU.out.trans hb' (fun _ _ f => f)⟩
      | false =>
        rw [hq] at hcall
        go_wp2_with (go_at_fn g; refine hcall.mono ?_; rintro e w' ⟨rfl, hb'⟩)
        go_roundg (es.length - (k + 1))
        case rel =>
          refine ⟨k + 1, by omega, by go_num, (show Hid _ from fun i hi => ?_), HU.out.trans hb' (fun _ _ f => f)⟩
          by_cases e : i = k
          · subst e; rw [HX.out]; exact hq
          · exact HB.out i (by omega)
        case measure => have := HK.out; omega
    · have HF : Hid _ := idxP_none (p := p) (es := es) (fun i hi => HB.out i (by have := HK.out; omega))
      clear hk HP HE HH
      go_wp2_with fail
      go_ret
      exact ⟨by rw [HF.out]; rfl, HU.out⟩
end Go.Proofs.YtadpibcgjgcjhabGreatDoor
/- Package cache: what the library's DeleteFunc answers and turns over a cache's places; remove. -/
namespace Go.Proofs.YtadpibcgjgcjhabGreatDoor
open Go.ChangeShapes Go.WideShapes Go.ChangeAt Go.RowKit
set_option maxRecDepth 100000
attribute [local go_sem ↓] Go.wp_at_zero Go.wp_at_succ

/-- Of the first j those of which p does not hold. -/
def fltTo (p : En → Bool) (es : List En) (j : Nat) : List En := (es.take j).filter fun e => !p e
def flt (p : En → Bool) (es : List En) : List En := es.filter fun e => !p e
theorem take_succ_atE (es : List En) (j : Nat) (h : j < es.length) : es.take (j + 1) = es.take j ++ [atE es j] := by
  rw [List.take_add_one, List.getElem?_eq_getElem h]
  simp [atE, List.getD_eq_getElem?_getD, h]
theorem fltTo_succ (p : En → Bool) (es : List En) (j : Nat) (h : j < es.length) : fltTo p es (j + 1) = fltTo p es j ++ if p (atE es j) then [] else [atE es j] := by
  unfold fltTo
  rw [take_succ_atE es j h, List.filter_append]
  cases hp : p (atE es j) <;> simp [hp]
theorem fltTo_all (p : En → Bool) (es : List En) : fltTo p es es.length = flt p es := by simp [fltTo, flt]
theorem flt_length (p : En → Bool) (es : List En) : (flt p es).length ≤ es.length := List.length_filter_le _ _
theorem fltTo_keep (p : En → Bool) (es : List En) : ∀ k, k ≤ es.length → (∀ i, i < k → p (atE es i) = false) → fltTo p es k = (List.range k).map (atE es)
  | 0, _, _ => by simp [fltTo]
  | k + 1, h, hb => by
    rw [fltTo_succ p es k (by omega), fltTo_keep p es k (by omega) (fun i hi => hb i (by omega)), hb k (by omega), List.range_succ]
    simp
theorem range_set (c : Nat → En) (i : Nat) (x : En) : (List.range (i + 1)).map (setAt c i x) = (List.range i).map c ++ [x] := by
  rw [List.range_succ, List.map_append]
  congr 1
  · apply List.map_congr_left
    intro t ht
    rw [setAt_other _ _ _ _ (by have := List.mem_range.1 ht; omega)]
  · simp [setAt]
theorem of_range {c : Nat → En} {n : Nat} {es : List En} (h : (List.range n).map c = es) : es.length = n ∧ ∀ i, i < n → c i = atE es i := by
  subst h
  refine ⟨by simp, fun i hi => ?_⟩
  simp [atE, List.getD_eq_getElem?_getD, hi]
theorem zeroCells_get (m t : Nat) (h : t < m * 7) : (Builtin.zeroCells zeroEn m).toList[t]? = (enCells en0)[t % 7]? := by
  have hz : zeroEn.size = 7 := rfl
  have h2 : t % 7 < 7 := by omega
  unfold Builtin.zeroCells
  rw [hz]
  simp only [Array.toList_map, Array.toList_range, List.getElem?_map, List.getElem?_range h, Option.map_some]
  generalize t % 7 = r at h2
  rcases r with _ | _ | _ | _ | _ | _ | _ | r
  all_goals first | rfl | omega
theorem zeroCells_length (m : Nat) : (Builtin.zeroCells zeroEn m).toList.length = m * 7 := by
  have hz : zeroEn.size = 7 := rfl
  simp [Builtin.zeroCells, hz]
theorem clear_entries (w : World) (b i n : Nat) (cur : Nat → En) (h : CaAt w b cur n) (hi : i < n) (c : Nat) (ty : TypeId) :
    (Builtin.clear_ #[96] ty #[.slice (some ⟨b, i * 7, none⟩) (n - i) c]).run Tryz.prog w = .ok (.tuple #[]) (w.setCells b (i * 7) (Builtin.zeroCells zeroEn (n - i)).toList) := by
  have hl := h.le
  have hst := run_storeCells_cells (P := Tryz.prog) b (i * 7) (Builtin.zeroCells zeroEn (n - i)).toList 0 w
    (fun j hj => by rw [zeroCells_length] at hj; exact (h.there _ (by omega)).1) (fun j hj => by rw [zeroCells_length] at hj; exact (h.there _ (by omega)).2)
    (fun v hv => by
      obtain ⟨t, ht, rfl⟩ := List.getElem_of_mem hv
      have ht' := ht
      rw [zeroCells_length] at ht'
      have := zeroCells_get (n - i) t ht'
      rw [List.getElem?_eq_getElem ht] at this
      exact enAll_one [en0] _ (by simpa [enAll] using List.mem_of_getElem? this.symm))
  simp only [Nat.add_zero] at hst
  obtain ⟨m, hm⟩ : ∃ m, n - i = m + 1 := ⟨n - i - 1, by omega⟩
  rw [hm] at hst ⊢
  simp [Builtin.clear_, run_underlying Tryz.underlying96]
  change ((Sem.run Tryz.prog (storeCells ⟨b, i * 7, none⟩ (Builtin.zeroCells zeroEn (m + 1)).toList) w).andThen _) = _
  rw [hst]
  rfl
theorem CaAt.cleared {w : World} {b i n : Nat} {cur : Nat → En} (h : CaAt w b cur n) (hi : i < n) : CaAt (w.setCells b (i * 7) (Builtin.zeroCells zeroEn (n - i)).toList) b (fun t => if i ≤ t ∧ t < n then en0 else cur t) n where
  cells := fun k j hk hj => by
    have hl := h.le
    by_cases e : i ≤ k ∧ k < n
    · rw [if_pos e]
      have hlt : (k - i) * 7 + j < (n - i) * 7 := by have : k - i + 1 ≤ n - i := by omega
                                                     omega
      have hg := zeroCells_get (n - i) ((k - i) * 7 + j) hlt
      rw [show ((k - i) * 7 + j) % 7 = j by omega] at hg
      obtain ⟨v, hv⟩ := enCells_some en0 j hj
      have := World.rangeAt_setCells_same w b (i * 7) (Builtin.zeroCells zeroEn (n - i)).toList (fun o ho => h.there _ (by rw [zeroCells_length] at ho; omega)) ((k - i) * 7 + j) v (hg.trans hv)
      rw [show i * 7 + ((k - i) * 7 + j) = k * 7 + j by omega] at this
      rw [this, hv]
    · rw [if_neg e, World.cell?_setCells_out _ _ _ _ _ (fun _ _ => by simp only [zeroCells_length]; omega)]
      exact h.cells k j hk hj
  cnt := by have hl := h.le; rw [World.cell?_setCells_out _ _ _ _ _ (fun _ _ => by simp only [zeroCells_length]; omega)]; exact h.cnt
  fz := fun o => by rw [World.frozen?_setCells]; exact h.fz o
  le := h.le
theorem Upd.free {S : Nat → Prop} {w w' : World} (u : Upd (fun _ => False) w w') : Upd S w w' := ⟨u.os, u.tape, u.output, u.size, fun k hk _ => u.block k hk (fun f => f)⟩
theorem kDelete_any (w : World) (b : Nat) (cur : Nat → En) (es : List En) (g : Nat) (lb : Array Value) (p : En → Bool) (h : CaAt w b cur es.length) (hes : ∀ i, i < es.length → cur i = atE es i)
    (hp : PredOn b w g lb p) (eg : ∀ args w, (callFunc g args).run Tryz.prog w = .ok (.enter g args) w) :
    Calls Tryz.prog 196 #[.slice (some ⟨b, 0, none⟩) es.length 4, .func (.func g) #[] lb] w fun e w' =>
      e = .returned (.slice (some ⟨b, 0, none⟩) (flt p es).length 4) ∧ Upd (fun k => k = b) w w' ∧ ∃ c, CaAt w' b c es.length ∧ ∀ i, i < (flt p es).length → c i = atE (flt p es) i := by
  have hI := kIndex_any w b cur es g lb p h hes hp eg
  have HH : Hid _ := h
  have HE : Hid _ := hes
  have HP : Hid _ := hp
  have hle := h.le
  clear h hes hp
  rcases idxP_cases p es with ⟨k, hk, ek, hpk, hbk⟩ | ⟨ek, hbk⟩
  · rw [ek] at hI
    clear ek
    have HBK : Hid _ := hbk
    have HPK : Hid _ := hpk
    clear hbk hpk
    have hne : ((k : Int) == -1) = false := beq_eq_false_iff_ne.2 (by omega)
    go_enter Tryz.func196, Tryz.ntmps196
    go_wp2_with fail
    refine Calls.mono hI ?_
    rintro e w1 ⟨rfl, hu1⟩
    have HU1 : Hid _ := hu1
    clear hI hu1
    go_wp2_with fail
    go_loopg [5, 6] es.length (fun gg s5 s6 wi => ∃ (j i : Nat) (c : Nat → En), j ≤ es.length ∧ es.length - j ≤ gg ∧ s5 = .int .i64 i ∧ s6 = .int .i64 j ∧ i < j ∧ Hid (CaAt wi b c es.length) ∧ Hid ((List.range i).map c = fltTo p es j) ∧ Hid (∀ t, j ≤ t → t < es.length → c t = atE es t) ∧ Hid (Upd (fun k => k = b) w wi))
    case atStart =>
      refine ⟨k + 1, k, cur, by omega, by omega, rfl, by go_num, by omega, HH.out.upd HU1.out (fun f => f), (show _ = _ from ?_), fun t _ ht => HE.out t ht, HU1.out.free⟩
      rw [fltTo_succ p es k hk, HPK.out, fltTo_keep p es k (by omega) HBK.out]
      simp only [if_true, List.append_nil]
      apply List.map_congr_left
      intro t ht
      exact HE.out t (by have := List.mem_range.1 ht; omega)
    case round =>
      obtain ⟨j, i, c, hj, hgg, rfl, rfl, hij, HA, HF, HT, HU⟩ := hrel
      by_cases hlt : j < es.length
      · have ej := HT.out j (Nat.le_refl _) hlt
        have c0 : wr.cell? ⟨b, j * 7, none⟩ = some (.int .i64 (atE es j).root) := by have := HA.out.cells j 0 (by omega) (by omega); rw [ej] at this; exact this
        have c1 : wr.cell? ⟨b, j * 7 + 1, none⟩ = some (.int .i64 (atE es j).page) := by have := HA.out.cells j 1 (by omega) (by omega); rw [ej] at this; exact this
        have c2 : wr.cell? ⟨b, j * 7 + 2, none⟩ = some (.int .i64 (atE es j).dest) := by have := HA.out.cells j 2 (by omega) (by omega); rw [ej] at this; exact this
        have c3 : wr.cell? ⟨b, j * 7 + 3, none⟩ = some (.bool (atE es j).may) := by have := HA.out.cells j 3 (by omega) (by omega); rw [ej] at this; exact this
        have c4 : wr.cell? ⟨b, j * 7 + 4, none⟩ = some (.bool (atE es j).lf.there) := by have := HA.out.cells j 4 (by omega) (by omega); rw [ej] at this; exact this
        have c5 : wr.cell? ⟨b, j * 7 + 5, none⟩ = some (.bool (atE es j).lf.wr) := by have := HA.out.cells j 5 (by omega) (by omega); rw [ej] at this; exact this
        have c6 : wr.cell? ⟨b, j * 7 + 6, none⟩ = some (.int .i64 (atE es j).lf.fr) := by have := HA.out.cells j 6 (by omega) (by omega); rw [ej] at this; exact this
        have HS : Hid _ := fltTo_succ p es j hlt
        clear ej
        have k0 : (0 : Int) ≤ (j : Int) := by omega
        have k1 : (j : Int) < es.length := by omega
        have i0 : (0 : Int) ≤ (i : Int) := by omega
        have i1 : (i : Int) < es.length := by omega
        generalize hx : atE es j = x at c0 c1 c2 c3 c4 c5 c6 HS
        have HX : Hid _ := hx
        clear hx
        have hu2 := (Upd.refl (fun _ => False) wr).alloc (.cells #[.int .i64 x.root, .int .i64 x.page, .int .i64 x.dest, .bool x.may, .bool x.lf.there, .bool x.lf.wr, .int .i64 x.lf.fr] 151)
        have hcall := HP.out (wr.alloc (.cells #[.int .i64 x.root, .int .i64 x.page, .int .i64 x.dest, .bool x.may, .bool x.lf.there, .bool x.lf.wr, .int .i64 x.lf.fr] 151)) x (HU.out.trans hu2 (fun _ _ f => f.elim))
        have hq : ∀ j, (wr.alloc (.cells #[.int .i64 x.root, .int .i64 x.page, .int .i64 x.dest, .bool x.may, .bool x.lf.there, .bool x.lf.wr, .int .i64 x.lf.fr] 151)).cell? ⟨wr.heap.size, j, none⟩ = (enCells x)[j]? := fun j => by
          rw [World.cell?_alloc_new]
          show (enCells x).toArray[j]? = _
          simp
        have HU2 : Hid _ := hu2
        have HQ : Hid _ := hq
        clear hu2 hq HE HBK HPK HH
        cases hpx : p x with
        | true =>
          rw [hpx] at hcall HS
          clear HQ
          go_wp2_with fail
          refine Calls.mono hcall ?_
          rintro e w2 ⟨rfl, hu3⟩
          have hu4 := HU2.out.trans hu3 (fun _ _ f => f)
          have HU4 : Hid _ := hu4
          clear hcall hu3 hu4 HU2
          go_wp2_with fail
          go_roundg (es.length - (j + 1))
          case rel =>
            refine ⟨j + 1, i, c, by omega, Nat.le_refl _, rfl, by go_num, by omega, HA.out.upd HU4.out (fun f => f), (show _ = _ from ?_), fun t h1 h2 => HT.out t (by omega) h2, HU.out.trans HU4.out (fun _ _ f => f.elim)⟩
            rw [HF.out, HS.out]; simp
          case measure => omega
        | false =>
          rw [hpx] at hcall HS
          go_wp2_with fail
          refine Calls.mono hcall ?_
          rintro e w2 ⟨rfl, hu3⟩
          have hu4 := HU2.out.trans hu3 (fun _ _ f => f)
          have HU4 : Hid _ := hu4
          have q0 := hu3.cell (show _ = some (.int .i64 x.root) from HQ.out 0) (fun f => f)
          have q1 := hu3.cell (show _ = some (.int .i64 x.page) from HQ.out 1) (fun f => f)
          have q2 := hu3.cell (show _ = some (.int .i64 x.dest) from HQ.out 2) (fun f => f)
          have q3 := hu3.cell (show _ = some (.bool x.may) from HQ.out 3) (fun f => f)
          have q4 := hu3.cell (show _ = some (.bool x.lf.there) from HQ.out 4) (fun f => f)
          have q5 := hu3.cell (show _ = some (.bool x.lf.wr) from HQ.out 5) (fun f => f)
          have q6 := hu3.cell (show _ = some (.int .i64 x.lf.fr) from HQ.out 6) (fun f => f)
          have hA2 := HA.out.upd hu4 (fun f => f)
          have fz := hA2.fz
          have e0 : w2.cell? ⟨b, i * 7, none⟩ = some (.int .i64 (c i).root) := hA2.cells i 0 (by omega) (by omega)
          have e1 : w2.cell? ⟨b, i * 7 + 1, none⟩ = some (.int .i64 (c i).page) := hA2.cells i 1 (by omega) (by omega)
          have e2 : w2.cell? ⟨b, i * 7 + 2, none⟩ = some (.int .i64 (c i).dest) := hA2.cells i 2 (by omega) (by omega)
          have e3 : w2.cell? ⟨b, i * 7 + 3, none⟩ = some (.bool (c i).may) := hA2.cells i 3 (by omega) (by omega)
          have e4 : w2.cell? ⟨b, i * 7 + 4, none⟩ = some (.bool (c i).lf.there) := hA2.cells i 4 (by omega) (by omega)
          have e5 : w2.cell? ⟨b, i * 7 + 5, none⟩ = some (.bool (c i).lf.wr) := hA2.cells i 5 (by omega) (by omega)
          have e6 : w2.cell? ⟨b, i * 7 + 6, none⟩ = some (.int .i64 (c i).lf.fr) := hA2.cells i 6 (by omega) (by omega)
          have HA2 : Hid _ := hA2
          generalize (c i) = y at e0 e1 e2 e3 e4 e5 e6
          clear hcall hu3 hu4 HU2 HQ hA2 c0 c1 c2 c3 c4 c5 c6
          go_wp2_with fail
          go_roundg (es.length - (j + 1))
          case rel =>
            refine ⟨j + 1, i + 1, setAt c i x, by omega, Nat.le_refl _, by go_num, by go_num, by omega, HA2.out.set7 (by omega) x, (show _ = _ from ?_), (show Hid _ from fun t h1 h2 => ?_), HU.out.trans (HU4.out.free.trans (Upd.set7 w2 b i x) (fun _ _ e => e)) (fun _ _ e => e)⟩
            · rw [range_set, HF.out, HS.out]; simp
            · rw [setAt_other _ _ _ _ (by omega)]; exact HT.out t (by omega) h2
          case measure => omega
      · obtain rfl : j = es.length := by omega
        have hcl := clear_entries wr b i es.length c HA.out hij
        have i0 : (0 : Int) ≤ (i : Int) := by omega
        have i1 : (i : Int) ≤ es.length := by omega
        have i4 : (i : Int) ≤ 4 := by omega
        have hnn : ¬ ((es.length : Nat) : Int) < ((es.length : Nat) : Int) := by omega
        clear hlt HE HBK HPK HH HP
        go_wp2_with fail
        go_ret
        obtain ⟨l1, l2⟩ := of_range HF.out
        rw [fltTo_all] at l1 l2
        refine ⟨by rw [l1]; rfl, HU.out.trans (Upd.row _ _ _ _) (fun _ _ e => e), _, HA.out.cleared hij, fun t ht => ?_⟩
        rw [l1] at ht
        show (if i ≤ t ∧ t < es.length then en0 else c t) = _
        rw [if_neg (by omega)]
        exact l2 t ht
  · rw [ek] at hI
    clear ek
    have hfe : flt p es = es := by
      unfold flt
      rw [List.filter_eq_self]
      intro x hx
      obtain ⟨i, hi, rfl⟩ := List.getElem_of_mem hx
      have := hbk i hi
      simp only [atE, List.getD_eq_getElem?_getD, List.getElem?_eq_getElem hi, Option.getD_some] at this
      rw [this]; rfl
    rw [hfe]
    clear hfe hbk
    go_enter Tryz.func196, Tryz.ntmps196
    go_wp2_with fail
    refine Calls.mono hI ?_
    rintro e w1 ⟨rfl, hu1⟩
    have HU1 : Hid _ := hu1
    clear hI hu1
    go_wp2_with fail
    go_ret
    exact ⟨rfl, HU1.out.free, cur, HH.out.upd HU1.out (fun f => f), HE.out⟩
end Go.Proofs.YtadpibcgjgcjhabGreatDoor
/- Package cache: remove, Drop, Forget, Find. -/
namespace Go.Proofs.YtadpibcgjgcjhabGreatDoor
open Go.ChangeShapes Go.WideShapes Go.ChangeAt Go.RowKit
set_option maxRecDepth 100000
attribute [local go_sem ↓] Go.wp_at_zero Go.wp_at_succ

theorem CaL.upd {S : Nat → Prop} {w w' : World} {b : Nat} {es : List En} (h : CaL w b es) (u : Upd S w w') (hb : ¬ S b) : CaL w' b es := by
  obtain ⟨c, h1, h2⟩ := h
  exact ⟨c, h1.upd u hb, h2⟩
theorem CaL.lt {w : World} {b : Nat} {es : List En} (h : CaL w b es) : b < w.heap.size := by
  obtain ⟨c, h1, h2⟩ := h
  exact h1.lt
theorem CaL.le {w : World} {b : Nat} {es : List En} (h : CaL w b es) : es.length ≤ 4 := by
  obtain ⟨c, h1, h2⟩ := h
  exact h1.le
theorem enters91 : ∀ args w, (callFunc 197 args).run Tryz.prog w = .ok (.enter 197 args) w := enters_of Tryz.func197 (by kernel_rfl) rfl
theorem enters87 : ∀ args w, (callFunc 183 args).run Tryz.prog w = .ok (.enter 183 args) w := enters_of Tryz.func183 (by kernel_rfl) rfl
theorem kOf_pred (w : World) (b : Nat) (hb : b < w.heap.size) (r p : Int) :
    Calls Tryz.prog 182 #[.int .i64 r, .int .i64 p] w fun e w' => ∃ lb, e = .returned (.func (.func 197) #[] lb) ∧ PredOn b w' 197 lb (isAt r p) ∧ Upd (fun _ => False) w w' := by
  refine (kOf_any w r p).mono ?_
  rintro e w' ⟨rfl, rfl⟩
  refine ⟨_, rfl, fun W x hu => ?_, ((Upd.refl _ _).alloc _).alloc _⟩
  have c1 : ((w.alloc (.cells #[.int .i64 r] 3)).alloc (.cells #[.int .i64 p] 3)).cell? ⟨w.heap.size, 0, none⟩ = some (.int .i64 r) := by
    rw [World.cell?_alloc_old _ _ _ (by simp), World.cell?_alloc_new]; rfl
  have c2 : ((w.alloc (.cells #[.int .i64 r] 3)).alloc (.cells #[.int .i64 p] 3)).cell? ⟨w.heap.size + 1, 0, none⟩ = some (.int .i64 p) := by
    have := World.cell?_alloc_new (w.alloc (.cells #[.int .i64 r] 3)) #[.int .i64 p] 3 0
    simp only [World.size_alloc] at this
    rw [this]; rfl
  exact kOf1_any W _ _ r p x (hu.cell c1 (by simp only; omega)) (hu.cell c2 (by simp only; omega))
theorem kRemove_any (w : World) (b : Nat) (es : List En) (g : Nat) (lb : Array Value) (p : En → Bool) (h : CaL w b es) (hp : PredOn b w g lb p) (eg : ∀ args w, (callFunc g args).run Tryz.prog w = .ok (.enter g args) w) :
    Calls Tryz.prog 181 #[.pointer (some ⟨b, 0, none⟩), .func (.func g) #[] lb] w fun e w' => e = .returned (.int .i64 ((es.length - (flt p es).length : Nat) : Int)) ∧ CaL w' b (flt p es) ∧ Upd (fun k => k = b) w w' := by
  obtain ⟨cur, h, hes⟩ := h
  have hc := h.cnt
  have hle := h.le
  have hfl := flt_length p es
  have HH : Hid _ := h
  have HE : Hid _ := hes
  have HP : Hid (PredOn b w g lb p) := hp
  clear h hes hp
  go_enter Tryz.func181, Tryz.ntmps181
  go_wp2_with fail
  refine (kLive_any w b cur es.length HH.out).mono ?_
  rintro e w1 ⟨rfl, m, rfl⟩
  have hu1 := (Upd.refl (fun _ => False) w).drewN m
  have HA : Hid _ := HH.out.upd hu1 (fun f => f)
  have HP1 : Hid (PredOn b (w.drewN m) g lb p) := PredOn.trans HP.out hu1.free
  have HU1 : Hid _ := hu1
  clear hu1
  go_wp2_with fail
  refine (kDelete_any _ b cur es g lb p HA.out HE.out HP1.out eg).mono ?_
  rintro e w2 ⟨rfl, hu2, c, hc2, hl2⟩
  have d0 := hc2.cnt
  have dz := hc2.fz 28
  have HC2 : Hid _ := hc2
  have HL2 : Hid _ := hl2
  have HU2 : Hid _ := HU1.out.free.trans hu2 (fun _ _ e => e)
  clear hc hc2 hl2 hu2 HP HP1 HA HH HE HU1
  generalize hm : (flt p es).length = k at hfl
  have HM : Hid _ := hm
  clear hm
  go_wp2_with fail
  go_ret
  refine ⟨?_, ⟨c, by rw [HM.out]; exact HC2.out.setCnt k (by omega), fun i hi => HL2.out i hi⟩, HU2.out.trans (Upd.one _ _ _ _) (fun _ _ e => e)⟩
  show Ending.returned (Value.int .i64 _) = _
  congr 2
  rw [HM.out]; omega
theorem kDrop_any (w : World) (b : Nat) (es : List En) (r p : Int) (h : CaL w b es) :
    Calls Tryz.prog 159 #[.pointer (some ⟨b, 0, none⟩), .int .i64 r, .int .i64 p] w fun e w' => e = .returned (.bool (decide ((0 : Int) < ((es.length - (flt (isAt r p) es).length : Nat) : Int)))) ∧ CaL w' b (flt (isAt r p) es) ∧ Upd (fun k => k = b) w w' := by
  have HH : Hid (CaL w b es) := h
  clear h
  go_enter Tryz.func159, Tryz.ntmps159
  go_wp2_with fail
  refine (kOf_pred w b HH.out.lt r p).mono ?_
  rintro e w1 ⟨lb, rfl, hp, hu1⟩
  have HP : Hid (PredOn b w1 197 lb (isAt r p)) := hp
  have HU1 : Hid _ := hu1
  clear hp hu1
  go_wp2_with fail
  refine (kRemove_any w1 b es _ lb _ (HH.out.upd HU1.out (fun f => f)) HP.out enters91).mono ?_
  rintro e w2 ⟨rfl, hc2, hu2⟩
  have HC2 : Hid (CaL w2 b (flt (isAt r p) es)) := hc2
  have HU2 : Hid _ := HU1.out.free.trans hu2 (fun _ _ e => e)
  clear hc2 hu2
  generalize hk : es.length - (flt (isAt r p) es).length = k
  have HK : Hid _ := hk
  clear hk
  go_wp2_with fail
  go_ret
  exact ⟨by rw [HK.out]; first | rfl | simp, HC2.out, HU2.out⟩
theorem kForget_any (w : World) (b : Nat) (es : List En) (r : Int) (h : CaL w b es) :
    Calls Tryz.prog 160 #[.pointer (some ⟨b, 0, none⟩), .int .i64 r] w fun e w' => e = .returned (.int .i64 ((es.length - (flt (fun x => x.root == r) es).length : Nat) : Int)) ∧ CaL w' b (flt (fun x => x.root == r) es) ∧ Upd (fun k => k = b) w w' := by
  have hlt := h.lt
  have hu1 := (Upd.refl (fun _ => False) w).alloc (.cells #[.int .i64 r] 3)
  have c1 : (w.alloc (.cells #[.int .i64 r] 3)).cell? ⟨w.heap.size, 0, none⟩ = some (.int .i64 r) := by
    rw [World.cell?_alloc_new]; rfl
  have hp : PredOn b (w.alloc (.cells #[.int .i64 r] 3)) 183 #[.pointer (some ⟨w.heap.size, 0, none⟩)] (fun x => x.root == r) := fun W x hu => kForget1_any W _ r x (hu.cell c1 (by simp only; omega))
  have HC : Hid _ := kRemove_any _ b es _ _ _ (h.upd hu1 (fun f => f)) hp enters87
  have HU1 : Hid _ := hu1
  clear h hu1 c1 hp
  go_enter Tryz.func160, Tryz.ntmps160
  go_wp2_with fail
  refine Calls.mono HC.out ?_
  rintro e w2 ⟨rfl, hc2, hu2⟩
  have HC2 : Hid (CaL w2 b (flt (fun x => x.root == r) es)) := hc2
  have HU2 : Hid _ := HU1.out.free.trans hu2 (fun _ _ e => e)
  clear hc2 hu2 HC HU1
  generalize hk : es.length - (flt (fun x => x.root == r) es).length = k
  have HK : Hid _ := hk
  clear hk
  go_wp2_with fail
  go_ret
  exact ⟨by rw [HK.out]; rfl, HC2.out, HU2.out⟩
theorem kFind_yes (w : World) (b : Nat) (es : List En) (r p : Int) (h : CaL w b es) (k : Nat) (hk : k < es.length) (hi : idxP (isAt r p) es = k) :
    Calls Tryz.prog 174 #[.pointer (some ⟨b, 0, none⟩), .int .i64 r, .int .i64 p] w fun e w' => e = .returned (.tuple #[.agg #[.int .i64 (atE es k).root, .int .i64 (atE es k).page, .int .i64 (atE es k).dest, .bool (atE es k).may, .bool (atE es k).lf.there, .bool (atE es k).lf.wr, .int .i64 (atE es k).lf.fr], .bool true]) ∧ Upd (fun _ => False) w w' := by
  obtain ⟨cur, h, hes⟩ := h
  have hle := h.le
  have hu0 := (Upd.refl (fun _ => False) w).alloc (.cells #[.int .i64 0, .int .i64 0, .int .i64 0, .bool false, .bool false, .bool false, .int .i64 0] 151)
  have HA0 : Hid _ := h.upd hu0 (fun f => f)
  have hz : ∀ j, (w.alloc (.cells #[.int .i64 0, .int .i64 0, .int .i64 0, .bool false, .bool false, .bool false, .int .i64 0] 151)).cell? ⟨w.heap.size, j, none⟩ = (enCells en0)[j]? := fun j => by
    rw [World.cell?_alloc_new]
    show (enCells en0).toArray[j]? = _
    simp
  have hzf : ∀ j, (w.alloc (.cells #[.int .i64 0, .int .i64 0, .int .i64 0, .bool false, .bool false, .bool false, .int .i64 0] 151)).frozen? ⟨w.heap.size, j, none⟩ = false := fun j => World.frozen?_alloc_new _ _ _ _
  have HZ : Hid _ := hz
  have HZF : Hid _ := hzf
  have HU0 : Hid _ := hu0
  have HE : Hid _ := hes
  have HI : Hid _ := hi
  have hsz : (w.alloc (.cells #[.int .i64 0, .int .i64 0, .int .i64 0, .bool false, .bool false, .bool false, .int .i64 0] 151)).heap.size = w.heap.size + 1 := by simp
  have HSZ : Hid _ := hsz
  clear h hes hu0 hi hsz hz hzf
  go_enter Tryz.func174, Tryz.ntmps174
  go_wp2_with fail
  refine (kLive_any _ b cur es.length HA0.out).mono ?_
  rintro e w1 ⟨rfl, m, rfl⟩
  have hu1 := HU0.out.drewN m
  have HU1 : Hid _ := hu1
  have HA1 : Hid _ := HA0.out.upd ((Upd.refl (fun _ => False) _).drewN m) (fun f => f)
  clear hu1
  go_wp2_with fail
  refine (kOf_pred _ b HA1.out.lt r p).mono ?_
  rintro e w2 ⟨lb, rfl, hp, hu2⟩
  have HP : Hid (PredOn b w2 197 lb (isAt r p)) := hp
  have HU2 : Hid _ := hu2
  clear hp hu2
  go_wp2_with fail
  refine (kIndex_any w2 b cur es _ lb _ (HA1.out.upd HU2.out (fun f => f)) HE.out HP.out enters91).mono ?_
  rintro e w3 ⟨rfl, hu3⟩
  have hu4 := ((Upd.refl (fun _ => False) (w.alloc (.cells #[.int .i64 0, .int .i64 0, .int .i64 0, .bool false, .bool false, .bool false, .int .i64 0] 151))).drewN m).trans (HU2.out.trans hu3 (fun _ _ f => f)) (fun _ _ f => f)
  have HU4 : Hid _ := hu4
  have q0 := hu4.cell (show _ = some (.int .i64 0) from HZ.out 0) (fun f => f)
  have q1 := hu4.cell (show _ = some (.int .i64 0) from HZ.out 1) (fun f => f)
  have q2 := hu4.cell (show _ = some (.int .i64 0) from HZ.out 2) (fun f => f)
  have q3 := hu4.cell (show _ = some (.bool false) from HZ.out 3) (fun f => f)
  have q4 := hu4.cell (show _ = some (.bool false) from HZ.out 4) (fun f => f)
  have q5 := hu4.cell (show _ = some (.bool false) from HZ.out 5) (fun f => f)
  have q6 := hu4.cell (show _ = some (.int .i64 0) from HZ.out 6) (fun f => f)
  have qf : ∀ j, w3.frozen? ⟨w.heap.size, j, none⟩ = false := fun j => by rw [World.frozen?_of_block (hu4.block w.heap.size (by rw [HSZ.out]; omega) (fun f => f))]; exact HZF.out j
  have hA4 := HA0.out.upd hu4 (fun f => f)
  have ek := HE.out k hk
  have c0 : w3.cell? ⟨b, k * 7, none⟩ = some (.int .i64 (atE es k).root) := by have := hA4.cells k 0 (by omega) (by omega); rw [ek] at this; exact this
  have c1 : w3.cell? ⟨b, k * 7 + 1, none⟩ = some (.int .i64 (atE es k).page) := by have := hA4.cells k 1 (by omega) (by omega); rw [ek] at this; exact this
  have c2 : w3.cell? ⟨b, k * 7 + 2, none⟩ = some (.int .i64 (atE es k).dest) := by have := hA4.cells k 2 (by omega) (by omega); rw [ek] at this; exact this
  have c3 : w3.cell? ⟨b, k * 7 + 3, none⟩ = some (.bool (atE es k).may) := by have := hA4.cells k 3 (by omega) (by omega); rw [ek] at this; exact this
  have c4 : w3.cell? ⟨b, k * 7 + 4, none⟩ = some (.bool (atE es k).lf.there) := by have := hA4.cells k 4 (by omega) (by omega); rw [ek] at this; exact this
  have c5 : w3.cell? ⟨b, k * 7 + 5, none⟩ = some (.bool (atE es k).lf.wr) := by have := hA4.cells k 5 (by omega) (by omega); rw [ek] at this; exact this
  have c6 : w3.cell? ⟨b, k * 7 + 6, none⟩ = some (.int .i64 (atE es k).lf.fr) := by have := hA4.cells k 6 (by omega) (by omega); rw [ek] at this; exact this
  have kk0 : (0 : Int) ≤ (k : Int) := by omega
  have kk4 : (k : Int) < 4 := by omega
  have kn : decide ((k : Int) < 0) = false := by simp
  rw [HI.out]
  generalize hx : atE es k = x at *
  have HX : Hid _ := hx
  clear hx hu4 hA4 ek hu3 HP HU2 HA1 HU1 HE HI HSZ HZ HZF HA0
  go_wp2_with fail
  refine bodyPost_ret (v := .tuple #[.agg #[.int .i64 x.root, .int .i64 x.page, .int .i64 x.dest, .bool x.may, .bool x.lf.there, .bool x.lf.wr, .int .i64 x.lf.fr], .bool true]) (by simp [results, Tryz.results174, go_sem, q0, q1, q2, q3, q4, q5, q6]) rfl ⟨by rw [HX.out], ?_⟩
  have := HU0.out.trans HU4.out (fun _ _ f => f)
  refine this.trans (T := fun k => k = w.heap.size) (Upd.row w3 w.heap.size 0 (enCells x)) (fun i hi e => by subst e; omega)
end Go.Proofs.YtadpibcgjgcjhabGreatDoor
/- Package cache: Find of what isn't there, Copy, Put, Point. -/
namespace Go.Proofs.YtadpibcgjgcjhabGreatDoor
open Go.ChangeShapes Go.WideShapes Go.ChangeAt Go.RowKit
set_option maxRecDepth 100000
attribute [local go_sem ↓] Go.wp_at_zero Go.wp_at_succ

theorem kFind_no (w : World) (b : Nat) (es : List En) (r p : Int) (h : CaL w b es) (hi : idxP (isAt r p) es = -1) :
    Calls Tryz.prog 174 #[.pointer (some ⟨b, 0, none⟩), .int .i64 r, .int .i64 p] w fun e w' => e = .returned (.tuple #[.agg #[.int .i64 0, .int .i64 0, .int .i64 0, .bool false, .bool false, .bool false, .int .i64 0], .bool false]) ∧ Upd (fun _ => False) w w' := by
  obtain ⟨cur, h, hes⟩ := h
  have hle := h.le
  have hu0 := (Upd.refl (fun _ => False) w).alloc (.cells #[.int .i64 0, .int .i64 0, .int .i64 0, .bool false, .bool false, .bool false, .int .i64 0] 151)
  have HA0 : Hid _ := h.upd hu0 (fun f => f)
  have hz : ∀ j, (w.alloc (.cells #[.int .i64 0, .int .i64 0, .int .i64 0, .bool false, .bool false, .bool false, .int .i64 0] 151)).cell? ⟨w.heap.size, j, none⟩ = (enCells en0)[j]? := fun j => by
    rw [World.cell?_alloc_new]
    show (enCells en0).toArray[j]? = _
    simp
  have hzf : ∀ j, (w.alloc (.cells #[.int .i64 0, .int .i64 0, .int .i64 0, .bool false, .bool false, .bool false, .int .i64 0] 151)).frozen? ⟨w.heap.size, j, none⟩ = false := fun j => World.frozen?_alloc_new _ _ _ _
  have HZ : Hid _ := hz
  have HZF : Hid _ := hzf
  have HU0 : Hid _ := hu0
  have HE : Hid _ := hes
  have HI : Hid _ := hi
  have hsz : (w.alloc (.cells #[.int .i64 0, .int .i64 0, .int .i64 0, .bool false, .bool false, .bool false, .int .i64 0] 151)).heap.size = w.heap.size + 1 := by simp
  have HSZ : Hid _ := hsz
  clear h hes hu0 hi hsz hz hzf
  go_enter Tryz.func174, Tryz.ntmps174
  go_wp2_with fail
  refine (kLive_any _ b cur es.length HA0.out).mono ?_
  rintro e w1 ⟨rfl, m, rfl⟩
  have hu1 := HU0.out.drewN m
  have HU1 : Hid _ := hu1
  have HA1 : Hid _ := HA0.out.upd ((Upd.refl (fun _ => False) _).drewN m) (fun f => f)
  clear hu1
  go_wp2_with fail
  refine (kOf_pred _ b HA1.out.lt r p).mono ?_
  rintro e w2 ⟨lb, rfl, hp, hu2⟩
  have HP : Hid (PredOn b w2 197 lb (isAt r p)) := hp
  have HU2 : Hid _ := hu2
  clear hp hu2
  go_wp2_with fail
  refine (kIndex_any w2 b cur es _ lb _ (HA1.out.upd HU2.out (fun f => f)) HE.out HP.out enters91).mono ?_
  rintro e w3 ⟨rfl, hu3⟩
  have hu4 := ((Upd.refl (fun _ => False) (w.alloc (.cells #[.int .i64 0, .int .i64 0, .int .i64 0, .bool false, .bool false, .bool false, .int .i64 0] 151))).drewN m).trans (HU2.out.trans hu3 (fun _ _ f => f)) (fun _ _ f => f)
  have HU4 : Hid _ := hu4
  have q0 := hu4.cell (show _ = some (.int .i64 0) from HZ.out 0) (fun f => f)
  have q1 := hu4.cell (show _ = some (.int .i64 0) from HZ.out 1) (fun f => f)
  have q2 := hu4.cell (show _ = some (.int .i64 0) from HZ.out 2) (fun f => f)
  have q3 := hu4.cell (show _ = some (.bool false) from HZ.out 3) (fun f => f)
  have q4 := hu4.cell (show _ = some (.bool false) from HZ.out 4) (fun f => f)
  have q5 := hu4.cell (show _ = some (.bool false) from HZ.out 5) (fun f => f)
  have q6 := hu4.cell (show _ = some (.int .i64 0) from HZ.out 6) (fun f => f)
  have qf : ∀ j, w3.frozen? ⟨w.heap.size, j, none⟩ = false := fun j => by rw [World.frozen?_of_block (hu4.block w.heap.size (by rw [HSZ.out]; omega) (fun f => f))]; exact HZF.out j
  rw [HI.out]
  clear hu4 hu3 HP HU2 HA1 HU1 HE HI HSZ HZ HZF HA0
  go_wp2_with fail
  refine bodyPost_ret (v := .tuple #[.agg #[.int .i64 0, .int .i64 0, .int .i64 0, .bool false, .bool false, .bool false, .int .i64 0], .bool false]) (by simp [results, Tryz.results174, go_sem, q0, q1, q2, q3, q4, q5, q6]) rfl ⟨rfl, ?_⟩
  have := HU0.out.trans HU4.out (fun _ _ f => f)
  refine this.trans (T := fun k => k = w.heap.size) (Upd.row w3 w.heap.size 0 (enCells en0)) (fun i hi e => by subst e; omega)
/-- The cells of a cache, in their order. -/
def caCells (c : Nat → En) (n : Nat) : List Value := enCells (c 0) ++ enCells (c 1) ++ enCells (c 2) ++ enCells (c 3) ++ [.int .i64 n]
theorem caCells_get (c : Nat → En) (n i j : Nat) (hi : i < 4) (hj : j < 7) : (caCells c n)[i * 7 + j]? = (enCells (c i))[j]? := by
  rcases i with _ | _ | _ | _ | i
  all_goals first | omega | (rcases j with _ | _ | _ | _ | _ | _ | _ | j; all_goals first | rfl | omega)
theorem CaAt.of_range {w : World} {b : Nat} {c : Nat → En} {n : Nat} (h : w.rangeAt b 0 (caCells c n)) (hf : ∀ o, w.frozen? ⟨b, o, none⟩ = false) (hn : n ≤ 4) : CaAt w b c n where
  cells := fun i j hi hj => by
    obtain ⟨v, hv⟩ := enCells_some (c i) j hj
    have := h (i * 7 + j) v ((caCells_get c n i j hi hj).trans hv)
    rw [Nat.zero_add] at this
    rw [this, hv]
  cnt := h 28 _ rfl
  fz := hf
  le := hn
def zeroCa : Array Value := #[.int .i64 0, .int .i64 0, .int .i64 0, .bool false, .bool false, .bool false, .int .i64 0, .int .i64 0, .int .i64 0, .int .i64 0, .bool false, .bool false, .bool false, .int .i64 0, .int .i64 0, .int .i64 0, .int .i64 0, .bool false, .bool false, .bool false, .int .i64 0, .int .i64 0, .int .i64 0, .int .i64 0, .bool false, .bool false, .bool false, .int .i64 0, .int .i64 0]
theorem zeroCa_is : zeroCa = (caCells (fun _ => en0) 0).toArray := rfl
theorem zero_at (w : World) (ty : TypeId) : CaAt (w.alloc (.cells zeroCa ty)) w.heap.size (fun _ => en0) 0 :=
  CaAt.of_range (fun j v hv => by rw [Nat.zero_add, World.cell?_alloc_new, zeroCa_is, ← hv]; simp) (fun o => World.frozen?_alloc_new _ _ _ _) (by omega)
end Go.Proofs.YtadpibcgjgcjhabGreatDoor
/- Package cache: Put. -/
namespace Go.Proofs.YtadpibcgjgcjhabGreatDoor
open Go.ChangeShapes Go.WideShapes Go.ChangeAt Go.RowKit
set_option maxRecDepth 100000
attribute [local go_sem ↓] Go.wp_at_zero Go.wp_at_succ

/-- Put as the program does it, plainly. -/
def cut1 (l : List En) : List En := if l.length = 4 then flt (isAt (atE l 0).root (atE l 0).page) l else l
def putK (es : List En) (x : En) : List En := cut1 (flt (isAt x.root x.page) es) ++ [x]
theorem flt_first (l : List En) (h : 0 < l.length) : (flt (isAt (atE l 0).root (atE l 0).page) l).length < l.length := by
  rcases l with _ | ⟨e, l⟩
  · simp at h
  · have hx : isAt (atE (e :: l) 0).root (atE (e :: l) 0).page e = true := by simp [isAt, atE]
    have := List.length_filter_le (fun y => !isAt (atE (e :: l) 0).root (atE (e :: l) 0).page y) l
    unfold flt
    rw [List.filter_cons_of_neg (by rw [hx]; simp)]
    simp only [List.length_cons]
    omega
theorem cut1_length (l : List En) (h : l.length ≤ 4) : (cut1 l).length ≤ 3 := by
  unfold cut1
  split
  · next h4 => have := flt_first l (by omega); omega
  · omega
theorem CaL.of {w : World} {b : Nat} {c : Nat → En} {es : List En} {n : Nat} (h : CaAt w b c n) (hn : n = es.length) (hes : ∀ i, i < es.length → c i = atE es i) : CaL w b es := ⟨c, by rw [← hn]; exact h, hes⟩
theorem atE_snoc (l : List En) (x : En) (c : Nat → En) (h : ∀ i, i < l.length → c i = atE l i) : ∀ i, i < (l ++ [x]).length → setAt c l.length x i = atE (l ++ [x]) i := by
  intro i hi
  rw [List.length_append] at hi
  by_cases e : i = l.length
  · subst e
    simp [setAt, atE, List.getD_eq_getElem?_getD]
  · have hlt : i < l.length := by simp at hi; omega
    rw [setAt_other _ _ _ _ e, h i hlt]
    simp [atE, List.getD_eq_getElem?_getD, List.getElem?_append_left hlt]
/-- The last of it: the entry is laid behind all. -/
theorem kPut_any (w : World) (b : Nat) (es : List En) (x : En) (h : CaL w b es) :
    Calls Tryz.prog 194 #[.pointer (some ⟨b, 0, none⟩), .agg #[.int .i64 x.root, .int .i64 x.page, .int .i64 x.dest, .bool x.may, .bool x.lf.there, .bool x.lf.wr, .int .i64 x.lf.fr]] w fun e w' => e = .returned (.tuple #[]) ∧ CaL w' b (putK es x) ∧ Upd (fun k => k = b) w w' := by
  have hlt := h.lt
  have hu0 := (Upd.refl (fun _ => False) w).alloc (.cells #[.int .i64 x.root, .int .i64 x.page, .int .i64 x.dest, .bool x.may, .bool x.lf.there, .bool x.lf.wr, .int .i64 x.lf.fr] 151)
  have hq : ∀ j, (w.alloc (.cells #[.int .i64 x.root, .int .i64 x.page, .int .i64 x.dest, .bool x.may, .bool x.lf.there, .bool x.lf.wr, .int .i64 x.lf.fr] 151)).cell? ⟨w.heap.size, j, none⟩ = (enCells x)[j]? := fun j => by
    rw [World.cell?_alloc_new]
    show (enCells x).toArray[j]? = _
    simp
  have HQ : Hid _ := hq
  have HU0 : Hid _ := hu0
  have HH : Hid (CaL _ b es) := h.upd hu0 (fun f => f)
  clear h hu0 hq
  go_enter Tryz.func194, Tryz.ntmps194
  go_wp2_with fail
  refine (kDrop_any _ b es x.root x.page HH.out).mono ?_
  rintro e w1 ⟨rfl, hc1, hu1⟩
  have hput : putK es x = cut1 (flt (isAt x.root x.page) es) ++ [x] := rfl
  have HPU : Hid _ := hput
  have hl1 := hc1.le
  have hu01 := HU0.out.free.trans hu1 (fun _ _ e => e)
  have q0 := hu1.cell (show _ = some (.int .i64 x.root) from HQ.out 0) (by simp only; omega)
  have q1 := hu1.cell (show _ = some (.int .i64 x.page) from HQ.out 1) (by simp only; omega)
  have q2 := hu1.cell (show _ = some (.int .i64 x.dest) from HQ.out 2) (by simp only; omega)
  have q3 := hu1.cell (show _ = some (.bool x.may) from HQ.out 3) (by simp only; omega)
  have q4 := hu1.cell (show _ = some (.bool x.lf.there) from HQ.out 4) (by simp only; omega)
  have q5 := hu1.cell (show _ = some (.bool x.lf.wr) from HQ.out 5) (by simp only; omega)
  have q6 := hu1.cell (show _ = some (.int .i64 x.lf.fr) from HQ.out 6) (by simp only; omega)
  have hc1' := hc1
  obtain ⟨c, hca, hce⟩ := hc1'
  have n0 := hca.cnt
  have HC1 : Hid (CaL w1 b (flt (isAt x.root x.page) es)) := hc1
  have HCA : Hid _ := hca
  have HCE : Hid _ := hce
  have HU1 : Hid _ := hu01
  clear hput HQ HU0 HH hu01 hu1 hc1 hca hce
  generalize flt (isAt x.root x.page) es = l at *
  generalize hdd : decide ((0 : Int) < ((es.length - l.length : Nat) : Int)) = dd
  clear hdd
  by_cases h4 : l.length = 4
  · have hb4 : (((l.length : Nat) : Int) == 4) = true := by rw [h4]; rfl
    have e0 := HCE.out 0 (by omega)
    have hA := HCA.out
    have c0 : w1.cell? ⟨b, 0, none⟩ = some (.int .i64 (atE l 0).root) := by have := hA.cells 0 0 (by omega) (by omega); rw [e0] at this; exact this
    have c1 : w1.cell? ⟨b, 1, none⟩ = some (.int .i64 (atE l 0).page) := by have := hA.cells 0 1 (by omega) (by omega); rw [e0] at this; exact this
    have c2 : w1.cell? ⟨b, 2, none⟩ = some (.int .i64 (atE l 0).dest) := by have := hA.cells 0 2 (by omega) (by omega); rw [e0] at this; exact this
    have c3 : w1.cell? ⟨b, 3, none⟩ = some (.bool (atE l 0).may) := by have := hA.cells 0 3 (by omega) (by omega); rw [e0] at this; exact this
    have c4 : w1.cell? ⟨b, 4, none⟩ = some (.bool (atE l 0).lf.there) := by have := hA.cells 0 4 (by omega) (by omega); rw [e0] at this; exact this
    have c5 : w1.cell? ⟨b, 5, none⟩ = some (.bool (atE l 0).lf.wr) := by have := hA.cells 0 5 (by omega) (by omega); rw [e0] at this; exact this
    have c6 : w1.cell? ⟨b, 6, none⟩ = some (.int .i64 (atE l 0).lf.fr) := by have := hA.cells 0 6 (by omega) (by omega); rw [e0] at this; exact this
    have hcut : cut1 l = flt (isAt (atE l 0).root (atE l 0).page) l := by unfold cut1; rw [if_pos h4]
    have HCUT : Hid _ := hcut
    clear hcut hA e0
    generalize atE l 0 = y at *
    have hu2 := (Upd.refl (fun _ => False) w1).alloc (.cells #[.int .i64 y.root, .int .i64 y.page, .int .i64 y.dest, .bool y.may, .bool y.lf.there, .bool y.lf.wr, .int .i64 y.lf.fr] 151)
    have HU2 : Hid _ := hu2
    clear hu2
    go_wp2_with fail
    refine (kDrop_any _ b l y.root y.page (HC1.out.upd HU2.out (fun f => f))).mono ?_
    rintro e w2 ⟨rfl, hc2, hu2⟩
    have hu12 := HU2.out.free.trans hu2 (fun _ _ e => e)
    have HU3 : Hid _ := HU1.out.trans hu12 (fun _ _ e => e)
    have q0 := hu12.cell q0 (by simp only; omega)
    have q1 := hu12.cell q1 (by simp only; omega)
    have q2 := hu12.cell q2 (by simp only; omega)
    have q3 := hu12.cell q3 (by simp only; omega)
    have q4 := hu12.cell q4 (by simp only; omega)
    have q5 := hu12.cell q5 (by simp only; omega)
    have q6 := hu12.cell q6 (by simp only; omega)
    have hle := cut1_length l hl1
    rw [HCUT.out] at hle
    rw [HCUT.out] at HPU
    generalize hdd : decide ((0 : Int) < ((l.length - (flt (isAt y.root y.page) l).length : Nat) : Int)) = d2
    clear hdd hu2 hu12 c0 c1 c2 c3 c4 c5 c6 n0 HC1 HCA HCE HU1 HU2 HCUT hb4 h4 hl1
    generalize flt (isAt y.root y.page) l = z at *
    obtain ⟨c, hca, hce⟩ := hc2
    have n0 := hca.cnt
    have fz := hca.fz
    have e0 : w2.cell? ⟨b, z.length * 7, none⟩ = some (.int .i64 (c z.length).root) := hca.cells z.length 0 (by omega) (by omega)
    have e1 : w2.cell? ⟨b, z.length * 7 + 1, none⟩ = some (.int .i64 (c z.length).page) := hca.cells z.length 1 (by omega) (by omega)
    have e2 : w2.cell? ⟨b, z.length * 7 + 2, none⟩ = some (.int .i64 (c z.length).dest) := hca.cells z.length 2 (by omega) (by omega)
    have e3 : w2.cell? ⟨b, z.length * 7 + 3, none⟩ = some (.bool (c z.length).may) := hca.cells z.length 3 (by omega) (by omega)
    have e4 : w2.cell? ⟨b, z.length * 7 + 4, none⟩ = some (.bool (c z.length).lf.there) := hca.cells z.length 4 (by omega) (by omega)
    have e5 : w2.cell? ⟨b, z.length * 7 + 5, none⟩ = some (.bool (c z.length).lf.wr) := hca.cells z.length 5 (by omega) (by omega)
    have e6 : w2.cell? ⟨b, z.length * 7 + 6, none⟩ = some (.int .i64 (c z.length).lf.fr) := hca.cells z.length 6 (by omega) (by omega)
    have i0 : (0 : Int) ≤ (z.length : Int) := by omega
    have i1 : (z.length : Int) < 4 := by omega
    have HCA : Hid _ := hca
    have HCE : Hid _ := hce
    clear hca hce
    generalize c z.length = o at e0 e1 e2 e3 e4 e5 e6
    go_wp2_with fail
    go_region
    have hA := HCA.out.set7 (i := z.length) (by omega) x
    have hU := Upd.set7 w2 b z.length x
    revert hA hU
    generalize (((((((w2.setCell ⟨b, z.length * 7, none⟩ (.int .i64 x.root)).setCell ⟨b, z.length * 7 + 1, none⟩ (.int .i64 x.page)).setCell ⟨b, z.length * 7 + 2, none⟩ (.int .i64 x.dest)).setCell ⟨b, z.length * 7 + 3, none⟩ (.bool x.may)).setCell ⟨b, z.length * 7 + 4, none⟩ (.bool x.lf.there)).setCell ⟨b, z.length * 7 + 5, none⟩ (.bool x.lf.wr)).setCell ⟨b, z.length * 7 + 6, none⟩ (.int .i64 x.lf.fr)) = w7
    intro hA hU
    have n1 : w7.drew.cell? ⟨b, 28, none⟩ = some (.int .i64 z.length) := hA.cnt
    have f1 : w7.drew.frozen? ⟨b, 28, none⟩ = false := hA.fz 28
    have HA : Hid _ := hA.upd ((Upd.refl (fun _ => False) w7).drew) (fun f => f)
    have HU : Hid _ := HU3.out.trans hU.drew (fun _ _ e => e)
    clear hA hU n0 fz e0 e1 e2 e3 e4 e5 e6 q0 q1 q2 q3 q4 q5 q6
    go_wp2_with fail
    go_end0
    refine ⟨by first | rfl | trivial, ?_, HU.out.trans (Upd.one _ _ _ _) (fun _ _ e => e)⟩
    rw [HPU.out]
    exact CaL.of (HA.out.setCnt (z.length + 1) (by omega)) (by simp) (atE_snoc z x c HCE.out)
  · have hb4 : (((l.length : Nat) : Int) == 4) = false := beq_eq_false_iff_ne.2 (by omega)
    have hcut : cut1 l = l := by unfold cut1; rw [if_neg h4]
    rw [hcut] at HPU
    have HU3 : Hid _ := HU1.out
    have hle : l.length ≤ 3 := by omega
    have hc2 := HC1.out
    clear hcut n0 HC1 HCA HCE HU1 hl1 h4
    generalize l = z at *
    generalize w1 = w2 at *
    obtain ⟨c, hca, hce⟩ := hc2
    have n0 := hca.cnt
    have fz := hca.fz
    have e0 : w2.cell? ⟨b, z.length * 7, none⟩ = some (.int .i64 (c z.length).root) := hca.cells z.length 0 (by omega) (by omega)
    have e1 : w2.cell? ⟨b, z.length * 7 + 1, none⟩ = some (.int .i64 (c z.length).page) := hca.cells z.length 1 (by omega) (by omega)
    have e2 : w2.cell? ⟨b, z.length * 7 + 2, none⟩ = some (.int .i64 (c z.length).dest) := hca.cells z.length 2 (by omega) (by omega)
    have e3 : w2.cell? ⟨b, z.length * 7 + 3, none⟩ = some (.bool (c z.length).may) := hca.cells z.length 3 (by omega) (by omega)
    have e4 : w2.cell? ⟨b, z.length * 7 + 4, none⟩ = some (.bool (c z.length).lf.there) := hca.cells z.length 4 (by omega) (by omega)
    have e5 : w2.cell? ⟨b, z.length * 7 + 5, none⟩ = some (.bool (c z.length).lf.wr) := hca.cells z.length 5 (by omega) (by omega)
    have e6 : w2.cell? ⟨b, z.length * 7 + 6, none⟩ = some (.int .i64 (c z.length).lf.fr) := hca.cells z.length 6 (by omega) (by omega)
    have i0 : (0 : Int) ≤ (z.length : Int) := by omega
    have i1 : (z.length : Int) < 4 := by omega
    have HCA : Hid _ := hca
    have HCE : Hid _ := hce
    clear hca hce
    generalize c z.length = o at e0 e1 e2 e3 e4 e5 e6
    go_wp2_with fail
    go_region
    have hA := HCA.out.set7 (i := z.length) (by omega) x
    have hU := Upd.set7 w2 b z.length x
    revert hA hU
    generalize (((((((w2.setCell ⟨b, z.length * 7, none⟩ (.int .i64 x.root)).setCell ⟨b, z.length * 7 + 1, none⟩ (.int .i64 x.page)).setCell ⟨b, z.length * 7 + 2, none⟩ (.int .i64 x.dest)).setCell ⟨b, z.length * 7 + 3, none⟩ (.bool x.may)).setCell ⟨b, z.length * 7 + 4, none⟩ (.bool x.lf.there)).setCell ⟨b, z.length * 7 + 5, none⟩ (.bool x.lf.wr)).setCell ⟨b, z.length * 7 + 6, none⟩ (.int .i64 x.lf.fr)) = w7
    intro hA hU
    have n1 : w7.drew.cell? ⟨b, 28, none⟩ = some (.int .i64 z.length) := hA.cnt
    have f1 : w7.drew.frozen? ⟨b, 28, none⟩ = false := hA.fz 28
    have HA : Hid _ := hA.upd ((Upd.refl (fun _ => False) w7).drew) (fun f => f)
    have HU : Hid _ := HU3.out.trans hU.drew (fun _ _ e => e)
    clear hA hU n0 fz e0 e1 e2 e3 e4 e5 e6 q0 q1 q2 q3 q4 q5 q6
    go_wp2_with fail
    go_end0
    refine ⟨by first | rfl | trivial, ?_, HU.out.trans (Upd.one _ _ _ _) (fun _ _ e => e)⟩
    rw [HPU.out]
    exact CaL.of (HA.out.setCnt (z.length + 1) (by omega)) (by simp) (atE_snoc z x c HCE.out)
end Go.Proofs.YtadpibcgjgcjhabGreatDoor
/- Package cache: Point. -/
namespace Go.Proofs.YtadpibcgjgcjhabGreatDoor
open Go.ChangeShapes Go.WideShapes Go.ChangeAt Go.RowKit
set_option maxRecDepth 100000
attribute [local go_sem ↓] Go.wp_at_zero Go.wp_at_succ

def lfCells (l : Lf) : List Value := [.bool l.there, .bool l.wr, .int .i64 l.fr]
theorem CaAt.setLf {w : World} {b : Nat} {cur : Nat → En} {n : Nat} (h : CaAt w b cur n) {i : Nat} (hi : i < 4) (l : Lf) :
    CaAt (((w.setCell ⟨b, i * 7 + 4, none⟩ (.bool l.there)).setCell ⟨b, i * 7 + 4 + 1, none⟩ (.bool l.wr)).setCell ⟨b, i * 7 + 4 + 2, none⟩ (.int .i64 l.fr)) b (setAt cur i { cur i with lf := l }) n := by
  have hw : (((w.setCell ⟨b, i * 7 + 4, none⟩ (.bool l.there)).setCell ⟨b, i * 7 + 4 + 1, none⟩ (.bool l.wr)).setCell ⟨b, i * 7 + 4 + 2, none⟩ (.int .i64 l.fr)) = w.setCells b (i * 7 + 4) (lfCells l) := rfl
  rw [hw]
  have h3 : (lfCells l).length = 3 := rfl
  refine ⟨fun k j hk hj => ?_, ?_, fun o => by rw [World.frozen?_setCells]; exact h.fz o, h.le⟩
  · by_cases e : k = i
    · subst e
      rw [setAt_same]
      by_cases hj4 : j < 4
      · rw [World.cell?_setCells_out _ _ _ _ _ (fun _ _ => by simp only [h3]; omega), h.cells k j hk hj]
        rcases j with _ | _ | _ | _ | j
        all_goals first | rfl | omega
      · obtain ⟨v, hv⟩ : ∃ v, (lfCells l)[j - 4]? = some v := ⟨_, List.getElem?_eq_getElem (show j - 4 < (lfCells l).length by omega)⟩
        have := World.rangeAt_setCells_same w b (k * 7 + 4) (lfCells l) (fun o ho => h.there _ (by omega)) (j - 4) v hv
        rw [show k * 7 + 4 + (j - 4) = k * 7 + j by omega] at this
        rw [this, ← hv]
        obtain ⟨t, rfl⟩ : ∃ t, j = t + 4 := ⟨j - 4, by omega⟩
        rw [Nat.add_sub_cancel]
        rcases t with _ | _ | _ | t
        all_goals first | rfl | omega
    · rw [World.cell?_setCells_out _ _ _ _ _ (fun _ _ => by simp only [h3]; omega), h.cells k j hk hj, setAt_other _ _ _ _ e]
  · rw [World.cell?_setCells_out _ _ _ _ _ (fun _ _ => by simp only [h3]; omega)]; exact h.cnt
theorem Upd.setLf (w : World) (b i : Nat) (l : Lf) : Upd (fun k => k = b) w (((w.setCell ⟨b, i * 7 + 4, none⟩ (.bool l.there)).setCell ⟨b, i * 7 + 4 + 1, none⟩ (.bool l.wr)).setCell ⟨b, i * 7 + 4 + 2, none⟩ (.int .i64 l.fr)) := Upd.row w b (i * 7 + 4) (lfCells l)
theorem pntTo_get (d : Int) (l : Lf) (es : List En) : ∀ k, ∀ t, t < k → atE (pntTo d l es k) t = pnt d l (atE es t)
  | 0, _, h => absurd h (by omega)
  | k + 1, t, h => by
    have hl := pntTo_length d l es k
    unfold pntTo
    by_cases e : t = k
    · subst e
      simp [atE, List.getD_eq_getElem?_getD, hl]
    · have := pntTo_get d l es k t (by omega)
      rw [← this]
      simp [atE, List.getD_eq_getElem?_getD, List.getElem?_append_left (show t < (pntTo d l es k).length by omega)]
theorem kPoint_any (w : World) (b : Nat) (es : List En) (d : Int) (l : Lf) (h : CaL w b es) :
    Calls Tryz.prog 146 #[.pointer (some ⟨b, 0, none⟩), .int .i64 d, .agg #[.bool l.there, .bool l.wr, .int .i64 l.fr]] w fun e w' => e = .returned (.int .i64 (pntN d es es.length)) ∧ CaL w' b (pntTo d l es es.length) ∧ Upd (fun k => k = b) w w' := by
  obtain ⟨cur, h, hes⟩ := h
  have hle := h.le
  have hlt := h.lt
  have u0 := (Upd.refl (fun _ => False) w).alloc (.cells #[.bool l.there, .bool l.wr, .int .i64 l.fr] 92)
  have p0 : (w.alloc (.cells #[.bool l.there, .bool l.wr, .int .i64 l.fr] 92)).cell? ⟨w.heap.size, 0, none⟩ = some (.bool l.there) := by rw [World.cell?_alloc_new]; rfl
  have p1 : (w.alloc (.cells #[.bool l.there, .bool l.wr, .int .i64 l.fr] 92)).cell? ⟨w.heap.size, 1, none⟩ = some (.bool l.wr) := by rw [World.cell?_alloc_new]; rfl
  have p2 : (w.alloc (.cells #[.bool l.there, .bool l.wr, .int .i64 l.fr] 92)).cell? ⟨w.heap.size, 2, none⟩ = some (.int .i64 l.fr) := by rw [World.cell?_alloc_new]; rfl
  have HA0 : Hid _ := h.upd u0 (fun f => f)
  have HE : Hid _ := hes
  have U0 : Hid _ := u0
  have P0 : Hid _ := p0
  have P1 : Hid _ := p1
  have P2 : Hid _ := p2
  clear h hes u0 p0 p1 p2
  go_enter Tryz.func146, Tryz.ntmps146
  go_wp2_with fail
  refine (kLive_any _ b cur es.length HA0.out).mono ?_
  rintro e w1 ⟨rfl, m, rfl⟩
  have u1 := (Upd.refl (fun _ => False) (w.alloc (.cells #[.bool l.there, .bool l.wr, .int .i64 l.fr] 92))).drewN m
  have p0 := u1.cell P0.out (fun f => f)
  have p1 := u1.cell P1.out (fun f => f)
  have p2 := u1.cell P2.out (fun f => f)
  have HA1 : Hid _ := HA0.out.upd u1 (fun f => f)
  have U1 : Hid _ := U0.out.trans u1 (fun _ _ f => f)
  clear u1 U0 HA0 P0 P1 P2
  revert p0 p1 p2 HA1 U1
  generalize (w.alloc (.cells #[.bool l.there, .bool l.wr, .int .i64 l.fr] 92)).drewN m = w1
  generalize hB : w.heap.size = B
  have HB : Hid _ := hB
  intro p0 p1 p2 HA1 U1
  have hbB : b ≠ B := by omega
  clear hB hlt
  go_wp2_with fail
  go_loopg [7, 14] es.length (fun gg s7 s14 wi => ∃ (k : Nat) (c : Nat → En), k + gg = es.length ∧ s14 = .int .i64 k ∧ s7 = .int .i64 (pntN d es k) ∧ Hid (CaAt wi b c es.length) ∧ Hid (∀ t, t < k → c t = pnt d l (atE es t)) ∧ Hid (∀ t, k ≤ t → t < es.length → c t = atE es t) ∧ Hid (Upd (fun k => k = b) w1 wi))
  case atStart => exact ⟨0, cur, by omega, rfl, rfl, HA1.out, fun t ht => absurd ht (by omega), fun t _ ht => HE.out t ht, Upd.refl _ _⟩
  case round =>
    obtain ⟨k, c, hk, rfl, rfl, HA, HT1, HT2, HU⟩ := hrel
    have HK : Hid _ := hk
    by_cases hlt : k < es.length
    · clear hk
      have hA := HA.out
      have ek := HT2.out k (Nat.le_refl _) hlt
      have fz := hA.fz
      have c2 : wr.cell? ⟨b, k * 7 + 2, none⟩ = some (.int .i64 (atE es k).dest) := by have := hA.cells k 2 (by omega) (by omega); rw [ek] at this; exact this
      have c4 : wr.cell? ⟨b, k * 7 + 4, none⟩ = some (.bool (atE es k).lf.there) := by have := hA.cells k 4 (by omega) (by omega); rw [ek] at this; exact this
      have c5 : wr.cell? ⟨b, k * 7 + 4 + 1, none⟩ = some (.bool (atE es k).lf.wr) := by have := hA.cells k 5 (by omega) (by omega); rw [ek] at this; exact this
      have c6 : wr.cell? ⟨b, k * 7 + 4 + 2, none⟩ = some (.int .i64 (atE es k).lf.fr) := by have := hA.cells k 6 (by omega) (by omega); rw [ek] at this; exact this
      have q0 := HU.out.cell p0 (by simp only; omega)
      have q1 := HU.out.cell p1 (by simp only; omega)
      have q2 := HU.out.cell p2 (by simp only; omega)
      have hN : pntN d es (k + 1) = pntN d es k + if (atE es k).dest == d then 1 else 0 := rfl
      have hle2 := pntN_le d es k
      have HN : Hid _ := hN
      have HEK : Hid _ := ek
      clear hN hA ek p0 p1 p2
      generalize hx : atE es k = x at *
      have HX : Hid _ := hx
      clear hx
      have k0 : (0 : Int) ≤ (k : Int) := by omega
      have k1 : (k : Int) < es.length := by omega
      cases hd : (x.dest == d) with
      | true =>
        rw [hd] at HN
        generalize pntN d es k = v at *
        go_wp2_with fail
        go_roundg (es.length - (k + 1))
        case rel =>
          refine ⟨k + 1, setAt c k { c k with lf := l }, by have := HK.out; omega, by go_num, ?_, HA.out.setLf (by omega) l, (show Hid _ from fun t ht => ?_), (show Hid _ from fun t h1 h2 => ?_), HU.out.trans (Upd.setLf wr b k l) (fun _ _ e => e)⟩
          · rw [HN.out]; simp only [if_true]; first | rfl | go_num | (simp; go_num)
          · by_cases e : t = k
            · subst e
              rw [setAt_same, HEK.out, HX.out]
              simp [pnt, hd]
            · rw [setAt_other _ _ _ _ e]; exact HT1.out t (by omega)
          · rw [setAt_other _ _ _ _ (by omega)]; exact HT2.out t (by omega) h2
        case measure => have := HK.out; omega
      | false =>
        rw [hd] at HN
        generalize pntN d es k = v at *
        go_wp2_with fail
        go_roundg (es.length - (k + 1))
        case rel =>
          refine ⟨k + 1, c, by have := HK.out; omega, by go_num, ?_, HA.out, (show Hid _ from fun t ht => ?_), (show Hid _ from fun t h1 h2 => HT2.out t (by omega) h2), HU.out⟩
          · rw [HN.out]; simp
          · by_cases e : t = k
            · subst e
              rw [HEK.out, HX.out]
              simp [pnt, hd]
            · exact HT1.out t (by omega)
        case measure => have := HK.out; omega
    · have ek : k = es.length := by omega
      subst ek
      clear hk p0 p1 p2
      go_wp2_with fail
      go_ret
      refine ⟨rfl, ?_, (U1.out.free (S := fun k => k = b)).trans HU.out (fun _ _ e => e)⟩
      exact CaL.of HA.out (pntTo_length d l es es.length).symm (fun t ht => by rw [pntTo_length] at ht; rw [pntTo_get d l es es.length t ht]; exact HT1.out t ht)
end Go.Proofs.YtadpibcgjgcjhabGreatDoor
