/- The document's answer for chapter 3: entries as lists, in memory; Find. -/
import Derived.Test.YtadpibcgjgcjhaaPart03
import Derived.Deep.AppendLies
import Derived.Shelf.Abstract
namespace Go.Proofs.Ytadpibcgjgcjhaa
open Go.ChangeShapes Go.WideShapes Go.ChangeAt Go.RowKit
set_option maxRecDepth 100000
attribute [local go_sem ↓] Go.wp_at_zero Go.wp_at_succ

/-- An entry. -/
structure En where
  root : Int
  page : Int
  dest : Int
  may : Bool
  lf : Lf
def en0 : En := ⟨0, 0, 0, false, lf0⟩
def atE (es : List En) (k : Nat) : En := es.getD k en0
def enCells (e : En) : List Value := [.int .i64 e.root, .int .i64 e.page, .int .i64 e.dest, .bool e.may, .bool e.lf.there, .bool e.lf.wr, .int .i64 e.lf.fr]
def enAll : List En → List Value
  | [] => []
  | e :: es => enCells e ++ enAll es
theorem enAll_length : ∀ es : List En, (enAll es).length = es.length * 7
  | [] => rfl
  | e :: es => by
    have := enAll_length es
    simp only [enAll, List.length_append, this, List.length_cons, enCells, List.length_nil]
    omega
theorem enAll_append : ∀ es fs : List En, enAll (es ++ fs) = enAll es ++ enAll fs
  | [], _ => rfl
  | e :: es, fs => by simp [enAll, enAll_append es fs]
theorem enAll_get : ∀ (es : List En) (i j : Nat), i < es.length → j < 7 → (enAll es)[i * 7 + j]? = (enCells (atE es i))[j]?
  | [], _, _, h, _ => absurd h (by simp)
  | e :: es, 0, j, _, hj => by
    rw [Nat.zero_mul, Nat.zero_add]
    show (enCells e ++ enAll es)[j]? = (enCells e)[j]?
    rw [List.getElem?_append_left (show j < (enCells e).length from hj)]
  | e :: es, i + 1, j, h, hj => by
    have := enAll_get es i j (by simpa using h) hj
    rw [show (i + 1) * 7 + j = (enCells e).length + (i * 7 + j) by show _ = 7 + _; omega]
    show (enCells e ++ enAll es)[(enCells e).length + (i * 7 + j)]? = _
    rw [List.getElem?_append_right (Nat.le_add_right _ _), Nat.add_sub_cancel_left, this]
    rfl
theorem enAll_one : ∀ es : List En, ∀ v ∈ enAll es, v.oneCell' = true
  | [], v, h => by simp [enAll] at h
  | e :: es, v, h => by
    simp only [enAll, List.mem_append] at h
    rcases h with h | h
    · simp only [enCells, List.mem_cons, List.not_mem_nil, or_false] at h
      rcases h with rfl | rfl | rfl | rfl | rfl | rfl | rfl <;> rfl
    · exact enAll_one es v h
/-- A list of entries that a slice holds. -/
def SlC (w : World) (base : Nat) (v : Value) (es : List En) : Prop := w.ownsRow base 85 7 v es.length (enAll es)
theorem SlC.nil (w : World) (base : Nat) : SlC w base (.slice none 0 0) [] := World.ownsRow_nil _ _ _ _
theorem SlC.form {w : World} {base : Nat} {v : Value} {es : List En} (h : SlC w base v es) : ∃ a cap, v = .slice a es.length cap ∧ (∀ i, i < es.length → ∃ g, a = some ⟨g, 0, none⟩ ∧ base ≤ g ∧ g < w.heap.size ∧ ∀ j, j < 7 → w.cell? ⟨g, i * 7 + j, none⟩ = (enCells (atE es i))[j]?) := by
  rcases h.2 with ⟨rfl, h0⟩ | ⟨g, cap, cur, rfl, hb, hg, _⟩
  · exact ⟨none, 0, by rw [h0], fun i hi => absurd hi (by omega)⟩
  · refine ⟨some ⟨g, 0, none⟩, cap, rfl, fun i hi => ⟨g, rfl, hb, ?_, fun j hj => ?_⟩⟩
    · rcases Nat.lt_or_ge g w.heap.size with hlt | hge
      · exact hlt
      · rw [Array.getElem?_eq_none hge] at hg; cases hg
    · have e := enAll_get es i j hi hj
      have hlt : i * 7 + j < (enAll es).length := by rw [enAll_length]; omega
      obtain ⟨u, hu⟩ : ∃ u, (enAll es)[i * 7 + j]? = some u := ⟨_, List.getElem?_eq_getElem hlt⟩
      have := World.ownsRow.cells h (g := g) rfl _ _ hu
      rw [Addr.add_mid, Nat.zero_add] at this
      rw [this, ← hu, e]
def isAt (r p : Int) (e : En) : Bool := (e.root == r) && (e.page == p)
def fndI (es : List En) (r p : Int) : Int := match es.findIdx? (isAt r p) with
  | some i => i
  | none => -1
theorem fndI_some {es : List En} {r p : Int} {k : Nat} (hk : k < es.length) (h : isAt r p (atE es k) = true) (hb : ∀ i, i < k → isAt r p (atE es i) = false) : fndI es r p = k := by
  have : es.findIdx? (isAt r p) = some k := by
    rw [List.findIdx?_eq_some_iff_getElem]
    refine ⟨hk, ?_, fun j hj => ?_⟩
    · simpa [atE, List.getD_eq_getElem?_getD, List.getElem?_eq_getElem hk] using h
    · have := hb j hj
      simpa [atE, List.getD_eq_getElem?_getD, List.getElem?_eq_getElem (show j < es.length by omega)] using this
  unfold fndI
  rw [this]
theorem fndI_none {es : List En} {r p : Int} (hb : ∀ i, i < es.length → isAt r p (atE es i) = false) : fndI es r p = -1 := by
  have : es.findIdx? (isAt r p) = none := by
    rw [List.findIdx?_eq_none_iff]
    intro x hx
    obtain ⟨i, hi, rfl⟩ := List.getElem_of_mem hx
    have := hb i hi
    simpa [atE, List.getD_eq_getElem?_getD, List.getElem?_eq_getElem hi] using this
  unfold fndI
  rw [this]
theorem cFind_any (w : World) (base : Nat) (v : Value) (es : List En) (r p : Int) (h : SlC w base v es) (hl : es.length ≤ 100) :
    Calls Try.prog 48 #[v, .int .i64 r, .int .i64 p] w fun e w' => e = .returned (.int .i64 (fndI es r p)) ∧ w' = w := by
  obtain ⟨a, cap, rfl, hc⟩ := h.form
  have HC : Hid _ := hc
  clear hc
  go_enter Try.func48, Try.ntmps48
  go_wp2_with fail
  go_loopg [7] es.length (fun g i wi => ∃ k : Nat, k + g = es.length ∧ i = .int .i64 k ∧ (∀ i, i < k → isAt r p (atE es i) = false) ∧ wi = w)
  case atStart => exact ⟨0, by omega, rfl, fun i hi => absurd hi (by omega), rfl⟩
  case round =>
    obtain ⟨k, hk, rfl, hb, rfl⟩ := hrel
    have HK : Hid _ := hk
    have HB : Hid _ := hb
    clear hb
    by_cases hlt : k < es.length
    · clear hk
      obtain ⟨g, rfl, _, _, hcell⟩ := HC.out k hlt
      have c0 : wr.cell? ⟨g, k * 7, none⟩ = some (.int .i64 (atE es k).root) := hcell 0 (by omega)
      have c1 : wr.cell? ⟨g, k * 7 + 1, none⟩ = some (.int .i64 (atE es k).page) := hcell 1 (by omega)
      clear hcell HC
      have k0 : (0 : Int) ≤ (k : Int) := by omega
      have k1 : (k : Int) < es.length := by omega
      generalize hx : atE es k = x at c0 c1
      have HX : Hid _ := hx
      clear hx
      cases h0 : (x.root == r) with
      | false =>
        go_wp2_with fail
        go_roundg (es.length - (k + 1))
        case rel =>
          refine ⟨k + 1, by omega, by go_num, fun i hi => ?_, rfl⟩
          by_cases e : i = k
          · subst e; rw [HX.out]; simp [isAt, h0]
          · exact HB.out i (by omega)
        case measure => have := HK.out; omega
      | true =>
        cases h1 : (x.page == p) with
        | false =>
          go_wp2_with fail
          go_roundg (es.length - (k + 1))
          case rel =>
            refine ⟨k + 1, by omega, by go_num, fun i hi => ?_, rfl⟩
            by_cases e : i = k
            · subst e; rw [HX.out]; simp [isAt, h0, h1]
            · exact HB.out i (by omega)
          case measure => have := HK.out; omega
        | true =>
          have hf := fndI_some (r := r) (p := p) hlt (by rw [HX.out]; simp [isAt, h0, h1]) HB.out
          have HF : Hid _ := hf
          clear hf
          go_wp2_with fail
          go_ret
          exact ⟨by rw [HF.out]; rfl, rfl⟩
    · have HF : Hid _ := fndI_none (fun i hi => HB.out i (by have := HK.out; omega))
      clear hk
      go_wp2_with fail
      go_ret
      exact ⟨by rw [HF.out]; rfl, rfl⟩
/-- Of the first k those that are kept. -/
def keepTo (P : Nat → Bool) (es : List En) : Nat → List En
  | 0 => []
  | k + 1 => keepTo P es k ++ if P k then [atE es k] else []
theorem keepTo_length (P : Nat → Bool) (es : List En) : ∀ k, (keepTo P es k).length ≤ k
  | 0 => Nat.le_refl _
  | k + 1 => by
    have := keepTo_length P es k
    unfold keepTo
    rw [List.length_append]
    split
    · simp; omega
    · simp; omega
theorem SlC.upd {S : Nat → Prop} {w w' : World} {base : Nat} {v : Value} {es : List En} (h : SlC w base v es) (u : Upd S w w') (hS : ∀ k, v.ownBlock = some k → ¬ S k) : SlC w' base v es := by
  refine ⟨h.1, ?_⟩
  rcases h.2 with h0 | ⟨g, cap, cur, rfl, hb, hg, r⟩
  · exact Or.inl h0
  · refine Or.inr ⟨g, cap, cur, rfl, hb, ?_, r⟩
    have hlt : g < w.heap.size := by
      rcases Nat.lt_or_ge g w.heap.size with hlt | hge
      · exact hlt
      · rw [Array.getElem?_eq_none hge] at hg; cases hg
    rw [u.block g hlt (hS g rfl)]; exact hg
def zeroEn : Array Value := #[.int .i64 0, .int .i64 0, .int .i64 0, .bool false, .bool false, .bool false, .int .i64 0]
theorem infoEn : (Try.prog.info? 85).map (fun i => (i.size, i.bytes, i.zero)) = some (7, 48, some (.agg zeroEn)) := by kernel_rfl
/-- What an append of one entry leaves. -/
theorem SlC.grown {w wr w2 : World} {v : Value} {es : List En} {x : En} {g cap : Nat} (hu : Upd (fun _ => False) w wr) (hS : SlC wr w.heap.size v es) (o : Obj)
    (hown : w2.ownsRow w.heap.size 85 7 (.slice (some ⟨g, 0, none⟩) (es.length + 1) cap) (es.length + 1) (enAll es ++ enCells x)) (hgrow : (wr.alloc o).grownBy w2 v.ownBlock) :
    SlC w2 w.heap.size (.slice (some ⟨g, 0, none⟩) (es.length + 1) cap) (es ++ [x]) ∧ Upd (fun _ => False) w w2 := by
  refine ⟨?_, hgrow.os.trans hu.os, hgrow.tape.trans hu.tape, hgrow.output.trans hu.output, ?_, ?_⟩
  · unfold SlC
    rw [enAll_append, List.length_append]
    simpa [enAll] using hown
  · have := hgrow.size
    simp only [World.size_alloc] at this
    have := hu.size
    omega
  · intro k hk _
    have hz := hu.size
    rw [hgrow.block k (by simp only [World.size_alloc]; omega) (by
      intro e
      have := World.ownsRow.lt hS k e.symm
      omega), Below.heap_alloc _ _ _ (by omega)]
    exact hu.block k hk (fun f => f)

theorem cWithout_any (w : World) (base : Nat) (v : Value) (es : List En) (k0 : Int) (h : SlC w base v es) (hl : es.length ≤ 100) :
    Calls Try.prog 49 #[v, .int .i64 k0] w fun e w' => ∃ v', e = .returned v' ∧ SlC w' w.heap.size v' (keepTo (fun i => (i : Int) != k0) es es.length) ∧ Upd (fun _ => False) w w' := by
  obtain ⟨a, cap, rfl, hc⟩ := h.form
  have HC : Hid _ := hc
  clear hc
  go_enter Try.func49, Try.ntmps49
  go_wp2_with fail
  go_loopg [5, 6] es.length (fun g l i wi => ∃ k : Nat, k + g = es.length ∧ i = .int .i64 k ∧ SlC wi w.heap.size l (keepTo (fun i => (i : Int) != k0) es k) ∧ Upd (fun _ => False) w wi)
  case atStart => exact ⟨0, by omega, rfl, SlC.nil _ _, Upd.refl _ _⟩
  case round =>
    obtain ⟨k, hk, rfl, hS, hu⟩ := hrel
    have HK : Hid _ := hk
    by_cases hlt : k < es.length
    · clear hk
      obtain ⟨g, rfl, _, hglt, hcell⟩ := HC.out k hlt
      have hkl := keepTo_length (fun i => (i : Int) != k0) es k
      have hstep : keepTo (fun i => (i : Int) != k0) es (k + 1) = keepTo (fun i => (i : Int) != k0) es k ++ if ((k : Int) != k0) then [atE es k] else [] := rfl
      have HST : Hid _ := hstep
      clear hstep
      cases hp : ((k : Int) != k0) with
      | false =>
        rw [hp] at HST
        clear hcell HC
        go_wp2_with fail
        go_roundg (es.length - (k + 1))
        case rel => exact ⟨k + 1, by omega, by go_num, by rw [HST.out]; simpa using hS, hu⟩
        case measure => have := HK.out; omega
      | true =>
        rw [hp] at HST
        have c0 := hu.cell (show w.cell? ⟨g, k * 7, none⟩ = some (.int .i64 (atE es k).root) from hcell 0 (by omega)) (fun f => f)
        have c1 := hu.cell (show w.cell? ⟨g, k * 7 + 1, none⟩ = some (.int .i64 (atE es k).page) from hcell 1 (by omega)) (fun f => f)
        have c2 := hu.cell (show w.cell? ⟨g, k * 7 + 2, none⟩ = some (.int .i64 (atE es k).dest) from hcell 2 (by omega)) (fun f => f)
        have c3 := hu.cell (show w.cell? ⟨g, k * 7 + 3, none⟩ = some (.bool (atE es k).may) from hcell 3 (by omega)) (fun f => f)
        have c4 := hu.cell (show w.cell? ⟨g, k * 7 + 4, none⟩ = some (.bool (atE es k).lf.there) from hcell 4 (by omega)) (fun f => f)
        have c5 := hu.cell (show w.cell? ⟨g, k * 7 + 5, none⟩ = some (.bool (atE es k).lf.wr) from hcell 5 (by omega)) (fun f => f)
        have c6 := hu.cell (show w.cell? ⟨g, k * 7 + 6, none⟩ = some (.int .i64 (atE es k).lf.fr) from hcell 6 (by omega)) (fun f => f)
        clear hcell HC
        generalize atE es k = x at *
        generalize hfs : keepTo (fun i => (i : Int) != k0) es k = fs at *
        clear hfs
        obtain ⟨i, hi, he⟩ := Option.map_eq_some_iff.1 infoEn
        simp only [Prod.mk.injEq] at he
        obtain ⟨he1, he2, he3⟩ := he
        have HE1 : Hid _ := he1
        have HE2 : Hid _ := he2
        have HE3 : Hid _ := he3
        have HI : Hid _ := hi
        clear he1 he2 he3 hi
        have hnews : ∀ j u, (enCells x)[j]? = some u → (wr.alloc (.cells #[.int .i64 x.root, .int .i64 x.page, .int .i64 x.dest, .bool x.may, .bool x.lf.there, .bool x.lf.wr, .int .i64 x.lf.fr] 85)).cell? ((⟨wr.heap.size, 0, none⟩ : Addr).add j) = some u := by
          intro j u hj
          rw [Addr.add_mid, Nat.zero_add, World.cell?_alloc_new, ← hj]
          show (enCells x).toArray[j]? = _
          simp
        have HN : Hid _ := hnews
        have HO : Hid _ := World.ownsRow.alloc hS (.cells #[.int .i64 x.root, .int .i64 x.page, .int .i64 x.dest, .bool x.may, .bool x.lf.there, .bool x.lf.wr, .int .i64 x.lf.fr] 85)
        have HB : Hid (w.heap.size ≤ (wr.alloc (.cells #[.int .i64 x.root, .int .i64 x.page, .int .i64 x.dest, .bool x.may, .bool x.lf.there, .bool x.lf.wr, .int .i64 x.lf.fr] 85)).heap.size) := show _ ≤ _ by have := hu.size; simp only [World.size_alloc]; omega
        have H1 : Hid (∀ u ∈ enCells x, u.oneCell' = true) := show ∀ u ∈ enCells x, _ from fun u hu' => enAll_one [x] u (by simpa [enAll] using hu')
        clear hnews
        go_wp2_with (at_builtin; refine wpList_append_lies _ (by rfl) _ _ 90 (by rfl) w.heap.size 85 i (.agg zeroEn) 7 48 Try.underlying90 HI.out HE3.out HE1.out HE2.out (by rfl) (by omega) u5 fs.length (enAll fs) (by rfl) HO.out ⟨wr.heap.size, 0, none⟩ 1 1 (enCells x) (by rfl) (by rfl) HN.out H1.out (by omega) (by unfold maxLen; omega) (by omega) HB.out (wr.heap.size + 1) (by simp) ?_; intro g2 cap2 w2 hown hgrow hat hlt2)
        obtain ⟨hS2, hu2⟩ := SlC.grown hu hS _ hown hgrow
        clear hown hgrow hat hlt2
        go_roundg (es.length - (k + 1))
        case rel => exact ⟨k + 1, by omega, by go_num, by rw [HST.out]; simpa using hS2, hu2⟩
        case measure => have := HK.out; omega
    · have ek : k = es.length := by omega
      subst ek
      clear hk HC
      go_wp2_with fail
      go_ret
      exact ⟨_, rfl, hS, hu⟩
end Go.Proofs.Ytadpibcgjgcjhaa
/- The document's answer for chapter 3: Forget, Point, Put. -/
namespace Go.Proofs.Ytadpibcgjgcjhaa
open Go.ChangeShapes Go.WideShapes Go.ChangeAt Go.RowKit
set_option maxRecDepth 100000
attribute [local go_sem ↓] Go.wp_at_zero Go.wp_at_succ

theorem cForget_any (w : World) (base : Nat) (v : Value) (es : List En) (r : Int) (h : SlC w base v es) (hl : es.length ≤ 100) :
    Calls Try.prog 51 #[v, .int .i64 r] w fun e w' => ∃ v', e = .returned v' ∧ SlC w' w.heap.size v' (keepTo (fun i => (atE es i).root != r) es es.length) ∧ Upd (fun _ => False) w w' := by
  obtain ⟨a, cap, rfl, hc⟩ := h.form
  have HC : Hid _ := hc
  clear hc
  go_enter Try.func51, Try.ntmps51
  go_wp2_with fail
  go_loopg [5, 6] es.length (fun g l i wi => ∃ k : Nat, k + g = es.length ∧ i = .int .i64 k ∧ SlC wi w.heap.size l (keepTo (fun i => (atE es i).root != r) es k) ∧ Upd (fun _ => False) w wi)
  case atStart => exact ⟨0, by omega, rfl, SlC.nil _ _, Upd.refl _ _⟩
  case round =>
    obtain ⟨k, hk, rfl, hS, hu⟩ := hrel
    have HK : Hid _ := hk
    by_cases hlt : k < es.length
    · clear hk
      obtain ⟨g, rfl, _, hglt, hcell⟩ := HC.out k hlt
      have hkl := keepTo_length (fun i => (atE es i).root != r) es k
      have hstep : keepTo (fun i => (atE es i).root != r) es (k + 1) = keepTo (fun i => (atE es i).root != r) es k ++ if ((atE es k).root != r) then [atE es k] else [] := rfl
      have HST : Hid _ := hstep
      clear hstep
      cases hp : ((atE es k).root != r) with
      | false =>
        rw [hp] at HST
        have c0 := hu.cell (show w.cell? ⟨g, k * 7, none⟩ = some (.int .i64 (atE es k).root) from hcell 0 (by omega)) (fun f => f)
        clear hcell HC
        go_wp2_with fail
        go_roundg (es.length - (k + 1))
        case rel => exact ⟨k + 1, by omega, by go_num, by rw [HST.out]; simpa using hS, hu⟩
        case measure => have := HK.out; omega
      | true =>
        rw [hp] at HST
        have c0 := hu.cell (show w.cell? ⟨g, k * 7, none⟩ = some (.int .i64 (atE es k).root) from hcell 0 (by omega)) (fun f => f)
        have c1 := hu.cell (show w.cell? ⟨g, k * 7 + 1, none⟩ = some (.int .i64 (atE es k).page) from hcell 1 (by omega)) (fun f => f)
        have c2 := hu.cell (show w.cell? ⟨g, k * 7 + 2, none⟩ = some (.int .i64 (atE es k).dest) from hcell 2 (by omega)) (fun f => f)
        have c3 := hu.cell (show w.cell? ⟨g, k * 7 + 3, none⟩ = some (.bool (atE es k).may) from hcell 3 (by omega)) (fun f => f)
        have c4 := hu.cell (show w.cell? ⟨g, k * 7 + 4, none⟩ = some (.bool (atE es k).lf.there) from hcell 4 (by omega)) (fun f => f)
        have c5 := hu.cell (show w.cell? ⟨g, k * 7 + 5, none⟩ = some (.bool (atE es k).lf.wr) from hcell 5 (by omega)) (fun f => f)
        have c6 := hu.cell (show w.cell? ⟨g, k * 7 + 6, none⟩ = some (.int .i64 (atE es k).lf.fr) from hcell 6 (by omega)) (fun f => f)
        clear hcell HC
        generalize atE es k = x at *
        generalize hfs : keepTo (fun i => (atE es i).root != r) es k = fs at *
        clear hfs
        obtain ⟨i, hi, he⟩ := Option.map_eq_some_iff.1 infoEn
        simp only [Prod.mk.injEq] at he
        obtain ⟨he1, he2, he3⟩ := he
        have HE1 : Hid _ := he1
        have HE2 : Hid _ := he2
        have HE3 : Hid _ := he3
        have HI : Hid _ := hi
        clear he1 he2 he3 hi
        have hnews : ∀ j u, (enCells x)[j]? = some u → (wr.alloc (.cells #[.int .i64 x.root, .int .i64 x.page, .int .i64 x.dest, .bool x.may, .bool x.lf.there, .bool x.lf.wr, .int .i64 x.lf.fr] 85)).cell? ((⟨wr.heap.size, 0, none⟩ : Addr).add j) = some u := by
          intro j u hj
          rw [Addr.add_mid, Nat.zero_add, World.cell?_alloc_new, ← hj]
          show (enCells x).toArray[j]? = _
          simp
        have HN : Hid _ := hnews
        have HO : Hid _ := World.ownsRow.alloc hS (.cells #[.int .i64 x.root, .int .i64 x.page, .int .i64 x.dest, .bool x.may, .bool x.lf.there, .bool x.lf.wr, .int .i64 x.lf.fr] 85)
        have HB : Hid (w.heap.size ≤ (wr.alloc (.cells #[.int .i64 x.root, .int .i64 x.page, .int .i64 x.dest, .bool x.may, .bool x.lf.there, .bool x.lf.wr, .int .i64 x.lf.fr] 85)).heap.size) := show _ ≤ _ by have := hu.size; simp only [World.size_alloc]; omega
        have H1 : Hid (∀ u ∈ enCells x, u.oneCell' = true) := show ∀ u ∈ enCells x, _ from fun u hu' => enAll_one [x] u (by simpa [enAll] using hu')
        clear hnews
        go_wp2_with (at_builtin; refine wpList_append_lies _ (by rfl) _ _ 90 (by rfl) w.heap.size 85 i (.agg zeroEn) 7 48 Try.underlying90 HI.out HE3.out HE1.out HE2.out (by rfl) (by omega) u5 fs.length (enAll fs) (by rfl) HO.out ⟨wr.heap.size, 0, none⟩ 1 1 (enCells x) (by rfl) (by rfl) HN.out H1.out (by omega) (by unfold maxLen; omega) (by omega) HB.out (wr.heap.size + 1) (by simp) ?_; intro g2 cap2 w2 hown hgrow hat hlt2)
        obtain ⟨hS2, hu2⟩ := SlC.grown hu hS _ hown hgrow
        clear hown hgrow hat hlt2
        go_roundg (es.length - (k + 1))
        case rel => exact ⟨k + 1, by omega, by go_num, by rw [HST.out]; simpa using hS2, hu2⟩
        case measure => have := HK.out; omega
    · have ek : k = es.length := by omega
      subst ek
      clear hk HC
      go_wp2_with fail
      go_ret
      exact ⟨_, rfl, hS, hu⟩

theorem SlC.weak {w : World} {b b' : Nat} {v : Value} {es : List En} (h : SlC w b v es) (hb : b' ≤ b) : SlC w b' v es := by
  refine ⟨h.1, ?_⟩
  rcases h.2 with h0 | ⟨g, cap, cur, hv, hg, r⟩
  · exact Or.inl h0
  · exact Or.inr ⟨g, cap, cur, hv, Nat.le_trans hb hg, r⟩
/-- Put, plainly. -/
def putC (es : List En) (e : En) : List En :=
  let l := keepTo (fun i => (i : Int) != fndI es e.root e.page) es es.length ++ [e]
  if 4 < l.length then keepTo (fun i => (i : Int) != 0) l l.length else l
theorem cPut_any (w : World) (base : Nat) (v : Value) (es : List En) (x : En) (h : SlC w base v es) (hl : es.length ≤ 50) :
    Calls Try.prog 46 #[v, .agg #[.int .i64 x.root, .int .i64 x.page, .int .i64 x.dest, .bool x.may, .bool x.lf.there, .bool x.lf.wr, .int .i64 x.lf.fr]] w fun e w' => ∃ v', e = .returned v' ∧ SlC w' w.heap.size v' (putC es x) ∧ Upd (fun _ => False) w w' := by
  have u0 := (Upd.refl (fun _ => False) w).alloc (.cells #[.int .i64 x.root, .int .i64 x.page, .int .i64 x.dest, .bool x.may, .bool x.lf.there, .bool x.lf.wr, .int .i64 x.lf.fr] 85)
  have h0 := h.upd u0 (fun _ _ f => f)
  have cc : ∀ j, (w.alloc (.cells #[.int .i64 x.root, .int .i64 x.page, .int .i64 x.dest, .bool x.may, .bool x.lf.there, .bool x.lf.wr, .int .i64 x.lf.fr] 85)).cell? ⟨w.heap.size, j, none⟩ = (enCells x)[j]? := fun j => by
    rw [World.cell?_alloc_new]
    show (enCells x).toArray[j]? = _
    simp
  have H0 : Hid _ := h0
  have U0 : Hid _ := u0
  have CC : Hid _ := cc
  clear h0 u0 cc h
  go_enter Try.func46, Try.ntmps46
  go_wp2_with fail
  refine (cFind_any _ base _ es _ _ H0.out (by omega)).mono ?_
  rintro e w1 ⟨rfl, rfl⟩
  go_wp2_with fail
  refine (cWithout_any _ base _ es _ H0.out (by omega)).mono ?_
  rintro e w2 ⟨l, rfl, hS2, hu2⟩
  have hU2 := U0.out.trans hu2 (fun _ _ f => f)
  have hS3 : SlC w2 w.heap.size l (keepTo (fun i => (i : Int) != fndI es x.root x.page) es es.length) := hS2.weak (by simp)
  have hkl := keepTo_length (fun i => (i : Int) != fndI es x.root x.page) es es.length
  have c0 := hu2.cell (show _ = some (.int .i64 x.root) from CC.out 0) (fun f => f)
  have c1 := hu2.cell (show _ = some (.int .i64 x.page) from CC.out 1) (fun f => f)
  have c2 := hu2.cell (show _ = some (.int .i64 x.dest) from CC.out 2) (fun f => f)
  have c3 := hu2.cell (show _ = some (.bool x.may) from CC.out 3) (fun f => f)
  have c4 := hu2.cell (show _ = some (.bool x.lf.there) from CC.out 4) (fun f => f)
  have c5 := hu2.cell (show _ = some (.bool x.lf.wr) from CC.out 5) (fun f => f)
  have c6 := hu2.cell (show _ = some (.int .i64 x.lf.fr) from CC.out 6) (fun f => f)
  have hput : putC es x = if 4 < (keepTo (fun i => (i : Int) != fndI es x.root x.page) es es.length ++ [x]).length then keepTo (fun i => (i : Int) != 0) (keepTo (fun i => (i : Int) != fndI es x.root x.page) es es.length ++ [x]) (keepTo (fun i => (i : Int) != fndI es x.root x.page) es es.length ++ [x]).length else keepTo (fun i => (i : Int) != fndI es x.root x.page) es es.length ++ [x] := rfl
  have HP : Hid _ := hput
  clear hput hS2 hu2 CC U0 H0
  generalize keepTo (fun i => (i : Int) != fndI es x.root x.page) es es.length = fs at *
  obtain ⟨i, hi, he⟩ := Option.map_eq_some_iff.1 infoEn
  simp only [Prod.mk.injEq] at he
  obtain ⟨he1, he2, he3⟩ := he
  have HE1 : Hid _ := he1
  have HE2 : Hid _ := he2
  have HE3 : Hid _ := he3
  have HI : Hid _ := hi
  clear he1 he2 he3 hi
  have hnews : ∀ j u, (enCells x)[j]? = some u → (w2.alloc (.cells #[.int .i64 x.root, .int .i64 x.page, .int .i64 x.dest, .bool x.may, .bool x.lf.there, .bool x.lf.wr, .int .i64 x.lf.fr] 85)).cell? ((⟨w2.heap.size, 0, none⟩ : Addr).add j) = some u := by
    intro j u hj
    rw [Addr.add_mid, Nat.zero_add, World.cell?_alloc_new, ← hj]
    show (enCells x).toArray[j]? = _
    simp
  have HN : Hid _ := hnews
  have HO : Hid _ := World.ownsRow.alloc hS3 (.cells #[.int .i64 x.root, .int .i64 x.page, .int .i64 x.dest, .bool x.may, .bool x.lf.there, .bool x.lf.wr, .int .i64 x.lf.fr] 85)
  have HB : Hid (w.heap.size ≤ (w2.alloc (.cells #[.int .i64 x.root, .int .i64 x.page, .int .i64 x.dest, .bool x.may, .bool x.lf.there, .bool x.lf.wr, .int .i64 x.lf.fr] 85)).heap.size) := show _ ≤ _ by have := hU2.size; simp only [World.size_alloc]; omega
  have H1 : Hid (∀ u ∈ enCells x, u.oneCell' = true) := show ∀ u ∈ enCells x, _ from fun u hu' => enAll_one [x] u (by simpa [enAll] using hu')
  clear hnews
  by_cases h4 : 4 < fs.length + 1
  · have d4 : decide ((4 : Int) < (fs.length : Int) + 1) = true := by simp; omega
    go_wp2_with (at_builtin; refine wpList_append_lies _ (by rfl) _ _ 90 (by rfl) w.heap.size 85 i (.agg zeroEn) 7 48 Try.underlying90 HI.out HE3.out HE1.out HE2.out (by rfl) (by omega) l fs.length (enAll fs) (by rfl) HO.out ⟨w2.heap.size, 0, none⟩ 1 1 (enCells x) (by rfl) (by rfl) HN.out H1.out (by omega) (by unfold maxLen; omega) (by omega) HB.out (w2.heap.size + 1) (by simp) ?_; intro g2 cap2 w3 hown hgrow hat hlt2)
    obtain ⟨hS4, hu4⟩ := SlC.grown hU2 hS3 _ hown hgrow
    have hlen : (fs ++ [x]).length = fs.length + 1 := by simp
    have hS5 := hS4
    rw [← hlen] at hS5
    clear hown hgrow hat hlt2
    have HX := cWithout_any w3 w.heap.size _ (fs ++ [x]) 0 hS5 (by omega)
    rw [hlen] at HX
    refine Calls.mono HX ?_
    rintro e w4 ⟨v4, rfl, hS6, hu6⟩
    have hz := hu4.size
    have HR : Hid _ := hu4.trans hu6 (fun _ _ f => f)
    have HQ : Hid _ := hS6.weak hz
    clear hS6 hu6 hS5 hS4 hu4 HX
    go_wp2_with fail
    go_ret
    refine ⟨_, rfl, ?_, HR.out⟩
    rw [HP.out, if_pos (by rw [hlen]; exact h4), hlen]
    exact HQ.out
  · have d4 : decide ((4 : Int) < (fs.length : Int) + 1) = false := by simp; omega
    go_wp2_with (at_builtin; refine wpList_append_lies _ (by rfl) _ _ 90 (by rfl) w.heap.size 85 i (.agg zeroEn) 7 48 Try.underlying90 HI.out HE3.out HE1.out HE2.out (by rfl) (by omega) l fs.length (enAll fs) (by rfl) HO.out ⟨w2.heap.size, 0, none⟩ 1 1 (enCells x) (by rfl) (by rfl) HN.out H1.out (by omega) (by unfold maxLen; omega) (by omega) HB.out (w2.heap.size + 1) (by simp) ?_; intro g2 cap2 w3 hown hgrow hat hlt2)
    obtain ⟨hS4, hu4⟩ := SlC.grown hU2 hS3 _ hown hgrow
    have hlen : (fs ++ [x]).length = fs.length + 1 := by simp
    go_ret
    refine ⟨_, rfl, ?_, hu4⟩
    rw [HP.out, if_neg (by rw [hlen]; exact h4)]
    exact hS4
end Go.Proofs.Ytadpibcgjgcjhaa
/- The document's answer for chapter 3: an entry behind Point; two lists of entries held against each other. -/
namespace Go.Proofs.Ytadpibcgjgcjhaa
open Go.ChangeShapes Go.WideShapes Go.ChangeAt Go.RowKit
set_option maxRecDepth 100000
attribute [local go_sem ↓] Go.wp_at_zero Go.wp_at_succ

/-- An entry behind Point. -/
def pnt (d : Int) (l : Lf) (e : En) : En := if e.dest == d then { e with lf := l } else e
def pntTo (d : Int) (l : Lf) (es : List En) : Nat → List En
  | 0 => []
  | k + 1 => pntTo d l es k ++ [pnt d l (atE es k)]
def pntN (d : Int) (es : List En) : Nat → Nat
  | 0 => 0
  | k + 1 => pntN d es k + if (atE es k).dest == d then 1 else 0
theorem pntTo_length (d : Int) (l : Lf) (es : List En) : ∀ k, (pntTo d l es k).length = k
  | 0 => rfl
  | k + 1 => by simp [pntTo, pntTo_length d l es k]
theorem pntN_le (d : Int) (es : List En) : ∀ k, pntN d es k ≤ k
  | 0 => Nat.le_refl _
  | k + 1 => by
    have := pntN_le d es k
    unfold pntN
    split <;> omega
theorem cSame_any (w : World) (b0 b1 : Nat) (v u : Value) (es : List En) (h : SlC w b0 v es) (h2 : SlC w b1 u es) (hl : es.length ≤ 50) :
    Calls Try.prog 57 #[v, u] w fun e w' => e = .returned (.bool true) ∧ ∃ m, w' = w.drewN m := by
  obtain ⟨a, cap, rfl, hc⟩ := h.form
  obtain ⟨a2, cap2, rfl, hc2⟩ := h2.form
  have HC : Hid _ := hc
  have HC2 : Hid _ := hc2
  clear hc hc2
  have b1' : (((es.length : Nat) : Int) != ((es.length : Nat) : Int)) = false := by simp
  go_enter Try.func57, Try.ntmps57
  go_wp2_with fail
  go_loopg [5] es.length (fun g i wi => ∃ k : Nat, k + g = es.length ∧ i = .int .i64 k ∧ ∃ m, wi = w.drewN m)
  case atStart => exact ⟨0, by omega, rfl, 0, rfl⟩
  case round =>
    obtain ⟨k, hk, rfl, m, rfl⟩ := hrel
    have HK : Hid _ := hk
    by_cases hlt : k < es.length
    · clear hk b1'
      obtain ⟨g, rfl, _, _, hcell⟩ := HC.out k hlt
      obtain ⟨g2, rfl, _, _, hcell2⟩ := HC2.out k hlt
      have c0 : (w.drewN m).cell? ⟨g, k * 7, none⟩ = some (.int .i64 (atE es k).root) := hcell 0 (by omega)
      have c1 : (w.drewN m).cell? ⟨g, k * 7 + 1, none⟩ = some (.int .i64 (atE es k).page) := hcell 1 (by omega)
      have c2 : (w.drewN m).cell? ⟨g, k * 7 + 2, none⟩ = some (.int .i64 (atE es k).dest) := hcell 2 (by omega)
      have c3 : (w.drewN m).cell? ⟨g, k * 7 + 3, none⟩ = some (.bool (atE es k).may) := hcell 3 (by omega)
      have c4 : (w.drewN m).cell? ⟨g, k * 7 + 4, none⟩ = some (.bool (atE es k).lf.there) := hcell 4 (by omega)
      have c5 : (w.drewN m).cell? ⟨g, k * 7 + 5, none⟩ = some (.bool (atE es k).lf.wr) := hcell 5 (by omega)
      have c6 : (w.drewN m).cell? ⟨g, k * 7 + 6, none⟩ = some (.int .i64 (atE es k).lf.fr) := hcell 6 (by omega)
      have d0 : (w.drewN m).cell? ⟨g2, k * 7, none⟩ = some (.int .i64 (atE es k).root) := hcell2 0 (by omega)
      have d1 : (w.drewN m).cell? ⟨g2, k * 7 + 1, none⟩ = some (.int .i64 (atE es k).page) := hcell2 1 (by omega)
      have d2 : (w.drewN m).cell? ⟨g2, k * 7 + 2, none⟩ = some (.int .i64 (atE es k).dest) := hcell2 2 (by omega)
      have d3 : (w.drewN m).cell? ⟨g2, k * 7 + 3, none⟩ = some (.bool (atE es k).may) := hcell2 3 (by omega)
      have d4 : (w.drewN m).cell? ⟨g2, k * 7 + 4, none⟩ = some (.bool (atE es k).lf.there) := hcell2 4 (by omega)
      have d5 : (w.drewN m).cell? ⟨g2, k * 7 + 5, none⟩ = some (.bool (atE es k).lf.wr) := hcell2 5 (by omega)
      have d6 : (w.drewN m).cell? ⟨g2, k * 7 + 6, none⟩ = some (.int .i64 (atE es k).lf.fr) := hcell2 6 (by omega)
      clear hcell hcell2 HC HC2
      have k0 : (0 : Int) ≤ (k : Int) := by omega
      have k1 : (k : Int) < es.length := by omega
      generalize atE es k = x at *
      go_wp2_with fail
      go_region_held3 (fun w' => w'.cell? ⟨g, k * 7, none⟩ = some (.int .i64 x.root) ∧ w'.cell? ⟨g, k * 7 + 1, none⟩ = some (.int .i64 x.page) ∧ w'.cell? ⟨g, k * 7 + 2, none⟩ = some (.int .i64 x.dest) ∧ w'.cell? ⟨g, k * 7 + 3, none⟩ = some (.bool x.may) ∧ w'.cell? ⟨g, k * 7 + 4, none⟩ = some (.bool x.lf.there) ∧ w'.cell? ⟨g, k * 7 + 5, none⟩ = some (.bool x.lf.wr) ∧ w'.cell? ⟨g, k * 7 + 6, none⟩ = some (.int .i64 x.lf.fr) ∧ w'.cell? ⟨g2, k * 7, none⟩ = some (.int .i64 x.root) ∧ w'.cell? ⟨g2, k * 7 + 1, none⟩ = some (.int .i64 x.page) ∧ w'.cell? ⟨g2, k * 7 + 2, none⟩ = some (.int .i64 x.dest) ∧ w'.cell? ⟨g2, k * 7 + 3, none⟩ = some (.bool x.may) ∧ w'.cell? ⟨g2, k * 7 + 4, none⟩ = some (.bool x.lf.there) ∧ w'.cell? ⟨g2, k * 7 + 5, none⟩ = some (.bool x.lf.wr) ∧ w'.cell? ⟨g2, k * 7 + 6, none⟩ = some (.int .i64 x.lf.fr)) (first | exact ⟨c0, c1, c2, c3, c4, c5, c6, d0, d1, d2, d3, d4, d5, d6⟩ | go_keep) (fail)
      go_wp2_with fail
      go_roundg (es.length - (k + 1))
      case rel => exact ⟨k + 1, by omega, by go_num, m + 1, rfl⟩
      case measure => have := HK.out; omega
    · clear hk b1' HC HC2
      go_wp2_with fail
      go_ret
      exact ⟨rfl, m, rfl⟩
end Go.Proofs.Ytadpibcgjgcjhaa
/- Package cache: a cache in memory; the predicates; live. -/
namespace Go.Proofs.Ytadpibcgjgcjhaa
open Go.ChangeShapes Go.WideShapes Go.ChangeAt Go.RowKit
set_option maxRecDepth 100000
attribute [local go_sem ↓] Go.wp_at_zero Go.wp_at_succ

/-- A cache in memory: four places, and how many of them have an entry. -/
structure CaAt (w : World) (b : Nat) (cur : Nat → En) (n : Nat) : Prop where
  cells : ∀ i j, i < 4 → j < 7 → w.cell? ⟨b, i * 7 + j, none⟩ = (enCells (cur i))[j]?
  cnt : w.cell? ⟨b, 28, none⟩ = some (.int .i64 n)
  fz : ∀ o, w.frozen? ⟨b, o, none⟩ = false
  le : n ≤ 4
theorem CaAt.lt {w : World} {b : Nat} {cur : Nat → En} {n : Nat} (h : CaAt w b cur n) : b < w.heap.size := World.block_lt_of_cell? w _ h.cnt
theorem enCells_some (e : En) (j : Nat) (hj : j < 7) : ∃ v, (enCells e)[j]? = some v := ⟨_, List.getElem?_eq_getElem (show j < (enCells e).length from hj)⟩
theorem CaAt.upd {S : Nat → Prop} {w w' : World} {b : Nat} {cur : Nat → En} {n : Nat} (h : CaAt w b cur n) (u : Upd S w w') (hb : ¬ S b) : CaAt w' b cur n where
  cells := fun i j hi hj => by
    obtain ⟨v, hv⟩ := enCells_some (cur i) j hj
    rw [hv]
    exact u.cell ((h.cells i j hi hj).trans hv) hb
  cnt := u.cell h.cnt hb
  fz := fun o => by rw [World.frozen?_of_block (w := w) (u.block b h.lt hb)]; exact h.fz o
  le := h.le
theorem CaAt.setCnt {w : World} {b : Nat} {cur : Nat → En} {n : Nat} (h : CaAt w b cur n) (m : Nat) (hm : m ≤ 4) : CaAt (w.setCell ⟨b, 28, none⟩ (.int .i64 m)) b cur m where
  cells := fun i j hi hj => by rw [World.cell?_setCell_other _ _ _ _ (addr_ne (Or.inr (by omega)))]; exact h.cells i j hi hj
  cnt := World.cell?_setCell_same _ _ _ h.cnt
  fz := fun o => by rw [World.frozen?_setCell]; exact h.fz o
  le := hm
theorem CaAt.there {w : World} {b : Nat} {cur : Nat → En} {n : Nat} (h : CaAt w b cur n) (o : Nat) (ho : o < 28) : (w.cell? ⟨b, o, none⟩).isSome = true ∧ w.frozen? ⟨b, o, none⟩ = false := by
  refine ⟨?_, h.fz o⟩
  have := h.cells (o / 7) (o % 7) (by omega) (by omega)
  obtain ⟨v, hv⟩ := enCells_some (cur (o / 7)) (o % 7) (by omega)
  rw [hv, show o / 7 * 7 + o % 7 = o by omega] at this
  rw [this]; rfl
theorem CaAt.setRow {w : World} {b : Nat} {cur : Nat → En} {n : Nat} (h : CaAt w b cur n) {i : Nat} (hi : i < 4) (x : En) : CaAt (w.setCells b (i * 7) (enCells x)) b (setAt cur i x) n where
  cells := fun k j hk hj => by
    by_cases e : k = i
    · subst e
      obtain ⟨v, hv⟩ := enCells_some x j hj
      have := World.rangeAt_setCells_same w b (k * 7) (enCells x) (fun o ho => h.there _ (by have : (enCells x).length = 7 := rfl; omega)) j v hv
      rw [this, setAt_same, hv]
    · rw [World.cell?_setCells_out _ _ _ _ _ (fun _ _ => by have : (enCells x).length = 7 := rfl; simp only [this]; omega), h.cells k j hk hj, setAt_other _ _ _ _ e]
  cnt := by rw [World.cell?_setCells_out _ _ _ _ _ (fun _ _ => by have : (enCells x).length = 7 := rfl; simp only [this]; omega)]; exact h.cnt
  fz := fun o => by rw [World.frozen?_setCells]; exact h.fz o
  le := h.le
theorem CaAt.set7 {w : World} {b : Nat} {cur : Nat → En} {n : Nat} (h : CaAt w b cur n) {i : Nat} (hi : i < 4) (x : En) :
    CaAt (((((((w.setCell ⟨b, i * 7, none⟩ (.int .i64 x.root)).setCell ⟨b, i * 7 + 1, none⟩ (.int .i64 x.page)).setCell ⟨b, i * 7 + 2, none⟩ (.int .i64 x.dest)).setCell ⟨b, i * 7 + 3, none⟩ (.bool x.may)).setCell ⟨b, i * 7 + 4, none⟩ (.bool x.lf.there)).setCell ⟨b, i * 7 + 5, none⟩ (.bool x.lf.wr)).setCell ⟨b, i * 7 + 6, none⟩ (.int .i64 x.lf.fr)) b (setAt cur i x) n := h.setRow hi x
theorem Upd.set7 (w : World) (b i : Nat) (x : En) :
    Upd (fun k => k = b) w (((((((w.setCell ⟨b, i * 7, none⟩ (.int .i64 x.root)).setCell ⟨b, i * 7 + 1, none⟩ (.int .i64 x.page)).setCell ⟨b, i * 7 + 2, none⟩ (.int .i64 x.dest)).setCell ⟨b, i * 7 + 3, none⟩ (.bool x.may)).setCell ⟨b, i * 7 + 4, none⟩ (.bool x.lf.there)).setCell ⟨b, i * 7 + 5, none⟩ (.bool x.lf.wr)).setCell ⟨b, i * 7 + 6, none⟩ (.int .i64 x.lf.fr)) := Upd.row w b (i * 7) (enCells x)
/-- What is asked of a predicate that is handed to the library. -/
def PredOn (b : Nat) (w : World) (g : Nat) (lb : Array Value) (p : En → Bool) : Prop :=
  ∀ (W : World) (x : En), Upd (fun k => k = b) w W → Calls Try.prog g (#[.agg #[.int .i64 x.root, .int .i64 x.page, .int .i64 x.dest, .bool x.may, .bool x.lf.there, .bool x.lf.wr, .int .i64 x.lf.fr]] ++ lb) W fun e w' => e = .returned (.bool (p x)) ∧ Upd (fun _ => False) W w'
theorem PredOn.trans {b : Nat} {w w' : World} {g : Nat} {lb : Array Value} {p : En → Bool} (h : PredOn b w g lb p) (u : Upd (fun k => k = b) w w') : PredOn b w' g lb p :=
  fun W x hu => h W x (u.trans hu (fun _ _ e => e))

theorem kOf_any (w : World) (r p : Int) :
    Calls Try.prog 88 #[.int .i64 r, .int .i64 p] w fun e w' => e = .returned (.func (.func 107) #[] #[.pointer (some ⟨w.heap.size, 0, none⟩), .pointer (some ⟨w.heap.size + 1, 0, none⟩)]) ∧ w' = (w.alloc (.cells #[.int .i64 r] 3)).alloc (.cells #[.int .i64 p] 3) := by
  go_enter Try.func88, Try.ntmps88
  go_wp2_with fail
  go_ret
  exact ⟨rfl, rfl⟩
theorem kOf1_any (W : World) (B C : Nat) (r p : Int) (x : En) (h1 : W.cell? ⟨B, 0, none⟩ = some (.int .i64 r)) (h2 : W.cell? ⟨C, 0, none⟩ = some (.int .i64 p)) :
    Calls Try.prog 107 #[.agg #[.int .i64 x.root, .int .i64 x.page, .int .i64 x.dest, .bool x.may, .bool x.lf.there, .bool x.lf.wr, .int .i64 x.lf.fr], .pointer (some ⟨B, 0, none⟩), .pointer (some ⟨C, 0, none⟩)] W
      fun e w' => e = .returned (.bool (isAt r p x)) ∧ Upd (fun _ => False) W w' := by
  have u := (Upd.refl (fun _ => False) W).alloc (.cells #[.int .i64 x.root, .int .i64 x.page, .int .i64 x.dest, .bool x.may, .bool x.lf.there, .bool x.lf.wr, .int .i64 x.lf.fr] 85)
  have g1 := u.cell h1 (fun f => f)
  have g2 := u.cell h2 (fun f => f)
  have HU : Hid _ := u
  clear u h1 h2
  cases h0 : (x.root == r) with
  | false =>
    go_enter Try.func107, Try.ntmps107
    go_wp2_with fail
    go_ret
    exact ⟨by simp [isAt, h0], HU.out⟩
  | true =>
    go_enter Try.func107, Try.ntmps107
    go_wp2_with fail
    go_ret
    exact ⟨by simp [isAt, h0], HU.out⟩
theorem kForget1_any (W : World) (B : Nat) (r : Int) (x : En) (h1 : W.cell? ⟨B, 0, none⟩ = some (.int .i64 r)) :
    Calls Try.prog 90 #[.agg #[.int .i64 x.root, .int .i64 x.page, .int .i64 x.dest, .bool x.may, .bool x.lf.there, .bool x.lf.wr, .int .i64 x.lf.fr], .pointer (some ⟨B, 0, none⟩)] W
      fun e w' => e = .returned (.bool (x.root == r)) ∧ Upd (fun _ => False) W w' := by
  have u := (Upd.refl (fun _ => False) W).alloc (.cells #[.int .i64 x.root, .int .i64 x.page, .int .i64 x.dest, .bool x.may, .bool x.lf.there, .bool x.lf.wr, .int .i64 x.lf.fr] 85)
  have g1 := u.cell h1 (fun f => f)
  have HU : Hid _ := u
  clear u h1
  go_enter Try.func90, Try.ntmps90
  go_wp2_with fail
  go_ret
  exact ⟨rfl, HU.out⟩
theorem kLive_any (w : World) (b : Nat) (cur : Nat → En) (n : Nat) (h : CaAt w b cur n) :
    Calls Try.prog 87 #[.pointer (some ⟨b, 0, none⟩)] w fun e w' => e = .returned (.slice (some ⟨b, 0, none⟩) n 4) ∧ ∃ m, w' = w.drewN m := by
  have hc := h.cnt
  have hl := h.le
  have n0 : (0 : Int) ≤ (n : Int) := by omega
  have n4 : (n : Int) ≤ 4 := by omega
  go_enter Try.func87, Try.ntmps87
  go_wp2_with fail
  go_quiet (fail)
  go_wp2_with fail
  go_ret
  exact ⟨rfl, _, rfl⟩
end Go.Proofs.Ytadpibcgjgcjhaa
/- Package cache: what the library's IndexFunc answers over a cache's places. -/
namespace Go.Proofs.Ytadpibcgjgcjhaa
open Go.ChangeShapes Go.WideShapes Go.ChangeAt Go.RowKit
set_option maxRecDepth 100000
attribute [local go_sem ↓] Go.wp_at_zero Go.wp_at_succ

/-- The place of the first entry of which p holds. -/
def idxP (p : En → Bool) (es : List En) : Int := match es.findIdx? p with
  | some i => i
  | none => -1
theorem idxP_some {p : En → Bool} {es : List En} {k : Nat} (hk : k < es.length) (h : p (atE es k) = true) (hb : ∀ i, i < k → p (atE es i) = false) : idxP p es = k := by
  have : es.findIdx? p = some k := by
    rw [List.findIdx?_eq_some_iff_getElem]
    refine ⟨hk, ?_, fun j hj => ?_⟩
    · simpa [atE, List.getD_eq_getElem?_getD, List.getElem?_eq_getElem hk] using h
    · have := hb j hj
      simpa [atE, List.getD_eq_getElem?_getD, List.getElem?_eq_getElem (show j < es.length by omega)] using this
  unfold idxP
  rw [this]
theorem idxP_none {p : En → Bool} {es : List En} (hb : ∀ i, i < es.length → p (atE es i) = false) : idxP p es = -1 := by
  have : es.findIdx? p = none := by
    rw [List.findIdx?_eq_none_iff]
    intro x hx
    obtain ⟨i, hi, rfl⟩ := List.getElem_of_mem hx
    have := hb i hi
    simpa [atE, List.getD_eq_getElem?_getD, List.getElem?_eq_getElem hi] using this
  unfold idxP
  rw [this]
/-- It is a place, or there is none. -/
theorem idxP_cases (p : En → Bool) (es : List En) : (∃ k : Nat, k < es.length ∧ idxP p es = k ∧ p (atE es k) = true ∧ ∀ i, i < k → p (atE es i) = false) ∨ (idxP p es = -1 ∧ ∀ i, i < es.length → p (atE es i) = false) := by
  by_cases h : ∃ k, k < es.length ∧ p (atE es k) = true
  · obtain ⟨k, ⟨hk, hp⟩, hmin⟩ := exists_least h
    have hb : ∀ i, i < k → p (atE es i) = false := fun i hi => by
      cases hq : p (atE es i) with
      | false => rfl
      | true => have := hmin i ⟨by omega, hq⟩; omega
    exact Or.inl ⟨k, hk, idxP_some hk hp hb, hp, hb⟩
  · have hb : ∀ i, i < es.length → p (atE es i) = false := fun i hi => by
      cases hq : p (atE es i) with
      | false => rfl
      | true => exact absurd ⟨i, hi, hq⟩ h
    exact Or.inr ⟨idxP_none hb, hb⟩
/-- The entries of a cache. -/
def CaL (w : World) (b : Nat) (es : List En) : Prop := ∃ cur, CaAt w b cur es.length ∧ ∀ i, i < es.length → cur i = atE es i
theorem kIndex_any (w : World) (b : Nat) (cur : Nat → En) (es : List En) (g : Nat) (lb : Array Value) (p : En → Bool) (h : CaAt w b cur es.length) (hes : ∀ i, i < es.length → cur i = atE es i)
    (hp : PredOn b w g lb p) (eg : ∀ args w, (callFunc g args).run Try.prog w = .ok (.enter g args) w) :
    Calls Try.prog 86 #[.slice (some ⟨b, 0, none⟩) es.length 4, .func (.func g) #[] lb] w fun e w' => e = .returned (.int .i64 (idxP p es)) ∧ Upd (fun _ => False) w w' := by
  have HH : Hid _ := h
  have HE : Hid _ := hes
  have HP : Hid _ := hp
  have hle := h.le
  clear h hes hp
  go_enter Try.func86, Try.ntmps86
  go_wp2_with fail
  go_loopg [8] es.length (fun gg i wi => ∃ k : Nat, k + gg = es.length ∧ i = .int .i64 k ∧ Hid (∀ i, i < k → p (atE es i) = false) ∧ Hid (Upd (fun _ => False) w wi))
  case atStart => exact ⟨0, by omega, rfl, fun i hi => absurd hi (by omega), Upd.refl _ _⟩
  case round =>
    obtain ⟨k, hk, rfl, HB, HU⟩ := hrel
    have HK : Hid _ := hk
    by_cases hlt : k < es.length
    · clear hk
      have HA : Hid _ := HH.out.upd HU.out (fun f => f)
      have ek := HE.out k hlt
      have c0 : wr.cell? ⟨b, k * 7, none⟩ = some (.int .i64 (atE es k).root) := by have := HA.out.cells k 0 (by omega) (by omega); rw [ek] at this; exact this
      have c1 : wr.cell? ⟨b, k * 7 + 1, none⟩ = some (.int .i64 (atE es k).page) := by have := HA.out.cells k 1 (by omega) (by omega); rw [ek] at this; exact this
      have c2 : wr.cell? ⟨b, k * 7 + 2, none⟩ = some (.int .i64 (atE es k).dest) := by have := HA.out.cells k 2 (by omega) (by omega); rw [ek] at this; exact this
      have c3 : wr.cell? ⟨b, k * 7 + 3, none⟩ = some (.bool (atE es k).may) := by have := HA.out.cells k 3 (by omega) (by omega); rw [ek] at this; exact this
      have c4 : wr.cell? ⟨b, k * 7 + 4, none⟩ = some (.bool (atE es k).lf.there) := by have := HA.out.cells k 4 (by omega) (by omega); rw [ek] at this; exact this
      have c5 : wr.cell? ⟨b, k * 7 + 5, none⟩ = some (.bool (atE es k).lf.wr) := by have := HA.out.cells k 5 (by omega) (by omega); rw [ek] at this; exact this
      have c6 : wr.cell? ⟨b, k * 7 + 6, none⟩ = some (.int .i64 (atE es k).lf.fr) := by have := HA.out.cells k 6 (by omega) (by omega); rw [ek] at this; exact this
      clear ek HA HE
      have k0 : (0 : Int) ≤ (k : Int) := by omega
      have k1 : (k : Int) < es.length := by omega
      generalize hx : atE es k = x at c0 c1 c2 c3 c4 c5 c6
      have HX : Hid _ := hx
      clear hx
      have hcall := HP.out wr x (HU.out.trans (T := fun _ => False) (Upd.refl _ _) (fun _ _ f => f.elim) |> fun u => ⟨u.os, u.tape, u.output, u.size, fun i hi _ => u.block i hi (fun f => f)⟩)
      clear HP
      cases hq : p x with
      | true =>
        rw [hq] at hcall
        go_wp2_with (go_at_fn g; refine hcall.mono ?_; rintro e w' ⟨rfl, hb'⟩)
        go_ret
        exact ⟨by rw [idxP_some hlt (by rw [HX.out]; exact hq) HB.out]; rfl, HU.out.trans hb' (fun _ _ f => f)⟩
      | false =>
        rw [hq] at hcall
        go_wp2_with (go_at_fn g; refine hcall.mono ?_; rintro e w' ⟨rfl, hb'⟩)
        go_roundg (es.length - (k + 1))
        case rel =>
          refine ⟨k + 1, by omega, by go_num, (show Hid _ from fun i hi => ?_), HU.out.trans hb' (fun _ _ f => f)⟩
          by_cases e : i = k
          · subst e; rw [HX.out]; exact hq
          · exact HB.out i (by omega)
        case measure => have := HK.out; omega
    · have HF : Hid _ := idxP_none (p := p) (es := es) (fun i hi => HB.out i (by have := HK.out; omega))
      clear hk HP HE HH
      go_wp2_with fail
      go_ret
      exact ⟨by rw [HF.out]; rfl, HU.out⟩
end Go.Proofs.Ytadpibcgjgcjhaa
