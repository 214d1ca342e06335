/- The document's answer for chapter 3: entries as lists, in memory; Find. -/
import Derived.Test.YtadpibcgjgcjhabGreatDoorPart03
import Derived.Deep.AppendLies
import Derived.Test.YtadpibcgjgcjhabGreatDoorPart04
import Derived.Shelf.Abstract
namespace Go.Proofs.YtadpibcgjgcjhabGreatDoor
open Go.ChangeShapes Go.WideShapes Go.ChangeAt Go.RowKit
set_option maxRecDepth 100000
attribute [local go_sem ↓] Go.wp_at_zero Go.wp_at_succ

/-- An entry. -/
structure En where
  root : Int
  page : Int
  dest : Int
  may : Bool
  lf : Lf
def en0 : En := ⟨0, 0, 0, false, lf0⟩
def atE (es : List En) (k : Nat) : En := es.getD k en0
def enCells (e : En) : List Value := [.int .i64 e.root, .int .i64 e.page, .int .i64 e.dest, .bool e.may, .bool e.lf.there, .bool e.lf.wr, .int .i64 e.lf.fr]
def enAll : List En → List Value
  | [] => []
  | e :: es => enCells e ++ enAll es
theorem enAll_length : ∀ es : List En, (enAll es).length = es.length * 7
  | [] => rfl
  | e :: es => by
    have := enAll_length es
    simp only [enAll, List.length_append, this, List.length_cons, enCells, List.length_nil]
    omega
theorem enAll_append : ∀ es fs : List En, enAll (es ++ fs) = enAll es ++ enAll fs
  | [], _ => rfl
  | e :: es, fs => by simp [enAll, enAll_append es fs]
theorem enAll_get : ∀ (es : List En) (i j : Nat), i < es.length → j < 7 → (enAll es)[i * 7 + j]? = (enCells (atE es i))[j]?
  | [], _, _, h, _ => absurd h (by simp)
  | e :: es, 0, j, _, hj => by
    rw [Nat.zero_mul, Nat.zero_add]
    show (enCells e ++ enAll es)[j]? = (enCells e)[j]?
    rw [List.getElem?_append_left (show j < (enCells e).length from hj)]
  | e :: es, i + 1, j, h, hj => by
    have := enAll_get es i j (by simpa using h) hj
    rw [show (i + 1) * 7 + j = (enCells e).length + (i * 7 + j) by show _ = 7 + _; omega]
    show (enCells e ++ enAll es)[(enCells e).length + (i * 7 + j)]? = _
    rw [List.getElem?_append_right (Nat.le_add_right _ _), Nat.add_sub_cancel_left, this]
    rfl
theorem enAll_one : ∀ es : List En, ∀ v ∈ enAll es, v.oneCell' = true
  | [], v, h => by simp [enAll] at h
  | e :: es, v, h => by
    simp only [enAll, List.mem_append] at h
    rcases h with h | h
    · simp only [enCells, List.mem_cons, List.not_mem_nil, or_false] at h
      rcases h with rfl | rfl | rfl | rfl | rfl | rfl | rfl <;> rfl
    · exact enAll_one es v h
/-- A list of entries that a slice holds. -/
def SlC (w : World) (base : Nat) (v : Value) (es : List En) : Prop := w.ownsRow base 151 7 v es.length (enAll es)
theorem SlC.nil (w : World) (base : Nat) : SlC w base (.slice none 0 0) [] := World.ownsRow_nil _ _ _ _
theorem SlC.form {w : World} {base : Nat} {v : Value} {es : List En} (h : SlC w base v es) : ∃ a cap, v = .slice a es.length cap ∧ (∀ i, i < es.length → ∃ g, a = some ⟨g, 0, none⟩ ∧ base ≤ g ∧ g < w.heap.size ∧ ∀ j, j < 7 → w.cell? ⟨g, i * 7 + j, none⟩ = (enCells (atE es i))[j]?) := by
  rcases h.2 with ⟨rfl, h0⟩ | ⟨g, cap, cur, rfl, hb, hg, _⟩
  · exact ⟨none, 0, by rw [h0], fun i hi => absurd hi (by omega)⟩
  · refine ⟨some ⟨g, 0, none⟩, cap, rfl, fun i hi => ⟨g, rfl, hb, ?_, fun j hj => ?_⟩⟩
    · rcases Nat.lt_or_ge g w.heap.size with hlt | hge
      · exact hlt
      · rw [Array.getElem?_eq_none hge] at hg; cases hg
    · have e := enAll_get es i j hi hj
      have hlt : i * 7 + j < (enAll es).length := by rw [enAll_length]; omega
      obtain ⟨u, hu⟩ : ∃ u, (enAll es)[i * 7 + j]? = some u := ⟨_, List.getElem?_eq_getElem hlt⟩
      have := World.ownsRow.cells h (g := g) rfl _ _ hu
      rw [Addr.add_mid, Nat.zero_add] at this
      rw [this, ← hu, e]
def isAt (r p : Int) (e : En) : Bool := (e.root == r) && (e.page == p)
def fndI (es : List En) (r p : Int) : Int := match es.findIdx? (isAt r p) with
  | some i => i
  | none => -1
theorem fndI_some {es : List En} {r p : Int} {k : Nat} (hk : k < es.length) (h : isAt r p (atE es k) = true) (hb : ∀ i, i < k → isAt r p (atE es i) = false) : fndI es r p = k := by
  have : es.findIdx? (isAt r p) = some k := by
    rw [List.findIdx?_eq_some_iff_getElem]
    refine ⟨hk, ?_, fun j hj => ?_⟩
    · simpa [atE, List.getD_eq_getElem?_getD, List.getElem?_eq_getElem hk] using h
    · have := hb j hj
      simpa [atE, List.getD_eq_getElem?_getD, List.getElem?_eq_getElem (show j < es.length by omega)] using this
  unfold fndI
  rw [this]
theorem fndI_none {es : List En} {r p : Int} (hb : ∀ i, i < es.length → isAt r p (atE es i) = false) : fndI es r p = -1 := by
  have : es.findIdx? (isAt r p) = none := by
    rw [List.findIdx?_eq_none_iff]
    intro x hx
    obtain ⟨i, hi, rfl⟩ := List.getElem_of_mem hx
    have := hb i hi
    simpa [atE, List.getD_eq_getElem?_getD, List.getElem?_eq_getElem hi] using this
  unfold fndI
  rw [this]
theorem cFind_any (w : World) (base : Nat) (v : Value) (es : List En) (r p : Int) (h : SlC w base v es) (hl : es.length ≤ 100) :
    Calls Tryz.prog 71 #[v, .int .i64 r, .int .i64 p] w fun e w' => e = .returned (.int .i64 (fndI es r p)) ∧ w' = w := by
  obtain ⟨a, cap, rfl, hc⟩ := h.form
  have HC : Hid _ := hc
  clear hc
  go_enter Tryz.func71, Tryz.ntmps71
  go_wp2_with fail
  go_loopg [7] es.length (fun g i wi => ∃ k : Nat, k + g = es.length ∧ i = .int .i64 k ∧ (∀ i, i < k → isAt r p (atE es i) = false) ∧ wi = w)
  case atStart => exact ⟨0, by omega, rfl, fun i hi => absurd hi (by omega), rfl⟩
  case round =>
    obtain ⟨k, hk, rfl, hb, rfl⟩ := hrel
    have HK : Hid _ := hk
    have HB : Hid _ := hb
    clear hb
    by_cases hlt : k < es.length
    · clear hk
      obtain ⟨g, rfl, _, _, hcell⟩ := HC.out k hlt
      have c0 : wr.cell? ⟨g, k * 7, none⟩ = some (.int .i64 (atE es k).root) := hcell 0 (by omega)
      have c1 : wr.cell? ⟨g, k * 7 + 1, none⟩ = some (.int .i64 (atE es k).page) := hcell 1 (by omega)
      clear hcell HC
      have k0 : (0 : Int) ≤ (k : Int) := by omega
      have k1 : (k : Int) < es.length := by omega
      generalize hx : atE es k = x at c0 c1
      have HX : Hid _ := hx
      clear hx
      cases h0 : (x.root == r) with
      | false =>
        go_wp2_with fail
        go_roundg (es.length - (k + 1))
        case rel =>
          refine ⟨k + 1, by omega, by go_num, fun i hi => ?_, rfl⟩
          by_cases e : i = k
          · subst e; rw [HX.out]; simp [isAt, h0]
          · exact HB.out i (by omega)
        case measure => have := HK.out; omega
      | true =>
        cases h1 : (x.page == p) with
        | false =>
          go_wp2_with fail
          go_roundg (es.length - (k + 1))
          case rel =>
            refine ⟨k + 1, by omega, by go_num, fun i hi => ?_, rfl⟩
            by_cases e : i = k
            · subst e; rw [HX.out]; simp [isAt, h0, h1]
            · exact HB.out i (by omega)
          case measure => have := HK.out; omega
        | true =>
          have hf := fndI_some (r := r) (p := p) hlt (by rw [HX.out]; simp [isAt, h0, h1]) HB.out
          have HF : Hid _ := hf
          clear hf
          go_wp2_with fail
          go_ret
          exact ⟨by rw [HF.out]; rfl, rfl⟩
    · have HF : Hid _ := fndI_none (fun i hi => HB.out i (by have := HK.out; omega))
      clear hk
      go_wp2_with fail
      go_ret
      exact ⟨by rw [HF.out]; rfl, rfl⟩
/-- Of the first k those that are kept. -/
def keepTo (P : Nat → Bool) (es : List En) : Nat → List En
  | 0 => []
  | k + 1 => keepTo P es k ++ if P k then [atE es k] else []
theorem keepTo_length (P : Nat → Bool) (es : List En) : ∀ k, (keepTo P es k).length ≤ k
  | 0 => Nat.le_refl _
  | k + 1 => by
    have := keepTo_length P es k
    unfold keepTo
    rw [List.length_append]
    split
    · simp; omega
    · simp; omega
theorem SlC.upd {S : Nat → Prop} {w w' : World} {base : Nat} {v : Value} {es : List En} (h : SlC w base v es) (u : Upd S w w') (hS : ∀ k, v.ownBlock = some k → ¬ S k) : SlC w' base v es := by
  refine ⟨h.1, ?_⟩
  rcases h.2 with h0 | ⟨g, cap, cur, rfl, hb, hg, r⟩
  · exact Or.inl h0
  · refine Or.inr ⟨g, cap, cur, rfl, hb, ?_, r⟩
    have hlt : g < w.heap.size := by
      rcases Nat.lt_or_ge g w.heap.size with hlt | hge
      · exact hlt
      · rw [Array.getElem?_eq_none hge] at hg; cases hg
    rw [u.block g hlt (hS g rfl)]; exact hg
def zeroEn : Array Value := #[.int .i64 0, .int .i64 0, .int .i64 0, .bool false, .bool false, .bool false, .int .i64 0]
theorem infoEn : (Tryz.prog.info? 151).map (fun i => (i.size, i.bytes, i.zero)) = some (7, 48, some (.agg zeroEn)) := by kernel_rfl
/-- What an append of one entry leaves. -/
theorem SlC.grown {w wr w2 : World} {v : Value} {es : List En} {x : En} {g cap : Nat} (hu : Upd (fun _ => False) w wr) (hS : SlC wr w.heap.size v es) (o : Obj)
    (hown : w2.ownsRow w.heap.size 151 7 (.slice (some ⟨g, 0, none⟩) (es.length + 1) cap) (es.length + 1) (enAll es ++ enCells x)) (hgrow : (wr.alloc o).grownBy w2 v.ownBlock) :
    SlC w2 w.heap.size (.slice (some ⟨g, 0, none⟩) (es.length + 1) cap) (es ++ [x]) ∧ Upd (fun _ => False) w w2 := by
  refine ⟨?_, hgrow.os.trans hu.os, hgrow.tape.trans hu.tape, hgrow.output.trans hu.output, ?_, ?_⟩
  · unfold SlC
    rw [enAll_append, List.length_append]
    simpa [enAll] using hown
  · have := hgrow.size
    simp only [World.size_alloc] at this
    have := hu.size
    omega
  · intro k hk _
    have hz := hu.size
    rw [hgrow.block k (by simp only [World.size_alloc]; omega) (by
      intro e
      have := World.ownsRow.lt hS k e.symm
      omega), Below.heap_alloc _ _ _ (by omega)]
    exact hu.block k hk (fun f => f)

theorem cWithout_any (w : World) (base : Nat) (v : Value) (es : List En) (k0 : Int) (h : SlC w base v es) (hl : es.length ≤ 100) :
    Calls Tryz.prog 70 #[v, .int .i64 k0] w fun e w' => ∃ v', e = .returned v' ∧ SlC w' w.heap.size v' (keepTo (fun i => (i : Int) != k0) es es.length) ∧ Upd (fun _ => False) w w' := by
  obtain ⟨a, cap, rfl, hc⟩ := h.form
  have HC : Hid _ := hc
  clear hc
  go_enter Tryz.func70, Tryz.ntmps70
  go_wp2_with fail
  go_loopg [5, 6] es.length (fun g l i wi => ∃ k : Nat, k + g = es.length ∧ i = .int .i64 k ∧ SlC wi w.heap.size l (keepTo (fun i => (i : Int) != k0) es k) ∧ Upd (fun _ => False) w wi)
  case atStart => exact ⟨0, by omega, rfl, SlC.nil _ _, Upd.refl _ _⟩
  case round =>
    obtain ⟨k, hk, rfl, hS, hu⟩ := hrel
    have HK : Hid _ := hk
    by_cases hlt : k < es.length
    · clear hk
      obtain ⟨g, rfl, _, hglt, hcell⟩ := HC.out k hlt
      have hkl := keepTo_length (fun i => (i : Int) != k0) es k
      have hstep : keepTo (fun i => (i : Int) != k0) es (k + 1) = keepTo (fun i => (i : Int) != k0) es k ++ if ((k : Int) != k0) then [atE es k] else [] := rfl
      have HST : Hid _ := hstep
      clear hstep
      cases hp : ((k : Int) != k0) with
      | false =>
        rw [hp] at HST
        clear hcell HC
        go_wp2_with fail
        go_roundg (es.length - (k + 1))
        case rel => exact ⟨k + 1, by omega, by go_num, by rw [HST.out]; simpa using hS, hu⟩
        case measure => have := HK.out; omega
      | true =>
        rw [hp] at HST
        have c0 := hu.cell (show w.cell? ⟨g, k * 7, none⟩ = some (.int .i64 (atE es k).root) from hcell 0 (by omega)) (fun f => f)
        have c1 := hu.cell (show w.cell? ⟨g, k * 7 + 1, none⟩ = some (.int .i64 (atE es k).page) from hcell 1 (by omega)) (fun f => f)
        have c2 := hu.cell (show w.cell? ⟨g, k * 7 + 2, none⟩ = some (.int .i64 (atE es k).dest) from hcell 2 (by omega)) (fun f => f)
        have c3 := hu.cell (show w.cell? ⟨g, k * 7 + 3, none⟩ = some (.bool (atE es k).may) from hcell 3 (by omega)) (fun f => f)
        have c4 := hu.cell (show w.cell? ⟨g, k * 7 + 4, none⟩ = some (.bool (atE es k).lf.there) from hcell 4 (by omega)) (fun f => f)
        have c5 := hu.cell (show w.cell? ⟨g, k * 7 + 5, none⟩ = some (.bool (atE es k).lf.wr) from hcell 5 (by omega)) (fun f => f)
        have c6 := hu.cell (show w.cell? ⟨g, k * 7 + 6, none⟩ = some (.int .i64 (atE es k).lf.fr) from hcell 6 (by omega)) (fun f => f)
        clear hcell HC
        generalize atE es k = x at *
        generalize hfs : keepTo (fun i => (i : Int) != k0) es k = fs at *
        clear hfs
        obtain ⟨i, hi, he⟩ := Option.map_eq_some_iff.1 infoEn
        simp only [Prod.mk.injEq] at he
        obtain ⟨he1, he2, he3⟩ := he
        have HE1 : Hid _ := he1
        have HE2 : Hid _ := he2
        have HE3 : Hid _ := he3
        have HI : Hid _ := hi
        clear he1 he2 he3 hi
        have hnews : ∀ j u, (enCells x)[j]? = some u → (wr.alloc (.cells #[.int .i64 x.root, .int .i64 x.page, .int .i64 x.dest, .bool x.may, .bool x.lf.there, .bool x.lf.wr, .int .i64 x.lf.fr] 151)).cell? ((⟨wr.heap.size, 0, none⟩ : Addr).add j) = some u := by
          intro j u hj
          rw [Addr.add_mid, Nat.zero_add, World.cell?_alloc_new, ← hj]
          show (enCells x).toArray[j]? = _
          simp
        have HN : Hid _ := hnews
        have HO : Hid _ := World.ownsRow.alloc hS (.cells #[.int .i64 x.root, .int .i64 x.page, .int .i64 x.dest, .bool x.may, .bool x.lf.there, .bool x.lf.wr, .int .i64 x.lf.fr] 151)
        have HB : Hid (w.heap.size ≤ (wr.alloc (.cells #[.int .i64 x.root, .int .i64 x.page, .int .i64 x.dest, .bool x.may, .bool x.lf.there, .bool x.lf.wr, .int .i64 x.lf.fr] 151)).heap.size) := show _ ≤ _ by have := hu.size; simp only [World.size_alloc]; omega
        have H1 : Hid (∀ u ∈ enCells x, u.oneCell' = true) := show ∀ u ∈ enCells x, _ from fun u hu' => enAll_one [x] u (by simpa [enAll] using hu')
        clear hnews
        go_wp2_with (at_builtin; refine wpList_append_lies _ (by rfl) _ _ 97 (by rfl) w.heap.size 151 i (.agg zeroEn) 7 48 Tryz.underlying97 HI.out HE3.out HE1.out HE2.out (by rfl) (by omega) u5 fs.length (enAll fs) (by rfl) HO.out ⟨wr.heap.size, 0, none⟩ 1 1 (enCells x) (by rfl) (by rfl) HN.out H1.out (by omega) (by unfold maxLen; omega) (by omega) HB.out (wr.heap.size + 1) (by simp) ?_; intro g2 cap2 w2 hown hgrow hat hlt2)
        obtain ⟨hS2, hu2⟩ := SlC.grown hu hS _ hown hgrow
        clear hown hgrow hat hlt2
        go_roundg (es.length - (k + 1))
        case rel => exact ⟨k + 1, by omega, by go_num, by rw [HST.out]; simpa using hS2, hu2⟩
        case measure => have := HK.out; omega
    · have ek : k = es.length := by omega
      subst ek
      clear hk HC
      go_wp2_with fail
      go_ret
      exact ⟨_, rfl, hS, hu⟩
end Go.Proofs.YtadpibcgjgcjhabGreatDoor
/- The document's answer for chapter 3: Forget, Point, Put. -/
namespace Go.Proofs.YtadpibcgjgcjhabGreatDoor
open Go.ChangeShapes Go.WideShapes Go.ChangeAt Go.RowKit
set_option maxRecDepth 100000
attribute [local go_sem ↓] Go.wp_at_zero Go.wp_at_succ

theorem cForget_any (w : World) (base : Nat) (v : Value) (es : List En) (r : Int) (h : SlC w base v es) (hl : es.length ≤ 100) :
    Calls Tryz.prog 72 #[v, .int .i64 r] w fun e w' => ∃ v', e = .returned v' ∧ SlC w' w.heap.size v' (keepTo (fun i => (atE es i).root != r) es es.length) ∧ Upd (fun _ => False) w w' := by
  obtain ⟨a, cap, rfl, hc⟩ := h.form
  have HC : Hid _ := hc
  clear hc
  go_enter Tryz.func72, Tryz.ntmps72
  go_wp2_with fail
  go_loopg [5, 6] es.length (fun g l i wi => ∃ k : Nat, k + g = es.length ∧ i = .int .i64 k ∧ SlC wi w.heap.size l (keepTo (fun i => (atE es i).root != r) es k) ∧ Upd (fun _ => False) w wi)
  case atStart => exact ⟨0, by omega, rfl, SlC.nil _ _, Upd.refl _ _⟩
  case round =>
    obtain ⟨k, hk, rfl, hS, hu⟩ := hrel
    have HK : Hid _ := hk
    by_cases hlt : k < es.length
    · clear hk
      obtain ⟨g, rfl, _, hglt, hcell⟩ := HC.out k hlt
      have hkl := keepTo_length (fun i => (atE es i).root != r) es k
      have hstep : keepTo (fun i => (atE es i).root != r) es (k + 1) = keepTo (fun i => (atE es i).root != r) es k ++ if ((atE es k).root != r) then [atE es k] else [] := rfl
      have HST : Hid _ := hstep
      clear hstep
      cases hp : ((atE es k).root != r) with
      | false =>
        rw [hp] at HST
        have c0 := hu.cell (show w.cell? ⟨g, k * 7, none⟩ = some (.int .i64 (atE es k).root) from hcell 0 (by omega)) (fun f => f)
        clear hcell HC
        go_wp2_with fail
        go_roundg (es.length - (k + 1))
        case rel => exact ⟨k + 1, by omega, by go_num, by rw [HST.out]; simpa using hS, hu⟩
        case measure => have := HK.out; omega
      | true =>
        rw [hp] at HST
        have c0 := hu.cell (show w.cell? ⟨g, k * 7, none⟩ = some (.int .i64 (atE es k).root) from hcell 0 (by omega)) (fun f => f)
        have c1 := hu.cell (show w.cell? ⟨g, k * 7 + 1, none⟩ = some (.int .i64 (atE es k).page) from hcell 1 (by omega)) (fun f => f)
        have c2 := hu.cell (show w.cell? ⟨g, k * 7 + 2, none⟩ = some (.int .i64 (atE es k).dest) from hcell 2 (by omega)) (fun f => f)
        have c3 := hu.cell (show w.cell? ⟨g, k * 7 + 3, none⟩ = some (.bool (atE es k).may) from hcell 3 (by omega)) (fun f => f)
        have c4 := hu.cell (show w.cell? ⟨g, k * 7 + 4, none⟩ = some (.bool (atE es k).lf.there) from hcell 4 (by omega)) (fun f => f)
        have c5 := hu.cell (show w.cell? ⟨g, k * 7 + 5, none⟩ = some (.bool (atE es k).lf.wr) from hcell 5 (by omega)) (fun f => f)
        have c6 := hu.cell (show w.cell? ⟨g, k * 7 + 6, none⟩ = some (.int .i64 (atE es k).lf.fr) from hcell 6 (by omega)) (fun f => f)
        clear hcell HC
        generalize atE es k = x at *
        generalize hfs : keepTo (fun i => (atE es i).root != r) es k = fs at *
        clear hfs
        obtain ⟨i, hi, he⟩ := Option.map_eq_some_iff.1 infoEn
        simp only [Prod.mk.injEq] at he
        obtain ⟨he1, he2, he3⟩ := he
        have HE1 : Hid _ := he1
        have HE2 : Hid _ := he2
        have HE3 : Hid _ := he3
        have HI : Hid _ := hi
        clear he1 he2 he3 hi
        have hnews : ∀ j u, (enCells x)[j]? = some u → (wr.alloc (.cells #[.int .i64 x.root, .int .i64 x.page, .int .i64 x.dest, .bool x.may, .bool x.lf.there, .bool x.lf.wr, .int .i64 x.lf.fr] 151)).cell? ((⟨wr.heap.size, 0, none⟩ : Addr).add j) = some u := by
          intro j u hj
          rw [Addr.add_mid, Nat.zero_add, World.cell?_alloc_new, ← hj]
          show (enCells x).toArray[j]? = _
          simp
        have HN : Hid _ := hnews
        have HO : Hid _ := World.ownsRow.alloc hS (.cells #[.int .i64 x.root, .int .i64 x.page, .int .i64 x.dest, .bool x.may, .bool x.lf.there, .bool x.lf.wr, .int .i64 x.lf.fr] 151)
        have HB : Hid (w.heap.size ≤ (wr.alloc (.cells #[.int .i64 x.root, .int .i64 x.page, .int .i64 x.dest, .bool x.may, .bool x.lf.there, .bool x.lf.wr, .int .i64 x.lf.fr] 151)).heap.size) := show _ ≤ _ by have := hu.size; simp only [World.size_alloc]; omega
        have H1 : Hid (∀ u ∈ enCells x, u.oneCell' = true) := show ∀ u ∈ enCells x, _ from fun u hu' => enAll_one [x] u (by simpa [enAll] using hu')
        clear hnews
        go_wp2_with (at_builtin; refine wpList_append_lies _ (by rfl) _ _ 97 (by rfl) w.heap.size 151 i (.agg zeroEn) 7 48 Tryz.underlying97 HI.out HE3.out HE1.out HE2.out (by rfl) (by omega) u5 fs.length (enAll fs) (by rfl) HO.out ⟨wr.heap.size, 0, none⟩ 1 1 (enCells x) (by rfl) (by rfl) HN.out H1.out (by omega) (by unfold maxLen; omega) (by omega) HB.out (wr.heap.size + 1) (by simp) ?_; intro g2 cap2 w2 hown hgrow hat hlt2)
        obtain ⟨hS2, hu2⟩ := SlC.grown hu hS _ hown hgrow
        clear hown hgrow hat hlt2
        go_roundg (es.length - (k + 1))
        case rel => exact ⟨k + 1, by omega, by go_num, by rw [HST.out]; simpa using hS2, hu2⟩
        case measure => have := HK.out; omega
    · have ek : k = es.length := by omega
      subst ek
      clear hk HC
      go_wp2_with fail
      go_ret
      exact ⟨_, rfl, hS, hu⟩

theorem SlC.weak {w : World} {b b' : Nat} {v : Value} {es : List En} (h : SlC w b v es) (hb : b' ≤ b) : SlC w b' v es := by
  refine ⟨h.1, ?_⟩
  rcases h.2 with h0 | ⟨g, cap, cur, hv, hg, r⟩
  · exact Or.inl h0
  · exact Or.inr ⟨g, cap, cur, hv, Nat.le_trans hb hg, r⟩
/-- Put, plainly. -/
def putC (es : List En) (e : En) : List En :=
  let l := keepTo (fun i => (i : Int) != fndI es e.root e.page) es es.length ++ [e]
  if 4 < l.length then keepTo (fun i => (i : Int) != 0) l l.length else l
theorem cPut_any (w : World) (base : Nat) (v : Value) (es : List En) (x : En) (h : SlC w base v es) (hl : es.length ≤ 50) :
    Calls Tryz.prog 99 #[v, .agg #[.int .i64 x.root, .int .i64 x.page, .int .i64 x.dest, .bool x.may, .bool x.lf.there, .bool x.lf.wr, .int .i64 x.lf.fr]] w fun e w' => ∃ v', e = .returned v' ∧ SlC w' w.heap.size v' (putC es x) ∧ Upd (fun _ => False) w w' := by
  have u0 := (Upd.refl (fun _ => False) w).alloc (.cells #[.int .i64 x.root, .int .i64 x.page, .int .i64 x.dest, .bool x.may, .bool x.lf.there, .bool x.lf.wr, .int .i64 x.lf.fr] 151)
  have h0 := h.upd u0 (fun _ _ f => f)
  have cc : ∀ j, (w.alloc (.cells #[.int .i64 x.root, .int .i64 x.page, .int .i64 x.dest, .bool x.may, .bool x.lf.there, .bool x.lf.wr, .int .i64 x.lf.fr] 151)).cell? ⟨w.heap.size, j, none⟩ = (enCells x)[j]? := fun j => by
    rw [World.cell?_alloc_new]
    show (enCells x).toArray[j]? = _
    simp
  have H0 : Hid _ := h0
  have U0 : Hid _ := u0
  have CC : Hid _ := cc
  clear h0 u0 cc h
  go_enter Tryz.func99, Tryz.ntmps99
  go_wp2_with fail
  refine (cFind_any _ base _ es _ _ H0.out (by omega)).mono ?_
  rintro e w1 ⟨rfl, rfl⟩
  go_wp2_with fail
  refine (cWithout_any _ base _ es _ H0.out (by omega)).mono ?_
  rintro e w2 ⟨l, rfl, hS2, hu2⟩
  have hU2 := U0.out.trans hu2 (fun _ _ f => f)
  have hS3 : SlC w2 w.heap.size l (keepTo (fun i => (i : Int) != fndI es x.root x.page) es es.length) := hS2.weak (by simp)
  have hkl := keepTo_length (fun i => (i : Int) != fndI es x.root x.page) es es.length
  have c0 := hu2.cell (show _ = some (.int .i64 x.root) from CC.out 0) (fun f => f)
  have c1 := hu2.cell (show _ = some (.int .i64 x.page) from CC.out 1) (fun f => f)
  have c2 := hu2.cell (show _ = some (.int .i64 x.dest) from CC.out 2) (fun f => f)
  have c3 := hu2.cell (show _ = some (.bool x.may) from CC.out 3) (fun f => f)
  have c4 := hu2.cell (show _ = some (.bool x.lf.there) from CC.out 4) (fun f => f)
  have c5 := hu2.cell (show _ = some (.bool x.lf.wr) from CC.out 5) (fun f => f)
  have c6 := hu2.cell (show _ = some (.int .i64 x.lf.fr) from CC.out 6) (fun f => f)
  have hput : putC es x = if 4 < (keepTo (fun i => (i : Int) != fndI es x.root x.page) es es.length ++ [x]).length then keepTo (fun i => (i : Int) != 0) (keepTo (fun i => (i : Int) != fndI es x.root x.page) es es.length ++ [x]) (keepTo (fun i => (i : Int) != fndI es x.root x.page) es es.length ++ [x]).length else keepTo (fun i => (i : Int) != fndI es x.root x.page) es es.length ++ [x] := rfl
  have HP : Hid _ := hput
  clear hput hS2 hu2 CC U0 H0
  generalize keepTo (fun i => (i : Int) != fndI es x.root x.page) es es.length = fs at *
  obtain ⟨i, hi, he⟩ := Option.map_eq_some_iff.1 infoEn
  simp only [Prod.mk.injEq] at he
  obtain ⟨he1, he2, he3⟩ := he
  have HE1 : Hid _ := he1
  have HE2 : Hid _ := he2
  have HE3 : Hid _ := he3
  have HI : Hid _ := hi
  clear he1 he2 he3 hi
  have hnews : ∀ j u, (enCells x)[j]? = some u → (w2.alloc (.cells #[.int .i64 x.root, .int .i64 x.page, .int .i64 x.dest, .bool x.may, .bool x.lf.there, .bool x.lf.wr, .int .i64 x.lf.fr] 151)).cell? ((⟨w2.heap.size, 0, none⟩ : Addr).add j) = some u := by
    intro j u hj
    rw [Addr.add_mid, Nat.zero_add, World.cell?_alloc_new, ← hj]
    show (enCells x).toArray[j]? = _
    simp
  have HN : Hid _ := hnews
  have HO : Hid _ := World.ownsRow.alloc hS3 (.cells #[.int .i64 x.root, .int .i64 x.page, .int .i64 x.dest, .bool x.may, .bool x.lf.there, .bool x.lf.wr, .int .i64 x.lf.fr] 151)
  have HB : Hid (w.heap.size ≤ (w2.alloc (.cells #[.int .i64 x.root, .int .i64 x.page, .int .i64 x.dest, .bool x.may, .bool x.lf.there, .bool x.lf.wr, .int .i64 x.lf.fr] 151)).heap.size) := show _ ≤ _ by have := hU2.size; simp only [World.size_alloc]; omega
  have H1 : Hid (∀ u ∈ enCells x, u.oneCell' = true) := show ∀ u ∈ enCells x, _ from fun u hu' => enAll_one [x] u (by simpa [enAll] using hu')
  clear hnews
  by_cases h4 : 4 < fs.length + 1
  · have d4 : decide ((4 : Int) < (fs.length : Int) + 1) = true := by simp; omega
    go_wp2_with (at_builtin; refine wpList_append_lies _ (by rfl) _ _ 97 (by rfl) w.heap.size 151 i (.agg zeroEn) 7 48 Tryz.underlying97 HI.out HE3.out HE1.out HE2.out (by rfl) (by omega) l fs.length (enAll fs) (by rfl) HO.out ⟨w2.heap.size, 0, none⟩ 1 1 (enCells x) (by rfl) (by rfl) HN.out H1.out (by omega) (by unfold maxLen; omega) (by omega) HB.out (w2.heap.size + 1) (by simp) ?_; intro g2 cap2 w3 hown hgrow hat hlt2)
    obtain ⟨hS4, hu4⟩ := SlC.grown hU2 hS3 _ hown hgrow
    have hlen : (fs ++ [x]).length = fs.length + 1 := by simp
    have hS5 := hS4
    rw [← hlen] at hS5
    clear hown hgrow hat hlt2
    have HX := cWithout_any w3 w.heap.size _ (fs ++ [x]) 0 hS5 (by omega)
    rw [hlen] at HX
    refine Calls.mono HX ?_
    rintro e w4 ⟨v4, rfl, hS6, hu6⟩
    have hz := hu4.size
    have HR : Hid _ := hu4.trans hu6 (fun _ _ f => f)
    have HQ : Hid _ := hS6.weak hz
    clear hS6 hu6 hS5 hS4 hu4 HX
    go_wp2_with fail
    go_ret
    refine ⟨_, rfl, ?_, HR.out⟩
    rw [HP.out, if_pos (by rw [hlen]; exact h4), hlen]
    exact HQ.out
  · have d4 : decide ((4 : Int) < (fs.length : Int) + 1) = false := by simp; omega
    go_wp2_with (at_builtin; refine wpList_append_lies _ (by rfl) _ _ 97 (by rfl) w.heap.size 151 i (.agg zeroEn) 7 48 Tryz.underlying97 HI.out HE3.out HE1.out HE2.out (by rfl) (by omega) l fs.length (enAll fs) (by rfl) HO.out ⟨w2.heap.size, 0, none⟩ 1 1 (enCells x) (by rfl) (by rfl) HN.out H1.out (by omega) (by unfold maxLen; omega) (by omega) HB.out (w2.heap.size + 1) (by simp) ?_; intro g2 cap2 w3 hown hgrow hat hlt2)
    obtain ⟨hS4, hu4⟩ := SlC.grown hU2 hS3 _ hown hgrow
    have hlen : (fs ++ [x]).length = fs.length + 1 := by simp
    go_ret
    refine ⟨_, rfl, ?_, hu4⟩
    rw [HP.out, if_neg (by rw [hlen]; exact h4)]
    exact hS4
end Go.Proofs.YtadpibcgjgcjhabGreatDoor
/- The document's answer for chapter 3: an entry behind Point; two lists of entries held against each other. -/
namespace Go.Proofs.YtadpibcgjgcjhabGreatDoor
open Go.ChangeShapes Go.WideShapes Go.ChangeAt Go.RowKit
set_option maxRecDepth 100000
attribute [local go_sem ↓] Go.wp_at_zero Go.wp_at_succ

/-- An entry behind Point. -/
def pnt (d : Int) (l : Lf) (e : En) : En := if e.dest == d then { e with lf := l } else e
def pntTo (d : Int) (l : Lf) (es : List En) : Nat → List En
  | 0 => []
  | k + 1 => pntTo d l es k ++ [pnt d l (atE es k)]
def pntN (d : Int) (es : List En) : Nat → Nat
  | 0 => 0
  | k + 1 => pntN d es k + if (atE es k).dest == d then 1 else 0
theorem pntTo_length (d : Int) (l : Lf) (es : List En) : ∀ k, (pntTo d l es k).length = k
  | 0 => rfl
  | k + 1 => by simp [pntTo, pntTo_length d l es k]
theorem pntN_le (d : Int) (es : List En) : ∀ k, pntN d es k ≤ k
  | 0 => Nat.le_refl _
  | k + 1 => by
    have := pntN_le d es k
    unfold pntN
    split <;> omega
end Go.Proofs.YtadpibcgjgcjhabGreatDoor
/- A guest, plainly; the document's answer for chapter 4 in memory. -/
namespace Go.Proofs.YtadpibcgjgcjhabGreatDoor
open Go.ChangeShapes Go.WideShapes Go.ChangeAt Go.RowKit
set_option maxRecDepth 100000

/-- A guest: its pages, its cache (leaves are looked up), its root, how often a table was read. -/
structure Gs where
  m : Mp
  c : List En
  root : Int
  walks : Int
def gs0 : Gs := ⟨mp0, [], -1, 0⟩
def gTouch (s : Pl) (g : Gs) (n : Int) (wt : Bool) : (Int × Int) × Pl × Gs := (((touchR s g.m n wt).1.1, (touchR s g.m n wt).1.2.2), (touchR s g.m n wt).2.1, { g with m := (touchR s g.m n wt).2.2 })
/-- Behind the table: the page To is touched. -/
def gStep (s : Pl) (g : Gs) (x : En) (found wt : Bool) : (Int × Int) × Pl × Gs :=
  if wt && !x.may then ((0, 5), s, g)
  else if 0 < (gTouch s g x.dest wt).1.2 then ((0, (gTouch s g x.dest wt).1.2), (gTouch s g x.dest wt).2)
  else (((gTouch s g x.dest wt).1.1, 0), (gTouch s g x.dest wt).2.1, if found then (gTouch s g x.dest wt).2.2 else { (gTouch s g x.dest wt).2.2 with c := putC (gTouch s g x.dest wt).2.2.c x })
/-- What a table's byte says. -/
def gEn (root page b : Int) : En := ⟨root, page, b % 16, b / 64 % 2 == 1, lf0⟩
/-- The table is read. -/
def gWalk (s : Pl) (g : Gs) (page : Int) (wt : Bool) : (Int × Int) × Pl × Gs :=
  if 0 < (gTouch s g g.root false).1.2 then ((0, (gTouch s g g.root false).1.2), (gTouch s g g.root false).2)
  else if (gTouch s g g.root false).2.1.byt (gTouch s g g.root false).1.1.toNat page.toNat < 128 then ((0, 5), (gTouch s g g.root false).2.1, { (gTouch s g g.root false).2.2 with walks := g.walks + 1 })
  else gStep (gTouch s g g.root false).2.1 { (gTouch s g g.root false).2.2 with walks := g.walks + 1 } (gEn g.root page ((gTouch s g g.root false).2.1.byt (gTouch s g g.root false).1.1.toNat page.toNat)) false wt
/-- The frame of an address: D2. -/
def gAt (s : Pl) (g : Gs) (addr : Int) (wt : Bool) : (Int × Int) × Pl × Gs :=
  if addr < 0 ∨ 255 < addr then ((0, 1), s, g)
  else if g.root = -1 then gTouch s g (addr / 16) wt
  else if 0 ≤ fndI g.c g.root (addr / 16) then gStep s g (atE g.c (fndI g.c g.root (addr / 16)).toNat) true wt
  else gWalk s g (addr / 16) wt
def gLoad (s : Pl) (g : Gs) (addr : Int) : (Int × Int) × Pl × Gs :=
  if 0 < (gAt s g addr false).1.2 then ((0, (gAt s g addr false).1.2), (gAt s g addr false).2)
  else (((gAt s g addr false).2.1.byt (gAt s g addr false).1.1.toNat (addr % 16).toNat, 0), (gAt s g addr false).2)
def gStore (s : Pl) (g : Gs) (addr v : Int) : Int × Pl × Gs :=
  if 0 < (gAt s g addr true).1.2 then ((gAt s g addr true).1.2, (gAt s g addr true).2)
  else (((gAt s g addr true).2.1.set (gAt s g addr true).1.1 (addr % 16) v).1, ((gAt s g addr true).2.1.set (gAt s g addr true).1.1 (addr % 16) v).2, (gAt s g addr true).2.2)
def gRoot (g : Gs) (n : Int) : Int × Gs := if n < -1 ∨ 15 < n then (1, g) else (0, { g with root := n })
def gForget (g : Gs) (addr : Int) : Int × Gs :=
  if addr < 0 ∨ 255 < addr then (1, g) else (0, { g with c := keepTo (fun i => (i : Int) != fndI g.c g.root (addr / 16)) g.c g.c.length })
def gForgetAll (g : Gs) (n : Int) : Int × Gs := if onB n then (0, { g with c := keepTo (fun i => (atE g.c i).root != n) g.c g.c.length }) else (1, g)
/-- The entries as they are told: each leaf is its page's. -/
def gShow (m : Mp) (e : En) : En := { e with lf := m.lf e.dest.toNat }
def gCached (g : Gs) : List En := g.c.map (gShow g.m)

/-- What lies behind the map in a guest's block. -/
def gRest (v : Value) (root walks : Int) : Nat → Option Value := fun o => if o = 65 then some v else if o = 66 then some (.int .i64 root) else if o = 67 then some (.int .i64 walks) else none
/-- The document's guest in memory: its block bg, its pool's block bm, the list of its entries v. -/
structure RGu (w : World) (bg bm base : Nat) (v : Value) (g : Gs) : Prop where
  mp : RMap w bg bm { g.m with rest := gRest v g.root g.walks }
  sl : SlC w base v g.c
  nb : ∀ k, v.ownBlock = some k → k ≠ bg ∧ k ≠ bm
theorem SlC.ownLt {w : World} {base : Nat} {v : Value} {es : List En} (h : SlC w base v es) {g : Nat} (hg : v.ownBlock = some g) : base ≤ g ∧ g < w.heap.size := by
  rcases h.2 with ⟨rfl, _⟩ | ⟨g', cap, cur, rfl, hb, hg', _⟩
  · simp [Value.ownBlock] at hg
  · obtain rfl : g' = g := by simpa [Value.ownBlock] using hg
    exact ⟨hb, (Array.getElem?_eq_some_iff.1 hg').1⟩
/-- Whatever list is kept now: the one that was kept, or a new one. -/
def Fr (w : World) (v v' : Value) : Prop := ∀ k, v'.ownBlock = some k → v.ownBlock = some k ∨ w.heap.size ≤ k
theorem Fr.refl (w : World) (v : Value) : Fr w v v := fun _ h => Or.inl h
theorem Fr.of {w w2 : World} {v v' : Value} {z : Nat} {es : List En} (hs : SlC w2 z v' es) (hz : w.heap.size ≤ z) : Fr w v v' := fun _ h => Or.inr (Nat.le_trans hz (hs.ownLt h).1)
theorem touch_rest (s : Pl) (m : Mp) (n : Int) (wt : Bool) (r : Nat → Option Value) : touchR s { m with rest := r } n wt = ((touchR s m n wt).1, (touchR s m n wt).2.1, { (touchR s m n wt).2.2 with rest := r }) := by
  unfold touchR
  repeat' split
  all_goals first | rfl | contradiction
variable {w w' : World} {bg bm base : Nat} {v : Value} {g : Gs}
theorem RGu.c65 (h : RGu w bg bm base v g) : w.cell? ⟨bg, 65, none⟩ = some v := h.mp.rs 65 v (by omega) rfl
theorem RGu.c66 (h : RGu w bg bm base v g) : w.cell? ⟨bg, 66, none⟩ = some (.int .i64 g.root) := h.mp.rs 66 _ (by omega) rfl
theorem RGu.c67 (h : RGu w bg bm base v g) : w.cell? ⟨bg, 67, none⟩ = some (.int .i64 g.walks) := h.mp.rs 67 _ (by omega) rfl
theorem RGu.upd {S : Nat → Prop} (h : RGu w bg bm base v g) (u : Upd S w w') (hb : ¬ S bg) (hv : ∀ k, v.ownBlock = some k → ¬ S k) : RGu w' bg bm base v g := ⟨h.mp.upd u hb, h.sl.upd u hv, h.nb⟩
/-- The map's own cells turn. -/
theorem RGu.map {m' : Mp} (h : RGu w bg bm base v g) (u : Upd (fun k => k = bm ∨ k = bg) w w') (hm : RMap w' bg bm { m' with rest := gRest v g.root g.walks }) : RGu w' bg bm base v { g with m := m' } :=
  ⟨hm, h.sl.upd u (fun k hk e => by have := h.nb k hk; omega), h.nb⟩
/-- A cell behind the map turns. -/
theorem RMap.setRest {m : Mp} {o : Nat} {u : Value} {r : Nat → Option Value} (h : RMap w bg bm m) (ho : 65 ≤ o) (hc : ∃ z, w.cell? ⟨bg, o, none⟩ = some z) (hr : ∀ p, p ≠ o → r p = m.rest p) (hr2 : r o = some u) : RMap (w.setCell ⟨bg, o, none⟩ u) bg bm { m with rest := r } where
  pool := by rw [World.cell?_setCell_other _ _ _ _ (addr_ne (Or.inr (by omega)))]; exact h.pool
  st := fun k hk => by rw [World.cell?_setCell_other _ _ _ _ (addr_ne (Or.inr (by omega)))]; exact h.st k hk
  th := fun k hk => by rw [World.cell?_setCell_other _ _ _ _ (addr_ne (Or.inr (by omega)))]; exact h.th k hk
  wr := fun k hk => by rw [World.cell?_setCell_other _ _ _ _ (addr_ne (Or.inr (by omega)))]; exact h.wr k hk
  fr := fun k hk => by rw [World.cell?_setCell_other _ _ _ _ (addr_ne (Or.inr (by omega)))]; exact h.fr k hk
  fz := fun p => by rw [World.frozen?_setCell]; exact h.fz p
  rs := fun p z hp hz => by
    by_cases e : p = o
    · subst e
      obtain ⟨z0, h0⟩ := hc
      rw [World.cell?_setCell_same _ _ _ h0]
      exact hr2.symm.trans hz
    · rw [World.cell?_setCell_other _ _ _ _ (addr_ne (Or.inr (Ne.symm e)))]
      exact h.rs p z hp (by rw [← hr p e]; exact hz)
theorem RGu.setWalks (h : RGu w bg bm base v g) (n : Int) : RGu (w.setCell ⟨bg, 67, none⟩ (.int .i64 n)) bg bm base v { g with walks := n } :=
  ⟨h.mp.setRest (r := gRest v g.root n) (by omega) ⟨_, h.c67⟩ (fun p hp => by simp [gRest, hp]) rfl, h.sl.upd (Upd.one w bg 67 _) (fun k hk e => (h.nb k hk).1 e), h.nb⟩
theorem RGu.setRoot (h : RGu w bg bm base v g) (n : Int) : RGu (w.setCell ⟨bg, 66, none⟩ (.int .i64 n)) bg bm base v { g with root := n } :=
  ⟨h.mp.setRest (r := gRest v n g.walks) (by omega) ⟨_, h.c66⟩ (fun p hp => by simp [gRest, hp]) rfl, h.sl.upd (Upd.one w bg 66 _) (fun k hk e => (h.nb k hk).1 e), h.nb⟩
theorem RGu.setC {z : Nat} {v' : Value} {c' : List En} (h : RGu w bg bm base v g) (hs : SlC w z v' c') (hz : base ≤ z) (h1 : bg < z) (h2 : bm < z) : RGu (w.setCell ⟨bg, 65, none⟩ v') bg bm base v' { g with c := c' } := by
  have hg : ∀ k, v'.ownBlock = some k → z ≤ k := fun k hk => by
    rcases hs.2 with ⟨rfl, _⟩ | ⟨g', cap, cur, rfl, hb, _, _⟩
    · simp [Value.ownBlock] at hk
    · obtain rfl : g' = k := by simpa [Value.ownBlock] using hk
      exact hb
  refine ⟨h.mp.setRest (r := gRest v' g.root g.walks) (by omega) ⟨_, h.c65⟩ (fun p hp => by simp [gRest, hp]) rfl, (hs.weak hz).upd (Upd.one w bg 65 _) (fun k hk e => by have := hg k hk; omega), fun k hk => by have := hg k hk; omega⟩
end Go.Proofs.YtadpibcgjgcjhabGreatDoor
/- Touch, plainly: the frame it tells is one, and bytes stay bytes. -/
namespace Go.Proofs.YtadpibcgjgcjhabGreatDoor
def BytOk (s : Pl) : Prop := ∀ f i, 0 ≤ s.byt f i ∧ s.byt f i ≤ 255
theorem take_or (s : Pl) : (∃ j : Nat, j < s.n ∧ s.take = ((j : Int), 0, { s with refs := setAt s.refs j 1, byt := setAt s.byt j fun _ => 0 })) ∨ s.take = (0, 3, s) := by
  unfold Pl.take
  cases h : firstFrom s.refs 0 s.n with
  | none => exact Or.inr rfl
  | some j =>
    refine Or.inl ⟨j, ?_, rfl⟩
    have aux : ∀ (m k : Nat), firstFrom s.refs k m = some j → k ≤ j ∧ j < k + m := by
      intro m
      induction m with
      | zero => intro k hk; simp [firstFrom] at hk
      | succ m ih =>
        intro k hk
        unfold firstFrom at hk
        split at hk
        · cases hk; omega
        · have := ih (k + 1) hk; omega
    have := aux s.n 0 h
    omega
theorem share_same (s : Pl) (f d : Int) : (s.share f d).2.n = s.n ∧ (s.share f d).2.byt = s.byt := by unfold Pl.share; split <;> exact ⟨rfl, rfl⟩
theorem touch_code (s : Pl) (m : Mp) (n : Int) (wt : Bool) : 0 ≤ (touchR s m n wt).1.2.2 := by
  unfold touchR
  repeat' split
  all_goals first | (simp; done) | skip
  rcases take_or s with ⟨j, _, e⟩ | e <;> rw [e] <;> simp
theorem touch_frame {s : Pl} {a b : Mp} (h : Inv s a b) (n : Int) (wt : Bool) (he : (touchR s a n wt).1.2.2 = 0) :
    0 ≤ (touchR s a n wt).1.1 ∧ (touchR s a n wt).1.1 < (touchR s a n wt).2.1.n ∧ onB n = true ∧ ((touchR s a n wt).2.2.lf n.toNat).there = true ∧ ((touchR s a n wt).2.2.lf n.toNat).fr = (touchR s a n wt).1.1 := by
  unfold touchR at he ⊢
  cases ho : onB n with
  | false => simp [ho] at he
  | true =>
    obtain ⟨n0, n1⟩ := (onB_iff n).1 ho
    have hk : n.toNat < 16 := by omega
    simp only [ho, if_true] at he ⊢
    by_cases h0 : a.st n.toNat = 0
    · simp [h0] at he
    · rw [if_neg h0] at he ⊢
      by_cases h2 : a.st n.toNat = 2
      · simp [h2] at he
      · rw [if_neg h2] at he ⊢
        cases ht : (a.lf n.toNat).there with
        | true =>
          have hin := h.ina n.toNat hk ht
          cases hw : (!wt || (a.lf n.toNat).wr) with
          | true => simp [ht, hin]
          | false =>
            simp only [ht, hw, Bool.and_false, Bool.false_eq_true, if_false, Bool.true_and] at he ⊢
            cases hr : (s.refs (a.lf n.toNat).fr.toNat == 1) with
            | true => simp [setAt, hin]
            | false =>
              simp only [hr, Bool.false_eq_true, if_false] at he ⊢
              rcases take_or s with ⟨j, hj, e⟩ | e
              · rw [e]
                simp only [if_true, setAt]
                exact ⟨by omega, by rw [(share_same _ _ _).1]; show (j : Int) < s.n; omega, trivial, by simp, by simp⟩
              · rw [e] at he; simp at he
        | false =>
          simp only [ht, Bool.false_and, Bool.false_eq_true, if_false] at he ⊢
          rcases take_or s with ⟨j, hj, e⟩ | e
          · rw [e]
            simp only [if_true, setAt]
            exact ⟨by omega, by show (j : Int) < s.n; omega, trivial, by simp, by simp⟩
          · rw [e] at he; simp at he
theorem BytOk.touch {s : Pl} (h : BytOk s) (m : Mp) (n : Int) (wt : Bool) : BytOk (touchR s m n wt).2.1 := by
  have ht : BytOk s.take.2.2 := by
    rcases take_or s with ⟨j, _, e⟩ | e
    · rw [e]
      intro f i
      show 0 ≤ setAt s.byt j (fun _ => 0) f i ∧ setAt s.byt j (fun _ => 0) f i ≤ 255
      by_cases ef : f = j
      · subst ef; simp [setAt]
      · rw [setAt_other _ _ _ _ ef]; exact h f i
    · rw [e]; exact h
  unfold touchR
  repeat' split
  all_goals first | exact h | exact ht | skip
  intro f i
  rw [(share_same _ _ _).2]
  show 0 ≤ setAt s.take.2.2.byt s.take.1.toNat (s.take.2.2.byt (m.lf n.toNat).fr.toNat) f i ∧ setAt s.take.2.2.byt s.take.1.toNat (s.take.2.2.byt (m.lf n.toNat).fr.toNat) f i ≤ 255
  by_cases ef : f = s.take.1.toNat
  · rw [ef, setAt_same]; exact ht _ _
  · rw [setAt_other _ _ _ _ ef]; exact ht f i
end Go.Proofs.YtadpibcgjgcjhabGreatDoor
/- A guest, plainly: what At keeps. -/
namespace Go.Proofs.YtadpibcgjgcjhabGreatDoor

/-- What holds of a guest and its pool (b: another map on that pool). -/
structure GInv (s : Pl) (g : Gs) (b : Mp) (W : Int) : Prop where
  inv : Inv s g.m b
  byt : BytOk s
  len : g.c.length ≤ 4
  w0 : 0 ≤ g.walks
  w1 : g.walks ≤ W
  r0 : -1 ≤ g.root
  r1 : g.root ≤ 15
  en : ∀ x ∈ g.c, 0 ≤ x.dest ∧ x.dest < 16
theorem GInv.more {s : Pl} {g : Gs} {b : Mp} {W W' : Int} (h : GInv s g b W) (hw : W ≤ W') : GInv s g b W' := { h with w1 := Int.le_trans h.w1 hw }
theorem GInv.touch {s : Pl} {g : Gs} {b : Mp} {W : Int} (h : GInv s g b W) (n : Int) (wt : Bool) : GInv (gTouch s g n wt).2.1 (gTouch s g n wt).2.2 b W :=
  ⟨h.inv.touch n wt, h.byt.touch g.m n wt, h.len, h.w0, h.w1, h.r0, h.r1, h.en⟩
theorem keepTo_mem (P : Nat → Bool) (es : List En) : ∀ k, k ≤ es.length → ∀ x ∈ keepTo P es k, x ∈ es
  | 0, _, x, hx => by simp [keepTo] at hx
  | k + 1, hk, x, hx => by
    unfold keepTo at hx
    rw [List.mem_append] at hx
    rcases hx with hx | hx
    · exact keepTo_mem P es k (by omega) x hx
    · split at hx
      · rw [List.mem_singleton] at hx
        subst hx
        simp [atE, List.getD_eq_getElem?_getD, List.getElem?_eq_getElem (show k < es.length by omega)]
      · simp at hx
theorem keepTo_drop0 (l : List En) (h : 0 < l.length) : (keepTo (fun i => (i : Int) != 0) l l.length).length < l.length := by
  have aux : ∀ k, k + 1 ≤ l.length → (keepTo (fun i => (i : Int) != 0) l (k + 1)).length ≤ k := by
    intro k
    induction k with
    | zero => intro _; simp [keepTo]
    | succ k ih =>
      intro hk
      have := ih (by omega)
      unfold keepTo
      rw [List.length_append]
      split
      · simp; omega
      · simp; omega
  have := aux (l.length - 1) (by omega)
  rw [show l.length - 1 + 1 = l.length by omega] at this
  omega
theorem putC_le (es : List En) (x : En) (h : es.length ≤ 4) : (putC es x).length ≤ 4 := by
  have h1 := keepTo_length (fun i => (i : Int) != fndI es x.root x.page) es es.length
  unfold putC
  simp only
  generalize keepTo (fun i => (i : Int) != fndI es x.root x.page) es es.length = l at *
  split
  · have := keepTo_drop0 (l ++ [x]) (by simp)
    simp at this ⊢
    omega
  · omega
theorem putC_mem (es : List En) (x : En) : ∀ y ∈ putC es x, y ∈ es ∨ y = x := by
  intro y hy
  unfold putC at hy
  simp only at hy
  have aux : ∀ z ∈ keepTo (fun i => (i : Int) != fndI es x.root x.page) es es.length ++ [x], z ∈ es ∨ z = x := by
    intro z hz
    rw [List.mem_append, List.mem_singleton] at hz
    rcases hz with hz | hz
    · exact Or.inl (keepTo_mem _ _ _ (Nat.le_refl _) z hz)
    · exact Or.inr hz
  split at hy
  · exact aux y (keepTo_mem _ _ _ (Nat.le_refl _) y hy)
  · exact aux y hy
theorem GInv.step {s : Pl} {g : Gs} {b : Mp} {W : Int} (h : GInv s g b W) (x : En) (hx : 0 ≤ x.dest ∧ x.dest < 16) (found wt : Bool) : GInv (gStep s g x found wt).2.1 (gStep s g x found wt).2.2 b W := by
  unfold gStep
  split
  · exact h
  · split
    · exact h.touch _ _
    · have ht := h.touch x.dest wt
      cases found with
      | true => exact ht
      | false =>
        simp only [Bool.false_eq_true, if_false]
        exact ⟨ht.inv, ht.byt, putC_le _ _ ht.len, ht.w0, ht.w1, ht.r0, ht.r1, fun y hy => by
          rcases putC_mem _ _ y hy with hy | rfl
          · exact ht.en y hy
          · exact hx⟩
theorem GInv.at {s : Pl} {g : Gs} {b : Mp} {W : Int} (h : GInv s g b W) (addr : Int) (wt : Bool) : GInv (gAt s g addr wt).2.1 (gAt s g addr wt).2.2 b (W + 1) := by
  have h' := h.more (show W ≤ W + 1 by omega)
  unfold gAt
  split
  · exact h'
  · split
    · exact h'.touch _ _
    · split
      · next hf =>
        rcases Nat.lt_or_ge (fndI g.c g.root (addr / 16)).toNat g.c.length with hlt | hge
        · exact h'.step _ (h'.en _ (by simp [atE, List.getD_eq_getElem?_getD, List.getElem?_eq_getElem hlt])) _ _
        · exact h'.step _ (by simp [atE, List.getD_eq_getElem?_getD, List.getElem?_eq_none hge, en0]) _ _
      · unfold gWalk
        have ht := h.touch g.root false
        split
        · exact ht.more (by omega)
        · have hw : GInv (gTouch s g g.root false).2.1 { (gTouch s g g.root false).2.2 with walks := g.walks + 1 } b (W + 1) :=
            ⟨ht.inv, ht.byt, ht.len, by have := h.w0; show 0 ≤ g.walks + 1; omega, by have := h.w1; show g.walks + 1 ≤ W + 1; omega, ht.r0, ht.r1, ht.en⟩
          split
          · exact hw
          · exact hw.step _ (by show 0 ≤ _ % 16 ∧ _ % 16 < 16; omega) _ _
theorem idx_or (es : List En) (r p : Int) : (∃ j : Nat, j < es.length ∧ fndI es r p = j) ∨ fndI es r p = -1 := by
  unfold fndI
  cases h : es.findIdx? (isAt r p) with
  | none => exact Or.inr rfl
  | some i =>
    refine Or.inl ⟨i, ?_, rfl⟩
    have := (List.findIdx?_eq_some_iff_getElem.1 h).1
    exact this
theorem gTouch_code (s : Pl) (g : Gs) (n : Int) (wt : Bool) : 0 ≤ (gTouch s g n wt).1.2 := touch_code s g.m n wt
theorem gStep_code (s : Pl) (g : Gs) (x : En) (found wt : Bool) : 0 ≤ (gStep s g x found wt).1.2 := by
  unfold gStep
  split
  · simp
  · split
    · exact gTouch_code _ _ _ _
    · simp
theorem gAt_code (s : Pl) (g : Gs) (addr : Int) (wt : Bool) : 0 ≤ (gAt s g addr wt).1.2 := by
  unfold gAt
  split
  · simp
  · split
    · exact gTouch_code _ _ _ _
    · split
      · exact gStep_code _ _ _ _ _
      · unfold gWalk
        split
        · exact gTouch_code _ _ _ _
        · split
          · simp
          · exact gStep_code _ _ _ _ _
theorem gTouch_frame {s : Pl} {g : Gs} {b : Mp} {W : Int} (h : GInv s g b W) (n : Int) (wt : Bool) (he : (gTouch s g n wt).1.2 = 0) : 0 ≤ (gTouch s g n wt).1.1 ∧ (gTouch s g n wt).1.1 < (gTouch s g n wt).2.1.n := by
  have := touch_frame h.inv n wt he
  exact ⟨this.1, this.2.1⟩
theorem gStep_frame {s : Pl} {g : Gs} {b : Mp} {W : Int} (h : GInv s g b W) (x : En) (found wt : Bool) (he : (gStep s g x found wt).1.2 = 0) : 0 ≤ (gStep s g x found wt).1.1 ∧ (gStep s g x found wt).1.1 < (gStep s g x found wt).2.1.n := by
  have hc := gTouch_code s g x.dest wt
  unfold gStep at he ⊢
  split
  · simp_all
  · next h1 =>
    rw [if_neg h1] at he
    split
    · next h2 => rw [if_pos h2] at he; simp only at he; omega
    · next h2 => exact gTouch_frame h x.dest wt (by omega)
theorem gAt_frame {s : Pl} {g : Gs} {b : Mp} {W : Int} (h : GInv s g b W) (addr : Int) (wt : Bool) (he : (gAt s g addr wt).1.2 = 0) : (0 ≤ addr ∧ addr ≤ 255) ∧ 0 ≤ (gAt s g addr wt).1.1 ∧ (gAt s g addr wt).1.1 < (gAt s g addr wt).2.1.n := by
  unfold gAt at he ⊢
  split
  · simp_all
  · next h0 =>
    rw [if_neg h0] at he
    refine ⟨by omega, ?_⟩
    split
    · next h1 => rw [if_pos h1] at he; exact gTouch_frame h _ _ he
    · next h1 =>
      rw [if_neg h1] at he
      split
      · next h2 => rw [if_pos h2] at he; exact gStep_frame h _ _ _ he
      · next h2 =>
        rw [if_neg h2] at he
        unfold gWalk at he ⊢
        have hc := gTouch_code s g g.root false
        have ht := h.touch g.root false
        split
        · next h3 => rw [if_pos h3] at he; simp only at he; omega
        · next h3 =>
          rw [if_neg h3] at he
          have hw : GInv (gTouch s g g.root false).2.1 { (gTouch s g g.root false).2.2 with walks := g.walks + 1 } b (W + 1) :=
            ⟨ht.inv, ht.byt, ht.len, by have := h.w0; show 0 ≤ g.walks + 1; omega, by have := h.w1; show g.walks + 1 ≤ W + 1; omega, ht.r0, ht.r1, ht.en⟩
          split
          · next h4 => rw [if_pos h4] at he; simp at he
          · next h4 => rw [if_neg h4] at he; exact gStep_frame hw _ _ _ he
end Go.Proofs.YtadpibcgjgcjhabGreatDoor
/- Package cache: a cache in memory; the predicates; live. -/
namespace Go.Proofs.YtadpibcgjgcjhabGreatDoor
open Go.ChangeShapes Go.WideShapes Go.ChangeAt Go.RowKit
set_option maxRecDepth 100000
attribute [local go_sem ↓] Go.wp_at_zero Go.wp_at_succ

/-- A cache in memory: four places, and how many of them have an entry. -/
structure CaAt (w : World) (b : Nat) (cur : Nat → En) (n : Nat) : Prop where
  cells : ∀ i j, i < 4 → j < 7 → w.cell? ⟨b, i * 7 + j, none⟩ = (enCells (cur i))[j]?
  cnt : w.cell? ⟨b, 28, none⟩ = some (.int .i64 n)
  fz : ∀ o, w.frozen? ⟨b, o, none⟩ = false
  le : n ≤ 4
theorem CaAt.lt {w : World} {b : Nat} {cur : Nat → En} {n : Nat} (h : CaAt w b cur n) : b < w.heap.size := World.block_lt_of_cell? w _ h.cnt
theorem enCells_some (e : En) (j : Nat) (hj : j < 7) : ∃ v, (enCells e)[j]? = some v := ⟨_, List.getElem?_eq_getElem (show j < (enCells e).length from hj)⟩
theorem CaAt.upd {S : Nat → Prop} {w w' : World} {b : Nat} {cur : Nat → En} {n : Nat} (h : CaAt w b cur n) (u : Upd S w w') (hb : ¬ S b) : CaAt w' b cur n where
  cells := fun i j hi hj => by
    obtain ⟨v, hv⟩ := enCells_some (cur i) j hj
    rw [hv]
    exact u.cell ((h.cells i j hi hj).trans hv) hb
  cnt := u.cell h.cnt hb
  fz := fun o => by rw [World.frozen?_of_block (w := w) (u.block b h.lt hb)]; exact h.fz o
  le := h.le
theorem CaAt.setCnt {w : World} {b : Nat} {cur : Nat → En} {n : Nat} (h : CaAt w b cur n) (m : Nat) (hm : m ≤ 4) : CaAt (w.setCell ⟨b, 28, none⟩ (.int .i64 m)) b cur m where
  cells := fun i j hi hj => by rw [World.cell?_setCell_other _ _ _ _ (addr_ne (Or.inr (by omega)))]; exact h.cells i j hi hj
  cnt := World.cell?_setCell_same _ _ _ h.cnt
  fz := fun o => by rw [World.frozen?_setCell]; exact h.fz o
  le := hm
theorem CaAt.there {w : World} {b : Nat} {cur : Nat → En} {n : Nat} (h : CaAt w b cur n) (o : Nat) (ho : o < 28) : (w.cell? ⟨b, o, none⟩).isSome = true ∧ w.frozen? ⟨b, o, none⟩ = false := by
  refine ⟨?_, h.fz o⟩
  have := h.cells (o / 7) (o % 7) (by omega) (by omega)
  obtain ⟨v, hv⟩ := enCells_some (cur (o / 7)) (o % 7) (by omega)
  rw [hv, show o / 7 * 7 + o % 7 = o by omega] at this
  rw [this]; rfl
theorem CaAt.setRow {w : World} {b : Nat} {cur : Nat → En} {n : Nat} (h : CaAt w b cur n) {i : Nat} (hi : i < 4) (x : En) : CaAt (w.setCells b (i * 7) (enCells x)) b (setAt cur i x) n where
  cells := fun k j hk hj => by
    by_cases e : k = i
    · subst e
      obtain ⟨v, hv⟩ := enCells_some x j hj
      have := World.rangeAt_setCells_same w b (k * 7) (enCells x) (fun o ho => h.there _ (by have : (enCells x).length = 7 := rfl; omega)) j v hv
      rw [this, setAt_same, hv]
    · rw [World.cell?_setCells_out _ _ _ _ _ (fun _ _ => by have : (enCells x).length = 7 := rfl; simp only [this]; omega), h.cells k j hk hj, setAt_other _ _ _ _ e]
  cnt := by rw [World.cell?_setCells_out _ _ _ _ _ (fun _ _ => by have : (enCells x).length = 7 := rfl; simp only [this]; omega)]; exact h.cnt
  fz := fun o => by rw [World.frozen?_setCells]; exact h.fz o
  le := h.le
theorem CaAt.set7 {w : World} {b : Nat} {cur : Nat → En} {n : Nat} (h : CaAt w b cur n) {i : Nat} (hi : i < 4) (x : En) :
    CaAt (((((((w.setCell ⟨b, i * 7, none⟩ (.int .i64 x.root)).setCell ⟨b, i * 7 + 1, none⟩ (.int .i64 x.page)).setCell ⟨b, i * 7 + 2, none⟩ (.int .i64 x.dest)).setCell ⟨b, i * 7 + 3, none⟩ (.bool x.may)).setCell ⟨b, i * 7 + 4, none⟩ (.bool x.lf.there)).setCell ⟨b, i * 7 + 5, none⟩ (.bool x.lf.wr)).setCell ⟨b, i * 7 + 6, none⟩ (.int .i64 x.lf.fr)) b (setAt cur i x) n := h.setRow hi x
theorem Upd.set7 (w : World) (b i : Nat) (x : En) :
    Upd (fun k => k = b) w (((((((w.setCell ⟨b, i * 7, none⟩ (.int .i64 x.root)).setCell ⟨b, i * 7 + 1, none⟩ (.int .i64 x.page)).setCell ⟨b, i * 7 + 2, none⟩ (.int .i64 x.dest)).setCell ⟨b, i * 7 + 3, none⟩ (.bool x.may)).setCell ⟨b, i * 7 + 4, none⟩ (.bool x.lf.there)).setCell ⟨b, i * 7 + 5, none⟩ (.bool x.lf.wr)).setCell ⟨b, i * 7 + 6, none⟩ (.int .i64 x.lf.fr)) := Upd.row w b (i * 7) (enCells x)
/-- What is asked of a predicate that is handed to the library. -/
def PredOn (b : Nat) (w : World) (g : Nat) (lb : Array Value) (p : En → Bool) : Prop :=
  ∀ (W : World) (x : En), Upd (fun k => k = b) w W → Calls Tryz.prog g (#[.agg #[.int .i64 x.root, .int .i64 x.page, .int .i64 x.dest, .bool x.may, .bool x.lf.there, .bool x.lf.wr, .int .i64 x.lf.fr]] ++ lb) W fun e w' => e = .returned (.bool (p x)) ∧ Upd (fun _ => False) W w'
theorem PredOn.trans {b : Nat} {w w' : World} {g : Nat} {lb : Array Value} {p : En → Bool} (h : PredOn b w g lb p) (u : Upd (fun k => k = b) w w') : PredOn b w' g lb p :=
  fun W x hu => h W x (u.trans hu (fun _ _ e => e))

theorem kOf_any (w : World) (r p : Int) :
    Calls Tryz.prog 182 #[.int .i64 r, .int .i64 p] w fun e w' => e = .returned (.func (.func 197) #[] #[.pointer (some ⟨w.heap.size, 0, none⟩), .pointer (some ⟨w.heap.size + 1, 0, none⟩)]) ∧ w' = (w.alloc (.cells #[.int .i64 r] 3)).alloc (.cells #[.int .i64 p] 3) := by
  go_enter Tryz.func182, Tryz.ntmps182
  go_wp2_with fail
  go_ret
  exact ⟨rfl, rfl⟩
theorem kOf1_any (W : World) (B C : Nat) (r p : Int) (x : En) (h1 : W.cell? ⟨B, 0, none⟩ = some (.int .i64 r)) (h2 : W.cell? ⟨C, 0, none⟩ = some (.int .i64 p)) :
    Calls Tryz.prog 197 #[.agg #[.int .i64 x.root, .int .i64 x.page, .int .i64 x.dest, .bool x.may, .bool x.lf.there, .bool x.lf.wr, .int .i64 x.lf.fr], .pointer (some ⟨B, 0, none⟩), .pointer (some ⟨C, 0, none⟩)] W
      fun e w' => e = .returned (.bool (isAt r p x)) ∧ Upd (fun _ => False) W w' := by
  have u := (Upd.refl (fun _ => False) W).alloc (.cells #[.int .i64 x.root, .int .i64 x.page, .int .i64 x.dest, .bool x.may, .bool x.lf.there, .bool x.lf.wr, .int .i64 x.lf.fr] 151)
  have g1 := u.cell h1 (fun f => f)
  have g2 := u.cell h2 (fun f => f)
  have HU : Hid _ := u
  clear u h1 h2
  cases h0 : (x.root == r) with
  | false =>
    go_enter Tryz.func197, Tryz.ntmps197
    go_wp2_with fail
    go_ret
    exact ⟨by simp [isAt, h0], HU.out⟩
  | true =>
    go_enter Tryz.func197, Tryz.ntmps197
    go_wp2_with fail
    go_ret
    exact ⟨by simp [isAt, h0], HU.out⟩
theorem kForget1_any (W : World) (B : Nat) (r : Int) (x : En) (h1 : W.cell? ⟨B, 0, none⟩ = some (.int .i64 r)) :
    Calls Tryz.prog 183 #[.agg #[.int .i64 x.root, .int .i64 x.page, .int .i64 x.dest, .bool x.may, .bool x.lf.there, .bool x.lf.wr, .int .i64 x.lf.fr], .pointer (some ⟨B, 0, none⟩)] W
      fun e w' => e = .returned (.bool (x.root == r)) ∧ Upd (fun _ => False) W w' := by
  have u := (Upd.refl (fun _ => False) W).alloc (.cells #[.int .i64 x.root, .int .i64 x.page, .int .i64 x.dest, .bool x.may, .bool x.lf.there, .bool x.lf.wr, .int .i64 x.lf.fr] 151)
  have g1 := u.cell h1 (fun f => f)
  have HU : Hid _ := u
  clear u h1
  go_enter Tryz.func183, Tryz.ntmps183
  go_wp2_with fail
  go_ret
  exact ⟨rfl, HU.out⟩
theorem kLive_any (w : World) (b : Nat) (cur : Nat → En) (n : Nat) (h : CaAt w b cur n) :
    Calls Tryz.prog 177 #[.pointer (some ⟨b, 0, none⟩)] w fun e w' => e = .returned (.slice (some ⟨b, 0, none⟩) n 4) ∧ ∃ m, w' = w.drewN m := by
  have hc := h.cnt
  have hl := h.le
  have n0 : (0 : Int) ≤ (n : Int) := by omega
  have n4 : (n : Int) ≤ 4 := by omega
  go_enter Tryz.func177, Tryz.ntmps177
  go_wp2_with fail
  go_quiet (fail)
  go_wp2_with fail
  go_ret
  exact ⟨rfl, _, rfl⟩
end Go.Proofs.YtadpibcgjgcjhabGreatDoor
