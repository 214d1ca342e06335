/- The document's answer for chapter 3: entries as lists, in memory; Find. -/
import Derived.Test.YtadpibcgjgcjhabGreatDoorMapM
import Derived.Deep.AppendLies
namespace Go.Proofs.YtadpibcgjgcjhabGreatDoor
open Go.ChangeShapes Go.WideShapes Go.ChangeAt Go.RowKit
set_option maxRecDepth 100000
attribute [local go_sem ↓] Go.wp_at_zero Go.wp_at_succ

/-- An entry. -/
structure En where
  root : Int
  page : Int
  dest : Int
  may : Bool
  lf : Lf
def en0 : En := ⟨0, 0, 0, false, lf0⟩
def atE (es : List En) (k : Nat) : En := es.getD k en0
def enCells (e : En) : List Value := [.int .i64 e.root, .int .i64 e.page, .int .i64 e.dest, .bool e.may, .bool e.lf.there, .bool e.lf.wr, .int .i64 e.lf.fr]
def enAll : List En → List Value
  | [] => []
  | e :: es => enCells e ++ enAll es
theorem enAll_length : ∀ es : List En, (enAll es).length = es.length * 7
  | [] => rfl
  | e :: es => by
    have := enAll_length es
    simp only [enAll, List.length_append, this, List.length_cons, enCells, List.length_nil]
    omega
theorem enAll_append : ∀ es fs : List En, enAll (es ++ fs) = enAll es ++ enAll fs
  | [], _ => rfl
  | e :: es, fs => by simp [enAll, enAll_append es fs]
theorem enAll_get : ∀ (es : List En) (i j : Nat), i < es.length → j < 7 → (enAll es)[i * 7 + j]? = (enCells (atE es i))[j]?
  | [], _, _, h, _ => absurd h (by simp)
  | e :: es, 0, j, _, hj => by
    rw [Nat.zero_mul, Nat.zero_add]
    show (enCells e ++ enAll es)[j]? = (enCells e)[j]?
    rw [List.getElem?_append_left (show j < (enCells e).length from hj)]
  | e :: es, i + 1, j, h, hj => by
    have := enAll_get es i j (by simpa using h) hj
    rw [show (i + 1) * 7 + j = (enCells e).length + (i * 7 + j) by show _ = 7 + _; omega]
    show (enCells e ++ enAll es)[(enCells e).length + (i * 7 + j)]? = _
    rw [List.getElem?_append_right (Nat.le_add_right _ _), Nat.add_sub_cancel_left, this]
    rfl
theorem enAll_one : ∀ es : List En, ∀ v ∈ enAll es, v.oneCell' = true
  | [], v, h => by simp [enAll] at h
  | e :: es, v, h => by
    simp only [enAll, List.mem_append] at h
    rcases h with h | h
    · simp only [enCells, List.mem_cons, List.not_mem_nil, or_false] at h
      rcases h with rfl | rfl | rfl | rfl | rfl | rfl | rfl <;> rfl
    · exact enAll_one es v h
/-- A list of entries that a slice holds. -/
def SlC (w : World) (base : Nat) (v : Value) (es : List En) : Prop := w.ownsRow base 151 7 v es.length (enAll es)
theorem SlC.nil (w : World) (base : Nat) : SlC w base (.slice none 0 0) [] := World.ownsRow_nil _ _ _ _
theorem SlC.form {w : World} {base : Nat} {v : Value} {es : List En} (h : SlC w base v es) : ∃ a cap, v = .slice a es.length cap ∧ (∀ i, i < es.length → ∃ g, a = some ⟨g, 0, none⟩ ∧ base ≤ g ∧ g < w.heap.size ∧ ∀ j, j < 7 → w.cell? ⟨g, i * 7 + j, none⟩ = (enCells (atE es i))[j]?) := by
  rcases h.2 with ⟨rfl, h0⟩ | ⟨g, cap, cur, rfl, hb, hg, _⟩
  · exact ⟨none, 0, by rw [h0], fun i hi => absurd hi (by omega)⟩
  · refine ⟨some ⟨g, 0, none⟩, cap, rfl, fun i hi => ⟨g, rfl, hb, ?_, fun j hj => ?_⟩⟩
    · rcases Nat.lt_or_ge g w.heap.size with hlt | hge
      · exact hlt
      · rw [Array.getElem?_eq_none hge] at hg; cases hg
    · have e := enAll_get es i j hi hj
      have hlt : i * 7 + j < (enAll es).length := by rw [enAll_length]; omega
      obtain ⟨u, hu⟩ : ∃ u, (enAll es)[i * 7 + j]? = some u := ⟨_, List.getElem?_eq_getElem hlt⟩
      have := World.ownsRow.cells h (g := g) rfl _ _ hu
      rw [Addr.add_mid, Nat.zero_add] at this
      rw [this, ← hu, e]
def isAt (r p : Int) (e : En) : Bool := (e.root == r) && (e.page == p)
def fndI (es : List En) (r p : Int) : Int := match es.findIdx? (isAt r p) with
  | some i => i
  | none => -1
theorem fndI_some {es : List En} {r p : Int} {k : Nat} (hk : k < es.length) (h : isAt r p (atE es k) = true) (hb : ∀ i, i < k → isAt r p (atE es i) = false) : fndI es r p = k := by
  have : es.findIdx? (isAt r p) = some k := by
    rw [List.findIdx?_eq_some_iff_getElem]
    refine ⟨hk, ?_, fun j hj => ?_⟩
    · simpa [atE, List.getD_eq_getElem?_getD, List.getElem?_eq_getElem hk] using h
    · have := hb j hj
      simpa [atE, List.getD_eq_getElem?_getD, List.getElem?_eq_getElem (show j < es.length by omega)] using this
  unfold fndI
  rw [this]
theorem fndI_none {es : List En} {r p : Int} (hb : ∀ i, i < es.length → isAt r p (atE es i) = false) : fndI es r p = -1 := by
  have : es.findIdx? (isAt r p) = none := by
    rw [List.findIdx?_eq_none_iff]
    intro x hx
    obtain ⟨i, hi, rfl⟩ := List.getElem_of_mem hx
    have := hb i hi
    simpa [atE, List.getD_eq_getElem?_getD, List.getElem?_eq_getElem hi] using this
  unfold fndI
  rw [this]
theorem cFind_any (w : World) (base : Nat) (v : Value) (es : List En) (r p : Int) (h : SlC w base v es) (hl : es.length ≤ 100) :
    Calls Tryz.prog 71 #[v, .int .i64 r, .int .i64 p] w fun e w' => e = .returned (.int .i64 (fndI es r p)) ∧ w' = w := by
  obtain ⟨a, cap, rfl, hc⟩ := h.form
  have HC : Hid _ := hc
  clear hc
  go_enter Tryz.func71, Tryz.ntmps71
  go_wp2_with fail
  go_loopg [7] es.length (fun g i wi => ∃ k : Nat, k + g = es.length ∧ i = .int .i64 k ∧ (∀ i, i < k → isAt r p (atE es i) = false) ∧ wi = w)
  case atStart => exact ⟨0, by omega, rfl, fun i hi => absurd hi (by omega), rfl⟩
  case round =>
    obtain ⟨k, hk, rfl, hb, rfl⟩ := hrel
    have HK : Hid _ := hk
    have HB : Hid _ := hb
    clear hb
    by_cases hlt : k < es.length
    · clear hk
      obtain ⟨g, rfl, _, _, hcell⟩ := HC.out k hlt
      have c0 : wr.cell? ⟨g, k * 7, none⟩ = some (.int .i64 (atE es k).root) := hcell 0 (by omega)
      have c1 : wr.cell? ⟨g, k * 7 + 1, none⟩ = some (.int .i64 (atE es k).page) := hcell 1 (by omega)
      clear hcell HC
      have k0 : (0 : Int) ≤ (k : Int) := by omega
      have k1 : (k : Int) < es.length := by omega
      generalize hx : atE es k = x at c0 c1
      have HX : Hid _ := hx
      clear hx
      cases h0 : (x.root == r) with
      | false =>
        go_wp2_with fail
        go_roundg (es.length - (k + 1))
        case rel =>
          refine ⟨k + 1, by omega, by go_num, fun i hi => ?_, rfl⟩
          by_cases e : i = k
          · subst e; rw [HX.out]; simp [isAt, h0]
          · exact HB.out i (by omega)
        case measure => have := HK.out; omega
      | true =>
        cases h1 : (x.page == p) with
        | false =>
          go_wp2_with fail
          go_roundg (es.length - (k + 1))
          case rel =>
            refine ⟨k + 1, by omega, by go_num, fun i hi => ?_, rfl⟩
            by_cases e : i = k
            · subst e; rw [HX.out]; simp [isAt, h0, h1]
            · exact HB.out i (by omega)
          case measure => have := HK.out; omega
        | true =>
          have hf := fndI_some (r := r) (p := p) hlt (by rw [HX.out]; simp [isAt, h0, h1]) HB.out
          have HF : Hid _ := hf
          clear hf
          go_wp2_with fail
          go_ret
          exact ⟨by rw [HF.out]; rfl, rfl⟩
    · have HF : Hid _ := fndI_none (fun i hi => HB.out i (by have := HK.out; omega))
      clear hk
      go_wp2_with fail
      go_ret
      exact ⟨by rw [HF.out]; rfl, rfl⟩
/-- Of the first k those that are kept. -/
def keepTo (P : Nat → Bool) (es : List En) : Nat → List En
  | 0 => []
  | k + 1 => keepTo P es k ++ if P k then [atE es k] else []
theorem keepTo_length (P : Nat → Bool) (es : List En) : ∀ k, (keepTo P es k).length ≤ k
  | 0 => Nat.le_refl _
  | k + 1 => by
    have := keepTo_length P es k
    unfold keepTo
    rw [List.length_append]
    split
    · simp; omega
    · simp; omega
theorem SlC.upd {S : Nat → Prop} {w w' : World} {base : Nat} {v : Value} {es : List En} (h : SlC w base v es) (u : Upd S w w') (hS : ∀ k, v.ownBlock = some k → ¬ S k) : SlC w' base v es := by
  refine ⟨h.1, ?_⟩
  rcases h.2 with h0 | ⟨g, cap, cur, rfl, hb, hg, r⟩
  · exact Or.inl h0
  · refine Or.inr ⟨g, cap, cur, rfl, hb, ?_, r⟩
    have hlt : g < w.heap.size := by
      rcases Nat.lt_or_ge g w.heap.size with hlt | hge
      · exact hlt
      · rw [Array.getElem?_eq_none hge] at hg; cases hg
    rw [u.block g hlt (hS g rfl)]; exact hg
def zeroEn : Array Value := #[.int .i64 0, .int .i64 0, .int .i64 0, .bool false, .bool false, .bool false, .int .i64 0]
theorem infoEn : (Tryz.prog.info? 151).map (fun i => (i.size, i.bytes, i.zero)) = some (7, 48, some (.agg zeroEn)) := by kernel_rfl
/-- What an append of one entry leaves. -/
theorem SlC.grown {w wr w2 : World} {v : Value} {es : List En} {x : En} {g cap : Nat} (hu : Upd (fun _ => False) w wr) (hS : SlC wr w.heap.size v es) (o : Obj)
    (hown : w2.ownsRow w.heap.size 151 7 (.slice (some ⟨g, 0, none⟩) (es.length + 1) cap) (es.length + 1) (enAll es ++ enCells x)) (hgrow : (wr.alloc o).grownBy w2 v.ownBlock) :
    SlC w2 w.heap.size (.slice (some ⟨g, 0, none⟩) (es.length + 1) cap) (es ++ [x]) ∧ Upd (fun _ => False) w w2 := by
  refine ⟨?_, hgrow.os.trans hu.os, hgrow.tape.trans hu.tape, hgrow.output.trans hu.output, ?_, ?_⟩
  · unfold SlC
    rw [enAll_append, List.length_append]
    simpa [enAll] using hown
  · have := hgrow.size
    simp only [World.size_alloc] at this
    have := hu.size
    omega
  · intro k hk _
    have hz := hu.size
    rw [hgrow.block k (by simp only [World.size_alloc]; omega) (by
      intro e
      have := World.ownsRow.lt hS k e.symm
      omega), Below.heap_alloc _ _ _ (by omega)]
    exact hu.block k hk (fun f => f)

theorem cWithout_any (w : World) (base : Nat) (v : Value) (es : List En) (k0 : Int) (h : SlC w base v es) (hl : es.length ≤ 100) :
    Calls Tryz.prog 70 #[v, .int .i64 k0] w fun e w' => ∃ v', e = .returned v' ∧ SlC w' w.heap.size v' (keepTo (fun i => (i : Int) != k0) es es.length) ∧ Upd (fun _ => False) w w' := by
  obtain ⟨a, cap, rfl, hc⟩ := h.form
  have HC : Hid _ := hc
  clear hc
  go_enter Tryz.func70, Tryz.ntmps70
  go_wp2_with fail
  go_loopg [5, 6] es.length (fun g l i wi => ∃ k : Nat, k + g = es.length ∧ i = .int .i64 k ∧ SlC wi w.heap.size l (keepTo (fun i => (i : Int) != k0) es k) ∧ Upd (fun _ => False) w wi)
  case atStart => exact ⟨0, by omega, rfl, SlC.nil _ _, Upd.refl _ _⟩
  case round =>
    obtain ⟨k, hk, rfl, hS, hu⟩ := hrel
    have HK : Hid _ := hk
    by_cases hlt : k < es.length
    · clear hk
      obtain ⟨g, rfl, _, hglt, hcell⟩ := HC.out k hlt
      have hkl := keepTo_length (fun i => (i : Int) != k0) es k
      have hstep : keepTo (fun i => (i : Int) != k0) es (k + 1) = keepTo (fun i => (i : Int) != k0) es k ++ if ((k : Int) != k0) then [atE es k] else [] := rfl
      have HST : Hid _ := hstep
      clear hstep
      cases hp : ((k : Int) != k0) with
      | false =>
        rw [hp] at HST
        clear hcell HC
        go_wp2_with fail
        go_roundg (es.length - (k + 1))
        case rel => exact ⟨k + 1, by omega, by go_num, by rw [HST.out]; simpa using hS, hu⟩
        case measure => have := HK.out; omega
      | true =>
        rw [hp] at HST
        have c0 := hu.cell (show w.cell? ⟨g, k * 7, none⟩ = some (.int .i64 (atE es k).root) from hcell 0 (by omega)) (fun f => f)
        have c1 := hu.cell (show w.cell? ⟨g, k * 7 + 1, none⟩ = some (.int .i64 (atE es k).page) from hcell 1 (by omega)) (fun f => f)
        have c2 := hu.cell (show w.cell? ⟨g, k * 7 + 2, none⟩ = some (.int .i64 (atE es k).dest) from hcell 2 (by omega)) (fun f => f)
        have c3 := hu.cell (show w.cell? ⟨g, k * 7 + 3, none⟩ = some (.bool (atE es k).may) from hcell 3 (by omega)) (fun f => f)
        have c4 := hu.cell (show w.cell? ⟨g, k * 7 + 4, none⟩ = some (.bool (atE es k).lf.there) from hcell 4 (by omega)) (fun f => f)
        have c5 := hu.cell (show w.cell? ⟨g, k * 7 + 5, none⟩ = some (.bool (atE es k).lf.wr) from hcell 5 (by omega)) (fun f => f)
        have c6 := hu.cell (show w.cell? ⟨g, k * 7 + 6, none⟩ = some (.int .i64 (atE es k).lf.fr) from hcell 6 (by omega)) (fun f => f)
        clear hcell HC
        generalize atE es k = x at *
        generalize hfs : keepTo (fun i => (i : Int) != k0) es k = fs at *
        clear hfs
        obtain ⟨i, hi, he⟩ := Option.map_eq_some_iff.1 infoEn
        simp only [Prod.mk.injEq] at he
        obtain ⟨he1, he2, he3⟩ := he
        have HE1 : Hid _ := he1
        have HE2 : Hid _ := he2
        have HE3 : Hid _ := he3
        have HI : Hid _ := hi
        clear he1 he2 he3 hi
        have hnews : ∀ j u, (enCells x)[j]? = some u → (wr.alloc (.cells #[.int .i64 x.root, .int .i64 x.page, .int .i64 x.dest, .bool x.may, .bool x.lf.there, .bool x.lf.wr, .int .i64 x.lf.fr] 151)).cell? ((⟨wr.heap.size, 0, none⟩ : Addr).add j) = some u := by
          intro j u hj
          rw [Addr.add_mid, Nat.zero_add, World.cell?_alloc_new, ← hj]
          show (enCells x).toArray[j]? = _
          simp
        have HN : Hid _ := hnews
        have HO : Hid _ := World.ownsRow.alloc hS (.cells #[.int .i64 x.root, .int .i64 x.page, .int .i64 x.dest, .bool x.may, .bool x.lf.there, .bool x.lf.wr, .int .i64 x.lf.fr] 151)
        have HB : Hid (w.heap.size ≤ (wr.alloc (.cells #[.int .i64 x.root, .int .i64 x.page, .int .i64 x.dest, .bool x.may, .bool x.lf.there, .bool x.lf.wr, .int .i64 x.lf.fr] 151)).heap.size) := show _ ≤ _ by have := hu.size; simp only [World.size_alloc]; omega
        have H1 : Hid (∀ u ∈ enCells x, u.oneCell' = true) := show ∀ u ∈ enCells x, _ from fun u hu' => enAll_one [x] u (by simpa [enAll] using hu')
        clear hnews
        go_wp2_with (at_builtin; refine wpList_append_lies _ (by rfl) _ _ 97 (by rfl) w.heap.size 151 i (.agg zeroEn) 7 48 Tryz.underlying97 HI.out HE3.out HE1.out HE2.out (by rfl) (by omega) u5 fs.length (enAll fs) (by rfl) HO.out ⟨wr.heap.size, 0, none⟩ 1 1 (enCells x) (by rfl) (by rfl) HN.out H1.out (by omega) (by unfold maxLen; omega) (by omega) HB.out (wr.heap.size + 1) (by simp) ?_; intro g2 cap2 w2 hown hgrow hat hlt2)
        obtain ⟨hS2, hu2⟩ := SlC.grown hu hS _ hown hgrow
        clear hown hgrow hat hlt2
        go_roundg (es.length - (k + 1))
        case rel => exact ⟨k + 1, by omega, by go_num, by rw [HST.out]; simpa using hS2, hu2⟩
        case measure => have := HK.out; omega
    · have ek : k = es.length := by omega
      subst ek
      clear hk HC
      go_wp2_with fail
      go_ret
      exact ⟨_, rfl, hS, hu⟩
end Go.Proofs.YtadpibcgjgcjhabGreatDoor
