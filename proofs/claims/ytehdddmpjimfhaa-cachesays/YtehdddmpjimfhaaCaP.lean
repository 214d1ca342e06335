/- The document's answer for chapter 3: Point; two lists of entries held against each other. -/
import Derived.Test.YtehdddmpjimfhaaCaN
namespace Go.Proofs.Ytehdddmpjimfhaa
open Go.ChangeShapes Go.WideShapes Go.ChangeAt Go.RowKit
set_option maxRecDepth 100000
attribute [local go_sem ↓] Go.wp_at_zero Go.wp_at_succ

/-- An entry behind Point. -/
def pnt (d : Int) (l : Lf) (e : En) : En := if e.dest == d then { e with lf := l } else e
def pntTo (d : Int) (l : Lf) (es : List En) : Nat → List En
  | 0 => []
  | k + 1 => pntTo d l es k ++ [pnt d l (atE es k)]
def pntN (d : Int) (es : List En) : Nat → Nat
  | 0 => 0
  | k + 1 => pntN d es k + if (atE es k).dest == d then 1 else 0
theorem pntTo_length (d : Int) (l : Lf) (es : List En) : ∀ k, (pntTo d l es k).length = k
  | 0 => rfl
  | k + 1 => by simp [pntTo, pntTo_length d l es k]
theorem pntN_le (d : Int) (es : List En) : ∀ k, pntN d es k ≤ k
  | 0 => Nat.le_refl _
  | k + 1 => by
    have := pntN_le d es k
    unfold pntN
    split <;> omega
theorem cPoint_any (w : World) (base : Nat) (v : Value) (es : List En) (d : Int) (l : Lf) (h : SlC w base v es) (hl : es.length ≤ 50) :
    Calls Try.prog 52 #[v, .int .i64 d, .agg #[.bool l.there, .bool l.wr, .int .i64 l.fr]] w fun e w' => ∃ v', e = .returned (.tuple #[v', .int .i64 (pntN d es es.length)]) ∧ SlC w' w.heap.size v' (pntTo d l es es.length) ∧ Upd (fun _ => False) w w' := by
  obtain ⟨a, cap, rfl, hc⟩ := h.form
  have HC : Hid _ := hc
  clear hc
  go_enter Try.func52, Try.ntmps52
  go_wp2_with fail
  have u0 := (Upd.refl (fun _ => False) w).alloc (.cells #[.bool l.there, .bool l.wr, .int .i64 l.fr] 69)
  have p0 : (w.alloc (.cells #[.bool l.there, .bool l.wr, .int .i64 l.fr] 69)).cell? ⟨w.heap.size, 0, none⟩ = some (.bool l.there) := by rw [World.cell?_alloc_new]; rfl
  have p1 : (w.alloc (.cells #[.bool l.there, .bool l.wr, .int .i64 l.fr] 69)).cell? ⟨w.heap.size, 1, none⟩ = some (.bool l.wr) := by rw [World.cell?_alloc_new]; rfl
  have p2 : (w.alloc (.cells #[.bool l.there, .bool l.wr, .int .i64 l.fr] 69)).cell? ⟨w.heap.size, 2, none⟩ = some (.int .i64 l.fr) := by rw [World.cell?_alloc_new]; rfl
  have z0 : (w.alloc (.cells #[.bool l.there, .bool l.wr, .int .i64 l.fr] 69)).heap.size = w.heap.size + 1 := by simp
  revert u0 p0 p1 p2 z0
  generalize w.alloc (.cells #[.bool l.there, .bool l.wr, .int .i64 l.fr] 69) = w0
  intro u0 p0 p1 p2 z0
  go_loopg [8, 9, 10] es.length (fun g lv n i wi => ∃ k : Nat, k + g = es.length ∧ i = .int .i64 k ∧ n = .int .i64 (pntN d es k) ∧ SlC wi w0.heap.size lv (pntTo d l es k) ∧ Upd (fun _ => False) w0 wi)
  case atStart => exact ⟨0, by omega, rfl, rfl, SlC.nil _ _, Upd.refl _ _⟩
  case round =>
    obtain ⟨k, hk, rfl, rfl, hS, hu⟩ := hrel
    have HK : Hid _ := hk
    by_cases hlt : k < es.length
    · clear hk
      obtain ⟨g, rfl, _, hglt, hcell⟩ := HC.out k hlt
      have q0 := hu.cell p0 (fun f => f)
      have q1 := hu.cell p1 (fun f => f)
      have q2 := hu.cell p2 (fun f => f)
      have hUU := u0.trans hu (fun _ _ f => f)
      have c0 := hUU.cell (show w.cell? ⟨g, k * 7, none⟩ = some (.int .i64 (atE es k).root) from hcell 0 (by omega)) (fun f => f)
      have c1 := hUU.cell (show w.cell? ⟨g, k * 7 + 1, none⟩ = some (.int .i64 (atE es k).page) from hcell 1 (by omega)) (fun f => f)
      have c2 := hUU.cell (show w.cell? ⟨g, k * 7 + 2, none⟩ = some (.int .i64 (atE es k).dest) from hcell 2 (by omega)) (fun f => f)
      have c3 := hUU.cell (show w.cell? ⟨g, k * 7 + 3, none⟩ = some (.bool (atE es k).may) from hcell 3 (by omega)) (fun f => f)
      have c4 := hUU.cell (show w.cell? ⟨g, k * 7 + 4, none⟩ = some (.bool (atE es k).lf.there) from hcell 4 (by omega)) (fun f => f)
      have c5 := hUU.cell (show w.cell? ⟨g, k * 7 + 5, none⟩ = some (.bool (atE es k).lf.wr) from hcell 5 (by omega)) (fun f => f)
      have c6 := hUU.cell (show w.cell? ⟨g, k * 7 + 6, none⟩ = some (.int .i64 (atE es k).lf.fr) from hcell 6 (by omega)) (fun f => f)
      have hs1 : pntTo d l es (k + 1) = pntTo d l es k ++ [pnt d l (atE es k)] := rfl
      have hs2 : pntN d es (k + 1) = pntN d es k + if (atE es k).dest == d then 1 else 0 := rfl
      have hle := pntN_le d es k
      have hfl : (pntTo d l es k).length ≤ 50 := by rw [pntTo_length]; omega
      have HS1 : Hid _ := hs1
      have HS2 : Hid _ := hs2
      clear hcell HC hs1 hs2
      generalize atE es k = x at *
      generalize pntTo d l es k = fs at *
      cases hd : (x.dest == d) with
      | false =>
        have hp : pnt d l x = x := by simp [pnt, hd]
        rw [hp] at HS1
        rw [hd] at HS2
        obtain ⟨i, hi, he⟩ := Option.map_eq_some_iff.1 infoEn
        simp only [Prod.mk.injEq] at he
        obtain ⟨he1, he2, he3⟩ := he
        have HE1 : Hid _ := he1
        have HE2 : Hid _ := he2
        have HE3 : Hid _ := he3
        have HI : Hid _ := hi
        have hu1 := hu.alloc (.cells #[.int .i64 x.root, .int .i64 x.page, .int .i64 x.dest, .bool x.may, .bool x.lf.there, .bool x.lf.wr, .int .i64 x.lf.fr] 85)
        have hS1 : SlC (wr.alloc (.cells #[.int .i64 x.root, .int .i64 x.page, .int .i64 x.dest, .bool x.may, .bool x.lf.there, .bool x.lf.wr, .int .i64 x.lf.fr] 85)) w0.heap.size u8 fs := World.ownsRow.alloc hS (.cells #[.int .i64 x.root, .int .i64 x.page, .int .i64 x.dest, .bool x.may, .bool x.lf.there, .bool x.lf.wr, .int .i64 x.lf.fr] 85)
        have hnews : ∀ j u, (enCells x)[j]? = some u → ((wr.alloc (.cells #[.int .i64 x.root, .int .i64 x.page, .int .i64 x.dest, .bool x.may, .bool x.lf.there, .bool x.lf.wr, .int .i64 x.lf.fr] 85)).alloc (.cells #[.int .i64 x.root, .int .i64 x.page, .int .i64 x.dest, .bool x.may, .bool x.lf.there, .bool x.lf.wr, .int .i64 x.lf.fr] 85)).cell? ((⟨wr.heap.size + 1, 0, none⟩ : Addr).add j) = some u := by
          intro j u hj
          have := World.cell?_alloc_new (wr.alloc (.cells #[.int .i64 x.root, .int .i64 x.page, .int .i64 x.dest, .bool x.may, .bool x.lf.there, .bool x.lf.wr, .int .i64 x.lf.fr] 85)) (enCells x).toArray 85 j
          simp only [World.size_alloc] at this
          rw [Addr.add_mid, Nat.zero_add, ← hj]
          exact this.trans (by simp)
        have HN : Hid _ := hnews
        have HO : Hid _ := World.ownsRow.alloc hS1 (.cells #[.int .i64 x.root, .int .i64 x.page, .int .i64 x.dest, .bool x.may, .bool x.lf.there, .bool x.lf.wr, .int .i64 x.lf.fr] 85)
        have HB : Hid (w0.heap.size ≤ ((wr.alloc (.cells #[.int .i64 x.root, .int .i64 x.page, .int .i64 x.dest, .bool x.may, .bool x.lf.there, .bool x.lf.wr, .int .i64 x.lf.fr] 85)).alloc (.cells #[.int .i64 x.root, .int .i64 x.page, .int .i64 x.dest, .bool x.may, .bool x.lf.there, .bool x.lf.wr, .int .i64 x.lf.fr] 85)).heap.size) := show _ ≤ _ by have := hu.size; simp only [World.size_alloc]; omega
        have H1 : Hid (∀ u ∈ enCells x, u.oneCell' = true) := show ∀ u ∈ enCells x, _ from fun u hu' => enAll_one [x] u (by simpa [enAll] using hu')
        have HU1 : Hid _ := hu1
        have HS3 : Hid _ := hS1
        clear hnews he1 he2 he3 hi hp hu1 hS1
        go_wp2_with (at_builtin; refine wpList_append_lies _ (by rfl) _ _ 90 (by rfl) w0.heap.size 85 i (.agg zeroEn) 7 48 Try.underlying90 HI.out HE3.out HE1.out HE2.out (by rfl) (by omega) u8 fs.length (enAll fs) (by rfl) HO.out ⟨wr.heap.size + 1, 0, none⟩ 1 1 (enCells x) (by rfl) (by rfl) HN.out H1.out (by omega) (by unfold maxLen; omega) (by omega) HB.out (wr.heap.size + 1 + 1) (by simp) ?_; intro g2 cap2 w2 hown hgrow hat hlt2)
        obtain ⟨hS2, hu2⟩ := SlC.grown HU1.out HS3.out _ hown hgrow
        clear hown hgrow hat hlt2
        go_roundg (es.length - (k + 1))
        case rel => exact ⟨k + 1, by omega, by go_num, by rw [HS2.out]; first | rfl | simp | (simp; go_num), by rw [HS1.out]; exact hS2, hu2⟩
        case measure => have := HK.out; omega
      | true =>
        have t0 := Upd.cell ((Upd.refl (fun _ => False) wr).alloc (.cells #[.int .i64 x.root, .int .i64 x.page, .int .i64 x.dest, .bool x.may, .bool x.lf.there, .bool x.lf.wr, .int .i64 x.lf.fr] 85)) q0 (fun f => f)
        have t1 := Upd.cell ((Upd.refl (fun _ => False) wr).alloc (.cells #[.int .i64 x.root, .int .i64 x.page, .int .i64 x.dest, .bool x.may, .bool x.lf.there, .bool x.lf.wr, .int .i64 x.lf.fr] 85)) q1 (fun f => f)
        have t2 := Upd.cell ((Upd.refl (fun _ => False) wr).alloc (.cells #[.int .i64 x.root, .int .i64 x.page, .int .i64 x.dest, .bool x.may, .bool x.lf.there, .bool x.lf.wr, .int .i64 x.lf.fr] 85)) q2 (fun f => f)
        have hp : pnt d l x = { x with lf := l } := by simp [pnt, hd]
        rw [hp] at HS1
        rw [hd] at HS2
        obtain ⟨i, hi, he⟩ := Option.map_eq_some_iff.1 infoEn
        simp only [Prod.mk.injEq] at he
        obtain ⟨he1, he2, he3⟩ := he
        have HE1 : Hid _ := he1
        have HE2 : Hid _ := he2
        have HE3 : Hid _ := he3
        have HI : Hid _ := hi
        have hu1 := hu.alloc (.cells #[.int .i64 x.root, .int .i64 x.page, .int .i64 x.dest, .bool x.may, .bool l.there, .bool l.wr, .int .i64 l.fr] 85)
        have hS1 : SlC (wr.alloc (.cells #[.int .i64 x.root, .int .i64 x.page, .int .i64 x.dest, .bool x.may, .bool l.there, .bool l.wr, .int .i64 l.fr] 85)) w0.heap.size u8 fs := World.ownsRow.alloc hS (.cells #[.int .i64 x.root, .int .i64 x.page, .int .i64 x.dest, .bool x.may, .bool l.there, .bool l.wr, .int .i64 l.fr] 85)
        have hnews : ∀ j u, (enCells { x with lf := l })[j]? = some u → ((wr.alloc (.cells #[.int .i64 x.root, .int .i64 x.page, .int .i64 x.dest, .bool x.may, .bool l.there, .bool l.wr, .int .i64 l.fr] 85)).alloc (.cells #[.int .i64 x.root, .int .i64 x.page, .int .i64 x.dest, .bool x.may, .bool l.there, .bool l.wr, .int .i64 l.fr] 85)).cell? ((⟨wr.heap.size + 1, 0, none⟩ : Addr).add j) = some u := by
          intro j u hj
          have := World.cell?_alloc_new (wr.alloc (.cells #[.int .i64 x.root, .int .i64 x.page, .int .i64 x.dest, .bool x.may, .bool l.there, .bool l.wr, .int .i64 l.fr] 85)) (enCells { x with lf := l }).toArray 85 j
          simp only [World.size_alloc] at this
          rw [Addr.add_mid, Nat.zero_add, ← hj]
          exact this.trans (by simp)
        have HN : Hid _ := hnews
        have HO : Hid _ := World.ownsRow.alloc hS1 (.cells #[.int .i64 x.root, .int .i64 x.page, .int .i64 x.dest, .bool x.may, .bool l.there, .bool l.wr, .int .i64 l.fr] 85)
        have HB : Hid (w0.heap.size ≤ ((wr.alloc (.cells #[.int .i64 x.root, .int .i64 x.page, .int .i64 x.dest, .bool x.may, .bool l.there, .bool l.wr, .int .i64 l.fr] 85)).alloc (.cells #[.int .i64 x.root, .int .i64 x.page, .int .i64 x.dest, .bool x.may, .bool l.there, .bool l.wr, .int .i64 l.fr] 85)).heap.size) := show _ ≤ _ by have := hu.size; simp only [World.size_alloc]; omega
        have H1 : Hid (∀ u ∈ enCells { x with lf := l }, u.oneCell' = true) := show ∀ u ∈ enCells { x with lf := l }, _ from fun u hu' => enAll_one [{ x with lf := l }] u (by simpa [enAll] using hu')
        have HU1 : Hid _ := hu1
        have HS3 : Hid _ := hS1
        clear hnews he1 he2 he3 hi hp hu1 hS1
        go_wp2_with (at_builtin; refine wpList_append_lies _ (by rfl) _ _ 90 (by rfl) w0.heap.size 85 i (.agg zeroEn) 7 48 Try.underlying90 HI.out HE3.out HE1.out HE2.out (by rfl) (by omega) u8 fs.length (enAll fs) (by rfl) HO.out ⟨wr.heap.size + 1, 0, none⟩ 1 1 (enCells { x with lf := l }) (by rfl) (by rfl) HN.out H1.out (by omega) (by unfold maxLen; omega) (by omega) HB.out (wr.heap.size + 1 + 1) (by simp) ?_; intro g2 cap2 w2 hown hgrow hat hlt2)
        obtain ⟨hS2, hu2⟩ := SlC.grown HU1.out HS3.out _ hown hgrow
        clear hown hgrow hat hlt2
        go_roundg (es.length - (k + 1))
        case rel => exact ⟨k + 1, by omega, by go_num, by rw [HS2.out]; first | rfl | simp | (simp; go_num), by rw [HS1.out]; exact hS2, hu2⟩
        case measure => have := HK.out; omega
    · have ek : k = es.length := by omega
      subst ek
      clear hk HC
      go_wp2_with fail
      go_ret2
      exact ⟨_, rfl, hS.weak (by omega), u0.trans hu (fun _ _ f => f)⟩
theorem cSame_any (w : World) (b0 b1 : Nat) (v u : Value) (es : List En) (h : SlC w b0 v es) (h2 : SlC w b1 u es) (hl : es.length ≤ 50) :
    Calls Try.prog 56 #[v, u] w fun e w' => e = .returned (.bool true) ∧ ∃ m, w' = w.drewN m := by
  obtain ⟨a, cap, rfl, hc⟩ := h.form
  obtain ⟨a2, cap2, rfl, hc2⟩ := h2.form
  have HC : Hid _ := hc
  have HC2 : Hid _ := hc2
  clear hc hc2
  have b1' : (((es.length : Nat) : Int) != ((es.length : Nat) : Int)) = false := by simp
  go_enter Try.func56, Try.ntmps56
  go_wp2_with fail
  go_loopg [5] es.length (fun g i wi => ∃ k : Nat, k + g = es.length ∧ i = .int .i64 k ∧ ∃ m, wi = w.drewN m)
  case atStart => exact ⟨0, by omega, rfl, 0, rfl⟩
  case round =>
    obtain ⟨k, hk, rfl, m, rfl⟩ := hrel
    have HK : Hid _ := hk
    by_cases hlt : k < es.length
    · clear hk b1'
      obtain ⟨g, rfl, _, _, hcell⟩ := HC.out k hlt
      obtain ⟨g2, rfl, _, _, hcell2⟩ := HC2.out k hlt
      have c0 : (w.drewN m).cell? ⟨g, k * 7, none⟩ = some (.int .i64 (atE es k).root) := hcell 0 (by omega)
      have c1 : (w.drewN m).cell? ⟨g, k * 7 + 1, none⟩ = some (.int .i64 (atE es k).page) := hcell 1 (by omega)
      have c2 : (w.drewN m).cell? ⟨g, k * 7 + 2, none⟩ = some (.int .i64 (atE es k).dest) := hcell 2 (by omega)
      have c3 : (w.drewN m).cell? ⟨g, k * 7 + 3, none⟩ = some (.bool (atE es k).may) := hcell 3 (by omega)
      have c4 : (w.drewN m).cell? ⟨g, k * 7 + 4, none⟩ = some (.bool (atE es k).lf.there) := hcell 4 (by omega)
      have c5 : (w.drewN m).cell? ⟨g, k * 7 + 5, none⟩ = some (.bool (atE es k).lf.wr) := hcell 5 (by omega)
      have c6 : (w.drewN m).cell? ⟨g, k * 7 + 6, none⟩ = some (.int .i64 (atE es k).lf.fr) := hcell 6 (by omega)
      have d0 : (w.drewN m).cell? ⟨g2, k * 7, none⟩ = some (.int .i64 (atE es k).root) := hcell2 0 (by omega)
      have d1 : (w.drewN m).cell? ⟨g2, k * 7 + 1, none⟩ = some (.int .i64 (atE es k).page) := hcell2 1 (by omega)
      have d2 : (w.drewN m).cell? ⟨g2, k * 7 + 2, none⟩ = some (.int .i64 (atE es k).dest) := hcell2 2 (by omega)
      have d3 : (w.drewN m).cell? ⟨g2, k * 7 + 3, none⟩ = some (.bool (atE es k).may) := hcell2 3 (by omega)
      have d4 : (w.drewN m).cell? ⟨g2, k * 7 + 4, none⟩ = some (.bool (atE es k).lf.there) := hcell2 4 (by omega)
      have d5 : (w.drewN m).cell? ⟨g2, k * 7 + 5, none⟩ = some (.bool (atE es k).lf.wr) := hcell2 5 (by omega)
      have d6 : (w.drewN m).cell? ⟨g2, k * 7 + 6, none⟩ = some (.int .i64 (atE es k).lf.fr) := hcell2 6 (by omega)
      clear hcell hcell2 HC HC2
      have k0 : (0 : Int) ≤ (k : Int) := by omega
      have k1 : (k : Int) < es.length := by omega
      generalize atE es k = x at *
      go_wp2_with fail
      go_region_held3 (fun w' => w'.cell? ⟨g, k * 7, none⟩ = some (.int .i64 x.root) ∧ w'.cell? ⟨g, k * 7 + 1, none⟩ = some (.int .i64 x.page) ∧ w'.cell? ⟨g, k * 7 + 2, none⟩ = some (.int .i64 x.dest) ∧ w'.cell? ⟨g, k * 7 + 3, none⟩ = some (.bool x.may) ∧ w'.cell? ⟨g, k * 7 + 4, none⟩ = some (.bool x.lf.there) ∧ w'.cell? ⟨g, k * 7 + 5, none⟩ = some (.bool x.lf.wr) ∧ w'.cell? ⟨g, k * 7 + 6, none⟩ = some (.int .i64 x.lf.fr) ∧ w'.cell? ⟨g2, k * 7, none⟩ = some (.int .i64 x.root) ∧ w'.cell? ⟨g2, k * 7 + 1, none⟩ = some (.int .i64 x.page) ∧ w'.cell? ⟨g2, k * 7 + 2, none⟩ = some (.int .i64 x.dest) ∧ w'.cell? ⟨g2, k * 7 + 3, none⟩ = some (.bool x.may) ∧ w'.cell? ⟨g2, k * 7 + 4, none⟩ = some (.bool x.lf.there) ∧ w'.cell? ⟨g2, k * 7 + 5, none⟩ = some (.bool x.lf.wr) ∧ w'.cell? ⟨g2, k * 7 + 6, none⟩ = some (.int .i64 x.lf.fr)) (first | exact ⟨c0, c1, c2, c3, c4, c5, c6, d0, d1, d2, d3, d4, d5, d6⟩ | go_keep) (fail)
      go_wp2_with fail
      go_roundg (es.length - (k + 1))
      case rel => exact ⟨k + 1, by omega, by go_num, m + 1, rfl⟩
      case measure => have := HK.out; omega
    · clear hk b1' HC HC2
      go_wp2_with fail
      go_ret
      exact ⟨rfl, m, rfl⟩
end Go.Proofs.Ytehdddmpjimfhaa
