/- The document's answer for chapter 3: Forget, Point, Put. -/
import Derived.Test.YtadpibcgjgcjhabGreatDoorCaM
namespace Go.Proofs.YtadpibcgjgcjhabGreatDoor
open Go.ChangeShapes Go.WideShapes Go.ChangeAt Go.RowKit
set_option maxRecDepth 100000
attribute [local go_sem ↓] Go.wp_at_zero Go.wp_at_succ

theorem cForget_any (w : World) (base : Nat) (v : Value) (es : List En) (r : Int) (h : SlC w base v es) (hl : es.length ≤ 100) :
    Calls Tryz.prog 72 #[v, .int .i64 r] w fun e w' => ∃ v', e = .returned v' ∧ SlC w' w.heap.size v' (keepTo (fun i => (atE es i).root != r) es es.length) ∧ Upd (fun _ => False) w w' := by
  obtain ⟨a, cap, rfl, hc⟩ := h.form
  have HC : Hid _ := hc
  clear hc
  go_enter Tryz.func72, Tryz.ntmps72
  go_wp2_with fail
  go_loopg [5, 6] es.length (fun g l i wi => ∃ k : Nat, k + g = es.length ∧ i = .int .i64 k ∧ SlC wi w.heap.size l (keepTo (fun i => (atE es i).root != r) es k) ∧ Upd (fun _ => False) w wi)
  case atStart => exact ⟨0, by omega, rfl, SlC.nil _ _, Upd.refl _ _⟩
  case round =>
    obtain ⟨k, hk, rfl, hS, hu⟩ := hrel
    have HK : Hid _ := hk
    by_cases hlt : k < es.length
    · clear hk
      obtain ⟨g, rfl, _, hglt, hcell⟩ := HC.out k hlt
      have hkl := keepTo_length (fun i => (atE es i).root != r) es k
      have hstep : keepTo (fun i => (atE es i).root != r) es (k + 1) = keepTo (fun i => (atE es i).root != r) es k ++ if ((atE es k).root != r) then [atE es k] else [] := rfl
      have HST : Hid _ := hstep
      clear hstep
      cases hp : ((atE es k).root != r) with
      | false =>
        rw [hp] at HST
        have c0 := hu.cell (show w.cell? ⟨g, k * 7, none⟩ = some (.int .i64 (atE es k).root) from hcell 0 (by omega)) (fun f => f)
        clear hcell HC
        go_wp2_with fail
        go_roundg (es.length - (k + 1))
        case rel => exact ⟨k + 1, by omega, by go_num, by rw [HST.out]; simpa using hS, hu⟩
        case measure => have := HK.out; omega
      | true =>
        rw [hp] at HST
        have c0 := hu.cell (show w.cell? ⟨g, k * 7, none⟩ = some (.int .i64 (atE es k).root) from hcell 0 (by omega)) (fun f => f)
        have c1 := hu.cell (show w.cell? ⟨g, k * 7 + 1, none⟩ = some (.int .i64 (atE es k).page) from hcell 1 (by omega)) (fun f => f)
        have c2 := hu.cell (show w.cell? ⟨g, k * 7 + 2, none⟩ = some (.int .i64 (atE es k).dest) from hcell 2 (by omega)) (fun f => f)
        have c3 := hu.cell (show w.cell? ⟨g, k * 7 + 3, none⟩ = some (.bool (atE es k).may) from hcell 3 (by omega)) (fun f => f)
        have c4 := hu.cell (show w.cell? ⟨g, k * 7 + 4, none⟩ = some (.bool (atE es k).lf.there) from hcell 4 (by omega)) (fun f => f)
        have c5 := hu.cell (show w.cell? ⟨g, k * 7 + 5, none⟩ = some (.bool (atE es k).lf.wr) from hcell 5 (by omega)) (fun f => f)
        have c6 := hu.cell (show w.cell? ⟨g, k * 7 + 6, none⟩ = some (.int .i64 (atE es k).lf.fr) from hcell 6 (by omega)) (fun f => f)
        clear hcell HC
        generalize atE es k = x at *
        generalize hfs : keepTo (fun i => (atE es i).root != r) es k = fs at *
        clear hfs
        obtain ⟨i, hi, he⟩ := Option.map_eq_some_iff.1 infoEn
        simp only [Prod.mk.injEq] at he
        obtain ⟨he1, he2, he3⟩ := he
        have HE1 : Hid _ := he1
        have HE2 : Hid _ := he2
        have HE3 : Hid _ := he3
        have HI : Hid _ := hi
        clear he1 he2 he3 hi
        have hnews : ∀ j u, (enCells x)[j]? = some u → (wr.alloc (.cells #[.int .i64 x.root, .int .i64 x.page, .int .i64 x.dest, .bool x.may, .bool x.lf.there, .bool x.lf.wr, .int .i64 x.lf.fr] 151)).cell? ((⟨wr.heap.size, 0, none⟩ : Addr).add j) = some u := by
          intro j u hj
          rw [Addr.add_mid, Nat.zero_add, World.cell?_alloc_new, ← hj]
          show (enCells x).toArray[j]? = _
          simp
        have HN : Hid _ := hnews
        have HO : Hid _ := World.ownsRow.alloc hS (.cells #[.int .i64 x.root, .int .i64 x.page, .int .i64 x.dest, .bool x.may, .bool x.lf.there, .bool x.lf.wr, .int .i64 x.lf.fr] 151)
        have HB : Hid (w.heap.size ≤ (wr.alloc (.cells #[.int .i64 x.root, .int .i64 x.page, .int .i64 x.dest, .bool x.may, .bool x.lf.there, .bool x.lf.wr, .int .i64 x.lf.fr] 151)).heap.size) := show _ ≤ _ by have := hu.size; simp only [World.size_alloc]; omega
        have H1 : Hid (∀ u ∈ enCells x, u.oneCell' = true) := show ∀ u ∈ enCells x, _ from fun u hu' => enAll_one [x] u (by simpa [enAll] using hu')
        clear hnews
        go_wp2_with (at_builtin; refine wpList_append_lies _ (by rfl) _ _ 97 (by rfl) w.heap.size 151 i (.agg zeroEn) 7 48 Tryz.underlying97 HI.out HE3.out HE1.out HE2.out (by rfl) (by omega) u5 fs.length (enAll fs) (by rfl) HO.out ⟨wr.heap.size, 0, none⟩ 1 1 (enCells x) (by rfl) (by rfl) HN.out H1.out (by omega) (by unfold maxLen; omega) (by omega) HB.out (wr.heap.size + 1) (by simp) ?_; intro g2 cap2 w2 hown hgrow hat hlt2)
        obtain ⟨hS2, hu2⟩ := SlC.grown hu hS _ hown hgrow
        clear hown hgrow hat hlt2
        go_roundg (es.length - (k + 1))
        case rel => exact ⟨k + 1, by omega, by go_num, by rw [HST.out]; simpa using hS2, hu2⟩
        case measure => have := HK.out; omega
    · have ek : k = es.length := by omega
      subst ek
      clear hk HC
      go_wp2_with fail
      go_ret
      exact ⟨_, rfl, hS, hu⟩

theorem SlC.weak {w : World} {b b' : Nat} {v : Value} {es : List En} (h : SlC w b v es) (hb : b' ≤ b) : SlC w b' v es := by
  refine ⟨h.1, ?_⟩
  rcases h.2 with h0 | ⟨g, cap, cur, hv, hg, r⟩
  · exact Or.inl h0
  · exact Or.inr ⟨g, cap, cur, hv, Nat.le_trans hb hg, r⟩
/-- Put, plainly. -/
def putC (es : List En) (e : En) : List En :=
  let l := keepTo (fun i => (i : Int) != fndI es e.root e.page) es es.length ++ [e]
  if 4 < l.length then keepTo (fun i => (i : Int) != 0) l l.length else l
theorem cPut_any (w : World) (base : Nat) (v : Value) (es : List En) (x : En) (h : SlC w base v es) (hl : es.length ≤ 50) :
    Calls Tryz.prog 99 #[v, .agg #[.int .i64 x.root, .int .i64 x.page, .int .i64 x.dest, .bool x.may, .bool x.lf.there, .bool x.lf.wr, .int .i64 x.lf.fr]] w fun e w' => ∃ v', e = .returned v' ∧ SlC w' w.heap.size v' (putC es x) ∧ Upd (fun _ => False) w w' := by
  have u0 := (Upd.refl (fun _ => False) w).alloc (.cells #[.int .i64 x.root, .int .i64 x.page, .int .i64 x.dest, .bool x.may, .bool x.lf.there, .bool x.lf.wr, .int .i64 x.lf.fr] 151)
  have h0 := h.upd u0 (fun _ _ f => f)
  have cc : ∀ j, (w.alloc (.cells #[.int .i64 x.root, .int .i64 x.page, .int .i64 x.dest, .bool x.may, .bool x.lf.there, .bool x.lf.wr, .int .i64 x.lf.fr] 151)).cell? ⟨w.heap.size, j, none⟩ = (enCells x)[j]? := fun j => by
    rw [World.cell?_alloc_new]
    show (enCells x).toArray[j]? = _
    simp
  have H0 : Hid _ := h0
  have U0 : Hid _ := u0
  have CC : Hid _ := cc
  clear h0 u0 cc h
  go_enter Tryz.func99, Tryz.ntmps99
  go_wp2_with fail
  refine (cFind_any _ base _ es _ _ H0.out (by omega)).mono ?_
  rintro e w1 ⟨rfl, rfl⟩
  go_wp2_with fail
  refine (cWithout_any _ base _ es _ H0.out (by omega)).mono ?_
  rintro e w2 ⟨l, rfl, hS2, hu2⟩
  have hU2 := U0.out.trans hu2 (fun _ _ f => f)
  have hS3 : SlC w2 w.heap.size l (keepTo (fun i => (i : Int) != fndI es x.root x.page) es es.length) := hS2.weak (by simp)
  have hkl := keepTo_length (fun i => (i : Int) != fndI es x.root x.page) es es.length
  have c0 := hu2.cell (show _ = some (.int .i64 x.root) from CC.out 0) (fun f => f)
  have c1 := hu2.cell (show _ = some (.int .i64 x.page) from CC.out 1) (fun f => f)
  have c2 := hu2.cell (show _ = some (.int .i64 x.dest) from CC.out 2) (fun f => f)
  have c3 := hu2.cell (show _ = some (.bool x.may) from CC.out 3) (fun f => f)
  have c4 := hu2.cell (show _ = some (.bool x.lf.there) from CC.out 4) (fun f => f)
  have c5 := hu2.cell (show _ = some (.bool x.lf.wr) from CC.out 5) (fun f => f)
  have c6 := hu2.cell (show _ = some (.int .i64 x.lf.fr) from CC.out 6) (fun f => f)
  have hput : putC es x = if 4 < (keepTo (fun i => (i : Int) != fndI es x.root x.page) es es.length ++ [x]).length then keepTo (fun i => (i : Int) != 0) (keepTo (fun i => (i : Int) != fndI es x.root x.page) es es.length ++ [x]) (keepTo (fun i => (i : Int) != fndI es x.root x.page) es es.length ++ [x]).length else keepTo (fun i => (i : Int) != fndI es x.root x.page) es es.length ++ [x] := rfl
  have HP : Hid _ := hput
  clear hput hS2 hu2 CC U0 H0
  generalize keepTo (fun i => (i : Int) != fndI es x.root x.page) es es.length = fs at *
  obtain ⟨i, hi, he⟩ := Option.map_eq_some_iff.1 infoEn
  simp only [Prod.mk.injEq] at he
  obtain ⟨he1, he2, he3⟩ := he
  have HE1 : Hid _ := he1
  have HE2 : Hid _ := he2
  have HE3 : Hid _ := he3
  have HI : Hid _ := hi
  clear he1 he2 he3 hi
  have hnews : ∀ j u, (enCells x)[j]? = some u → (w2.alloc (.cells #[.int .i64 x.root, .int .i64 x.page, .int .i64 x.dest, .bool x.may, .bool x.lf.there, .bool x.lf.wr, .int .i64 x.lf.fr] 151)).cell? ((⟨w2.heap.size, 0, none⟩ : Addr).add j) = some u := by
    intro j u hj
    rw [Addr.add_mid, Nat.zero_add, World.cell?_alloc_new, ← hj]
    show (enCells x).toArray[j]? = _
    simp
  have HN : Hid _ := hnews
  have HO : Hid _ := World.ownsRow.alloc hS3 (.cells #[.int .i64 x.root, .int .i64 x.page, .int .i64 x.dest, .bool x.may, .bool x.lf.there, .bool x.lf.wr, .int .i64 x.lf.fr] 151)
  have HB : Hid (w.heap.size ≤ (w2.alloc (.cells #[.int .i64 x.root, .int .i64 x.page, .int .i64 x.dest, .bool x.may, .bool x.lf.there, .bool x.lf.wr, .int .i64 x.lf.fr] 151)).heap.size) := show _ ≤ _ by have := hU2.size; simp only [World.size_alloc]; omega
  have H1 : Hid (∀ u ∈ enCells x, u.oneCell' = true) := show ∀ u ∈ enCells x, _ from fun u hu' => enAll_one [x] u (by simpa [enAll] using hu')
  clear hnews
  by_cases h4 : 4 < fs.length + 1
  · have d4 : decide ((4 : Int) < (fs.length : Int) + 1) = true := by simp; omega
    go_wp2_with (at_builtin; refine wpList_append_lies _ (by rfl) _ _ 97 (by rfl) w.heap.size 151 i (.agg zeroEn) 7 48 Tryz.underlying97 HI.out HE3.out HE1.out HE2.out (by rfl) (by omega) l fs.length (enAll fs) (by rfl) HO.out ⟨w2.heap.size, 0, none⟩ 1 1 (enCells x) (by rfl) (by rfl) HN.out H1.out (by omega) (by unfold maxLen; omega) (by omega) HB.out (w2.heap.size + 1) (by simp) ?_; intro g2 cap2 w3 hown hgrow hat hlt2)
    obtain ⟨hS4, hu4⟩ := SlC.grown hU2 hS3 _ hown hgrow
    have hlen : (fs ++ [x]).length = fs.length + 1 := by simp
    have hS5 := hS4
    rw [← hlen] at hS5
    clear hown hgrow hat hlt2
    have HX := cWithout_any w3 w.heap.size _ (fs ++ [x]) 0 hS5 (by omega)
    rw [hlen] at HX
    refine Calls.mono HX ?_
    rintro e w4 ⟨v4, rfl, hS6, hu6⟩
    have hz := hu4.size
    have HR : Hid _ := hu4.trans hu6 (fun _ _ f => f)
    have HQ : Hid _ := hS6.weak hz
    clear hS6 hu6 hS5 hS4 hu4 HX
    go_wp2_with fail
    go_ret
    refine ⟨_, rfl, ?_, HR.out⟩
    rw [HP.out, if_pos (by rw [hlen]; exact h4), hlen]
    exact HQ.out
  · have d4 : decide ((4 : Int) < (fs.length : Int) + 1) = false := by simp; omega
    go_wp2_with (at_builtin; refine wpList_append_lies _ (by rfl) _ _ 97 (by rfl) w.heap.size 151 i (.agg zeroEn) 7 48 Tryz.underlying97 HI.out HE3.out HE1.out HE2.out (by rfl) (by omega) l fs.length (enAll fs) (by rfl) HO.out ⟨w2.heap.size, 0, none⟩ 1 1 (enCells x) (by rfl) (by rfl) HN.out H1.out (by omega) (by unfold maxLen; omega) (by omega) HB.out (w2.heap.size + 1) (by simp) ?_; intro g2 cap2 w3 hown hgrow hat hlt2)
    obtain ⟨hS4, hu4⟩ := SlC.grown hU2 hS3 _ hown hgrow
    have hlen : (fs ++ [x]).length = fs.length + 1 := by simp
    go_ret
    refine ⟨_, rfl, ?_, hu4⟩
    rw [HP.out, if_neg (by rw [hlen]; exact h4)]
    exact hS4
end Go.Proofs.YtadpibcgjgcjhabGreatDoor
