/- Package cache: Put. -/
import Derived.Test.YtadpibcgjgcjhabGreatDoorCkE
namespace Go.Proofs.YtadpibcgjgcjhabGreatDoor
open Go.ChangeShapes Go.WideShapes Go.ChangeAt Go.RowKit
set_option maxRecDepth 100000
attribute [local go_sem ↓] Go.wp_at_zero Go.wp_at_succ

/-- Put as the program does it, plainly. -/
def cut1 (l : List En) : List En := if l.length = 4 then flt (isAt (atE l 0).root (atE l 0).page) l else l
def putK (es : List En) (x : En) : List En := cut1 (flt (isAt x.root x.page) es) ++ [x]
theorem flt_first (l : List En) (h : 0 < l.length) : (flt (isAt (atE l 0).root (atE l 0).page) l).length < l.length := by
  rcases l with _ | ⟨e, l⟩
  · simp at h
  · have hx : isAt (atE (e :: l) 0).root (atE (e :: l) 0).page e = true := by simp [isAt, atE]
    have := List.length_filter_le (fun y => !isAt (atE (e :: l) 0).root (atE (e :: l) 0).page y) l
    unfold flt
    rw [List.filter_cons_of_neg (by rw [hx]; simp)]
    simp only [List.length_cons]
    omega
theorem cut1_length (l : List En) (h : l.length ≤ 4) : (cut1 l).length ≤ 3 := by
  unfold cut1
  split
  · next h4 => have := flt_first l (by omega); omega
  · omega
theorem CaL.of {w : World} {b : Nat} {c : Nat → En} {es : List En} {n : Nat} (h : CaAt w b c n) (hn : n = es.length) (hes : ∀ i, i < es.length → c i = atE es i) : CaL w b es := ⟨c, by rw [← hn]; exact h, hes⟩
theorem atE_snoc (l : List En) (x : En) (c : Nat → En) (h : ∀ i, i < l.length → c i = atE l i) : ∀ i, i < (l ++ [x]).length → setAt c l.length x i = atE (l ++ [x]) i := by
  intro i hi
  rw [List.length_append] at hi
  by_cases e : i = l.length
  · subst e
    simp [setAt, atE, List.getD_eq_getElem?_getD]
  · have hlt : i < l.length := by simp at hi; omega
    rw [setAt_other _ _ _ _ e, h i hlt]
    simp [atE, List.getD_eq_getElem?_getD, List.getElem?_append_left hlt]
/-- The last of it: the entry is laid behind all. -/
theorem kPut_any (w : World) (b : Nat) (es : List En) (x : En) (h : CaL w b es) :
    Calls Tryz.prog 194 #[.pointer (some ⟨b, 0, none⟩), .agg #[.int .i64 x.root, .int .i64 x.page, .int .i64 x.dest, .bool x.may, .bool x.lf.there, .bool x.lf.wr, .int .i64 x.lf.fr]] w fun e w' => e = .returned (.tuple #[]) ∧ CaL w' b (putK es x) ∧ Upd (fun k => k = b) w w' := by
  have hlt := h.lt
  have hu0 := (Upd.refl (fun _ => False) w).alloc (.cells #[.int .i64 x.root, .int .i64 x.page, .int .i64 x.dest, .bool x.may, .bool x.lf.there, .bool x.lf.wr, .int .i64 x.lf.fr] 151)
  have hq : ∀ j, (w.alloc (.cells #[.int .i64 x.root, .int .i64 x.page, .int .i64 x.dest, .bool x.may, .bool x.lf.there, .bool x.lf.wr, .int .i64 x.lf.fr] 151)).cell? ⟨w.heap.size, j, none⟩ = (enCells x)[j]? := fun j => by
    rw [World.cell?_alloc_new]
    show (enCells x).toArray[j]? = _
    simp
  have HQ : Hid _ := hq
  have HU0 : Hid _ := hu0
  have HH : Hid (CaL _ b es) := h.upd hu0 (fun f => f)
  clear h hu0 hq
  go_enter Tryz.func194, Tryz.ntmps194
  go_wp2_with fail
  refine (kDrop_any _ b es x.root x.page HH.out).mono ?_
  rintro e w1 ⟨rfl, hc1, hu1⟩
  have hput : putK es x = cut1 (flt (isAt x.root x.page) es) ++ [x] := rfl
  have HPU : Hid _ := hput
  have hl1 := hc1.le
  have hu01 := HU0.out.free.trans hu1 (fun _ _ e => e)
  have q0 := hu1.cell (show _ = some (.int .i64 x.root) from HQ.out 0) (by simp only; omega)
  have q1 := hu1.cell (show _ = some (.int .i64 x.page) from HQ.out 1) (by simp only; omega)
  have q2 := hu1.cell (show _ = some (.int .i64 x.dest) from HQ.out 2) (by simp only; omega)
  have q3 := hu1.cell (show _ = some (.bool x.may) from HQ.out 3) (by simp only; omega)
  have q4 := hu1.cell (show _ = some (.bool x.lf.there) from HQ.out 4) (by simp only; omega)
  have q5 := hu1.cell (show _ = some (.bool x.lf.wr) from HQ.out 5) (by simp only; omega)
  have q6 := hu1.cell (show _ = some (.int .i64 x.lf.fr) from HQ.out 6) (by simp only; omega)
  have hc1' := hc1
  obtain ⟨c, hca, hce⟩ := hc1'
  have n0 := hca.cnt
  have HC1 : Hid (CaL w1 b (flt (isAt x.root x.page) es)) := hc1
  have HCA : Hid _ := hca
  have HCE : Hid _ := hce
  have HU1 : Hid _ := hu01
  clear hput HQ HU0 HH hu01 hu1 hc1 hca hce
  generalize flt (isAt x.root x.page) es = l at *
  generalize hdd : decide ((0 : Int) < ((es.length - l.length : Nat) : Int)) = dd
  clear hdd
  by_cases h4 : l.length = 4
  · have hb4 : (((l.length : Nat) : Int) == 4) = true := by rw [h4]; rfl
    have e0 := HCE.out 0 (by omega)
    have hA := HCA.out
    have c0 : w1.cell? ⟨b, 0, none⟩ = some (.int .i64 (atE l 0).root) := by have := hA.cells 0 0 (by omega) (by omega); rw [e0] at this; exact this
    have c1 : w1.cell? ⟨b, 1, none⟩ = some (.int .i64 (atE l 0).page) := by have := hA.cells 0 1 (by omega) (by omega); rw [e0] at this; exact this
    have c2 : w1.cell? ⟨b, 2, none⟩ = some (.int .i64 (atE l 0).dest) := by have := hA.cells 0 2 (by omega) (by omega); rw [e0] at this; exact this
    have c3 : w1.cell? ⟨b, 3, none⟩ = some (.bool (atE l 0).may) := by have := hA.cells 0 3 (by omega) (by omega); rw [e0] at this; exact this
    have c4 : w1.cell? ⟨b, 4, none⟩ = some (.bool (atE l 0).lf.there) := by have := hA.cells 0 4 (by omega) (by omega); rw [e0] at this; exact this
    have c5 : w1.cell? ⟨b, 5, none⟩ = some (.bool (atE l 0).lf.wr) := by have := hA.cells 0 5 (by omega) (by omega); rw [e0] at this; exact this
    have c6 : w1.cell? ⟨b, 6, none⟩ = some (.int .i64 (atE l 0).lf.fr) := by have := hA.cells 0 6 (by omega) (by omega); rw [e0] at this; exact this
    have hcut : cut1 l = flt (isAt (atE l 0).root (atE l 0).page) l := by unfold cut1; rw [if_pos h4]
    have HCUT : Hid _ := hcut
    clear hcut hA e0
    generalize atE l 0 = y at *
    have hu2 := (Upd.refl (fun _ => False) w1).alloc (.cells #[.int .i64 y.root, .int .i64 y.page, .int .i64 y.dest, .bool y.may, .bool y.lf.there, .bool y.lf.wr, .int .i64 y.lf.fr] 151)
    have HU2 : Hid _ := hu2
    clear hu2
    go_wp2_with fail
    refine (kDrop_any _ b l y.root y.page (HC1.out.upd HU2.out (fun f => f))).mono ?_
    rintro e w2 ⟨rfl, hc2, hu2⟩
    have hu12 := HU2.out.free.trans hu2 (fun _ _ e => e)
    have HU3 : Hid _ := HU1.out.trans hu12 (fun _ _ e => e)
    have q0 := hu12.cell q0 (by simp only; omega)
    have q1 := hu12.cell q1 (by simp only; omega)
    have q2 := hu12.cell q2 (by simp only; omega)
    have q3 := hu12.cell q3 (by simp only; omega)
    have q4 := hu12.cell q4 (by simp only; omega)
    have q5 := hu12.cell q5 (by simp only; omega)
    have q6 := hu12.cell q6 (by simp only; omega)
    have hle := cut1_length l hl1
    rw [HCUT.out] at hle
    rw [HCUT.out] at HPU
    generalize hdd : decide ((0 : Int) < ((l.length - (flt (isAt y.root y.page) l).length : Nat) : Int)) = d2
    clear hdd hu2 hu12 c0 c1 c2 c3 c4 c5 c6 n0 HC1 HCA HCE HU1 HU2 HCUT hb4 h4 hl1
    generalize flt (isAt y.root y.page) l = z at *
    obtain ⟨c, hca, hce⟩ := hc2
    have n0 := hca.cnt
    have fz := hca.fz
    have e0 : w2.cell? ⟨b, z.length * 7, none⟩ = some (.int .i64 (c z.length).root) := hca.cells z.length 0 (by omega) (by omega)
    have e1 : w2.cell? ⟨b, z.length * 7 + 1, none⟩ = some (.int .i64 (c z.length).page) := hca.cells z.length 1 (by omega) (by omega)
    have e2 : w2.cell? ⟨b, z.length * 7 + 2, none⟩ = some (.int .i64 (c z.length).dest) := hca.cells z.length 2 (by omega) (by omega)
    have e3 : w2.cell? ⟨b, z.length * 7 + 3, none⟩ = some (.bool (c z.length).may) := hca.cells z.length 3 (by omega) (by omega)
    have e4 : w2.cell? ⟨b, z.length * 7 + 4, none⟩ = some (.bool (c z.length).lf.there) := hca.cells z.length 4 (by omega) (by omega)
    have e5 : w2.cell? ⟨b, z.length * 7 + 5, none⟩ = some (.bool (c z.length).lf.wr) := hca.cells z.length 5 (by omega) (by omega)
    have e6 : w2.cell? ⟨b, z.length * 7 + 6, none⟩ = some (.int .i64 (c z.length).lf.fr) := hca.cells z.length 6 (by omega) (by omega)
    have i0 : (0 : Int) ≤ (z.length : Int) := by omega
    have i1 : (z.length : Int) < 4 := by omega
    have HCA : Hid _ := hca
    have HCE : Hid _ := hce
    clear hca hce
    generalize c z.length = o at e0 e1 e2 e3 e4 e5 e6
    go_wp2_with fail
    go_region
    have hA := HCA.out.set7 (i := z.length) (by omega) x
    have hU := Upd.set7 w2 b z.length x
    revert hA hU
    generalize (((((((w2.setCell ⟨b, z.length * 7, none⟩ (.int .i64 x.root)).setCell ⟨b, z.length * 7 + 1, none⟩ (.int .i64 x.page)).setCell ⟨b, z.length * 7 + 2, none⟩ (.int .i64 x.dest)).setCell ⟨b, z.length * 7 + 3, none⟩ (.bool x.may)).setCell ⟨b, z.length * 7 + 4, none⟩ (.bool x.lf.there)).setCell ⟨b, z.length * 7 + 5, none⟩ (.bool x.lf.wr)).setCell ⟨b, z.length * 7 + 6, none⟩ (.int .i64 x.lf.fr)) = w7
    intro hA hU
    have n1 : w7.drew.cell? ⟨b, 28, none⟩ = some (.int .i64 z.length) := hA.cnt
    have f1 : w7.drew.frozen? ⟨b, 28, none⟩ = false := hA.fz 28
    have HA : Hid _ := hA.upd ((Upd.refl (fun _ => False) w7).drew) (fun f => f)
    have HU : Hid _ := HU3.out.trans hU.drew (fun _ _ e => e)
    clear hA hU n0 fz e0 e1 e2 e3 e4 e5 e6 q0 q1 q2 q3 q4 q5 q6
    go_wp2_with fail
    go_end0
    refine ⟨by first | rfl | trivial, ?_, HU.out.trans (Upd.one _ _ _ _) (fun _ _ e => e)⟩
    rw [HPU.out]
    exact CaL.of (HA.out.setCnt (z.length + 1) (by omega)) (by simp) (atE_snoc z x c HCE.out)
  · have hb4 : (((l.length : Nat) : Int) == 4) = false := beq_eq_false_iff_ne.2 (by omega)
    have hcut : cut1 l = l := by unfold cut1; rw [if_neg h4]
    rw [hcut] at HPU
    have HU3 : Hid _ := HU1.out
    have hle : l.length ≤ 3 := by omega
    have hc2 := HC1.out
    clear hcut n0 HC1 HCA HCE HU1 hl1 h4
    generalize l = z at *
    generalize w1 = w2 at *
    obtain ⟨c, hca, hce⟩ := hc2
    have n0 := hca.cnt
    have fz := hca.fz
    have e0 : w2.cell? ⟨b, z.length * 7, none⟩ = some (.int .i64 (c z.length).root) := hca.cells z.length 0 (by omega) (by omega)
    have e1 : w2.cell? ⟨b, z.length * 7 + 1, none⟩ = some (.int .i64 (c z.length).page) := hca.cells z.length 1 (by omega) (by omega)
    have e2 : w2.cell? ⟨b, z.length * 7 + 2, none⟩ = some (.int .i64 (c z.length).dest) := hca.cells z.length 2 (by omega) (by omega)
    have e3 : w2.cell? ⟨b, z.length * 7 + 3, none⟩ = some (.bool (c z.length).may) := hca.cells z.length 3 (by omega) (by omega)
    have e4 : w2.cell? ⟨b, z.length * 7 + 4, none⟩ = some (.bool (c z.length).lf.there) := hca.cells z.length 4 (by omega) (by omega)
    have e5 : w2.cell? ⟨b, z.length * 7 + 5, none⟩ = some (.bool (c z.length).lf.wr) := hca.cells z.length 5 (by omega) (by omega)
    have e6 : w2.cell? ⟨b, z.length * 7 + 6, none⟩ = some (.int .i64 (c z.length).lf.fr) := hca.cells z.length 6 (by omega) (by omega)
    have i0 : (0 : Int) ≤ (z.length : Int) := by omega
    have i1 : (z.length : Int) < 4 := by omega
    have HCA : Hid _ := hca
    have HCE : Hid _ := hce
    clear hca hce
    generalize c z.length = o at e0 e1 e2 e3 e4 e5 e6
    go_wp2_with fail
    go_region
    have hA := HCA.out.set7 (i := z.length) (by omega) x
    have hU := Upd.set7 w2 b z.length x
    revert hA hU
    generalize (((((((w2.setCell ⟨b, z.length * 7, none⟩ (.int .i64 x.root)).setCell ⟨b, z.length * 7 + 1, none⟩ (.int .i64 x.page)).setCell ⟨b, z.length * 7 + 2, none⟩ (.int .i64 x.dest)).setCell ⟨b, z.length * 7 + 3, none⟩ (.bool x.may)).setCell ⟨b, z.length * 7 + 4, none⟩ (.bool x.lf.there)).setCell ⟨b, z.length * 7 + 5, none⟩ (.bool x.lf.wr)).setCell ⟨b, z.length * 7 + 6, none⟩ (.int .i64 x.lf.fr)) = w7
    intro hA hU
    have n1 : w7.drew.cell? ⟨b, 28, none⟩ = some (.int .i64 z.length) := hA.cnt
    have f1 : w7.drew.frozen? ⟨b, 28, none⟩ = false := hA.fz 28
    have HA : Hid _ := hA.upd ((Upd.refl (fun _ => False) w7).drew) (fun f => f)
    have HU : Hid _ := HU3.out.trans hU.drew (fun _ _ e => e)
    clear hA hU n0 fz e0 e1 e2 e3 e4 e5 e6 q0 q1 q2 q3 q4 q5 q6
    go_wp2_with fail
    go_end0
    refine ⟨by first | rfl | trivial, ?_, HU.out.trans (Upd.one _ _ _ _) (fun _ _ e => e)⟩
    rw [HPU.out]
    exact CaL.of (HA.out.setCnt (z.length + 1) (by omega)) (by simp) (atE_snoc z x c HCE.out)
end Go.Proofs.YtadpibcgjgcjhabGreatDoor
