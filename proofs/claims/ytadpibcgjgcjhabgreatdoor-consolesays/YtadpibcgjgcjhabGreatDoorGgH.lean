/- Package guest: follow, where the table's word is remembered. -/
import Derived.Test.YtadpibcgjgcjhabGreatDoorGgG
namespace Go.Proofs.YtadpibcgjgcjhabGreatDoor
open Go.ChangeShapes Go.WideShapes Go.ChangeAt Go.RowKit
set_option maxRecDepth 1000000
attribute [local go_sem ↓] Go.wp_at_zero Go.wp_at_succ
variable {w w' : World} {bg bp bf bl bc : Nat} {s : Pl} {g : Gs} {b : Mp} {W : Int}

theorem GG.find_yes (h : GG w bg bp bf bl bc s g b W) (p : Int) (x : En) (hf : 0 ≤ fndI g.c g.root p) (hx : atE g.c (fndI g.c g.root p).toNat = x) :
    Calls Tryz.prog 174 #[.pointer (some ⟨bc, 0, none⟩), .int .i64 g.root, .int .i64 p] w fun e w' => e = .returned (.tuple #[.agg #[.int .i64 (gShow g.m x).root, .int .i64 (gShow g.m x).page, .int .i64 (gShow g.m x).dest, .bool (gShow g.m x).may, .bool (gShow g.m x).lf.there, .bool (gShow g.m x).lf.wr, .int .i64 (gShow g.m x).lf.fr], .bool true]) ∧ Upd (fun _ => False) w w' := by
  rw [fndI_idx] at hf hx
  rcases idxP_cases (isAt g.root p) g.c with ⟨k, hk, hi, _, _⟩ | ⟨hi, _⟩
  · rw [hi] at hx
    rw [Int.toNat_natCast] at hx
    have hq := kFind_yes w bc (shows g.m g.c) g.root p h.ca k (by rw [shows_length]; exact hk) (by rw [shows_idx]; exact hi)
    rw [shows_at g.m g.c hk, hx] at hq
    exact hq
  · omega
theorem GG.find_no (h : GG w bg bp bf bl bc s g b W) (p : Int) (hf : fndI g.c g.root p < 0) :
    Calls Tryz.prog 174 #[.pointer (some ⟨bc, 0, none⟩), .int .i64 g.root, .int .i64 p] w fun e w' => e = .returned (.tuple #[.agg #[.int .i64 en0.root, .int .i64 en0.page, .int .i64 en0.dest, .bool en0.may, .bool en0.lf.there, .bool en0.lf.wr, .int .i64 en0.lf.fr], .bool false]) ∧ Upd (fun _ => False) w w' := by
  rw [fndI_idx] at hf
  rcases idxP_cases (isAt g.root p) g.c with ⟨k, hk, hi, _, _⟩ | ⟨hi, _⟩
  · omega
  · exact kFind_no w bc (shows g.m g.c) g.root p h.ca (by rw [shows_idx]; exact hi)
/-- What the frame of an address ends with. -/
def FPost (w : World) (bg bp bf bl bc : Nat) (r : (Int × Int) × Pl × Gs) (b : Mp) (W : Int) (e : Ending) (w' : World) : Prop :=
  e = .returned (.tuple #[.int .i64 r.1.1, errV r.1.2]) ∧ GG w' bg bp bf bl bc r.2.1 r.2.2 b W ∧ Upd (GFt bg bf bl bc) w w'
theorem GG.known_fault (h : GG w bg bp bf bl bc s g b W) (p : Int) (x : En) (hf : 0 ≤ fndI g.c g.root p) (hx : atE g.c (fndI g.c g.root p).toNat = x) (hm : x.may = false) :
    Calls Tryz.prog 140 #[.pointer (some ⟨bg, 0, none⟩), .int .i64 p, .bool true] w (FPost w bg bp bf bl bc ((0, 5), s, g) b W) := by
  have HH : Hid (GG w bg bp bf bl bc s g b W) := h
  have HF : Hid (∀ w1, Upd (fun _ => False) w w1 → Calls Tryz.prog 174 #[.pointer (some ⟨bc, 0, none⟩), .int .i64 g.root, .int .i64 p] w1 fun e w' => e = .returned (.tuple #[.agg #[.int .i64 (gShow g.m x).root, .int .i64 (gShow g.m x).page, .int .i64 (gShow g.m x).dest, .bool (gShow g.m x).may, .bool (gShow g.m x).lf.there, .bool (gShow g.m x).lf.wr, .int .i64 (gShow g.m x).lf.fr], .bool true]) ∧ Upd (fun _ => False) w1 w') := fun w1 u => (HH.out.same u).find_yes p x hf hx
  have c2 := h.ce.c2
  have c3 := h.ce.c3
  have HM : Hid _ := hm
  clear h hf hx hm
  unfold FPost
  rw [errV_no (show (5 : Int) ≠ 0 by omega)]
  go_enter Tryz.func140, Tryz.ntmps140
  go_upto_region 1 with fail
  refine fol_rg1 w bg bc p g.root true true (gShow g.m x) c2 c3 HF.out ?_
  intro v13 v14 v15 v16 v17 v18 v19 v20 v21 v22 v23 v24 v25 w1 qx hE hz hu hq
  have e3 : w1.cell? ⟨qx, 3, none⟩ = some (.bool x.may) := hE 3 (by omega)
  rw [HM.out] at e3
  have HU : Hid _ := hu
  clear hE hz hu hq c2 c3 HF
  go_wp2_with fail
  go_ret2
  exact ⟨rfl, HH.out.same HU.out, HU.out.wide (fun _ f => f.elim)⟩
set_option maxHeartbeats 1000000 in
theorem GG.known_r_err (h : GG w bg bp bf bl bc s g b W) (p : Int) (x : En) (hf : 0 ≤ fndI g.c g.root p) (hx : atE g.c (fndI g.c g.root p).toNat = x) (he : (gTouch s g x.dest false).1.2 ≠ 0) :
    Calls Tryz.prog 140 #[.pointer (some ⟨bg, 0, none⟩), .int .i64 p, .bool false] w (FPost w bg bp bf bl bc ((0, (gTouch s g x.dest false).1.2), (gTouch s g x.dest false).2) b W) := by
  have HH : Hid (GG w bg bp bf bl bc s g b W) := h
  have HF : Hid (∀ w1, Upd (fun _ => False) w w1 → Calls Tryz.prog 174 #[.pointer (some ⟨bc, 0, none⟩), .int .i64 g.root, .int .i64 p] w1 fun e w' => e = .returned (.tuple #[.agg #[.int .i64 (gShow g.m x).root, .int .i64 (gShow g.m x).page, .int .i64 (gShow g.m x).dest, .bool (gShow g.m x).may, .bool (gShow g.m x).lf.there, .bool (gShow g.m x).lf.wr, .int .i64 (gShow g.m x).lf.fr], .bool true]) ∧ Upd (fun _ => False) w1 w') := fun w1 u => (HH.out.same u).find_yes p x hf hx
  have c2 := h.ce.c2
  have c3 := h.ce.c3
  have HE : Hid _ := he
  clear h hf hx he
  unfold FPost
  simp only
  rw [errV_no HE.out]
  go_enter Tryz.func140, Tryz.ntmps140
  go_upto_region 1 with fail
  refine fol_rg1 w bg bc p g.root false true (gShow g.m x) c2 c3 HF.out ?_
  intro v13 v14 v15 v16 v17 v18 v19 v20 v21 v22 v23 v24 v25 w1 qx hE hz hu hq
  have e2 : w1.cell? ⟨qx, 2, none⟩ = some (.int .i64 x.dest) := hE 2 (by omega)
  have ht := (HH.out.same hu).touch x.dest false
  rw [errV_no HE.out] at ht
  have HT : Hid _ := ht
  have HU : Hid _ := hu
  clear hE hz hu hq c2 c3 HF ht
  go_wp2_with fail
  refine Calls.mono HT.out ?_
  rintro e w2 ⟨rfl, hg2, hu2⟩
  have HG2 : Hid (GG w2 bg bp bf bl bc (gTouch s g x.dest false).2.1 (gTouch s g x.dest false).2.2 b W) := hg2
  have HU2 : Hid (Upd (GFt bg bf bl bc) w w2) := (HU.out.wide (T := GFt bg bf bl bc) (fun _ f => f.elim)).trans hu2 (fun _ _ e => e)
  clear hg2 hu2 HT HU e2
  go_wp2_with fail
  go_ret2
  exact ⟨rfl, HG2.out, HU2.out⟩
set_option maxHeartbeats 1000000 in
theorem GG.known_r_ok (h : GG w bg bp bf bl bc s g b W) (p : Int) (x : En) (hf : 0 ≤ fndI g.c g.root p) (hx : atE g.c (fndI g.c g.root p).toNat = x) (he : (gTouch s g x.dest false).1.2 = 0) :
    Calls Tryz.prog 140 #[.pointer (some ⟨bg, 0, none⟩), .int .i64 p, .bool false] w (FPost w bg bp bf bl bc (((gTouch s g x.dest false).1.1, 0), (gTouch s g x.dest false).2) b W) := by
  have HH : Hid (GG w bg bp bf bl bc s g b W) := h
  have HF : Hid (∀ w1, Upd (fun _ => False) w w1 → Calls Tryz.prog 174 #[.pointer (some ⟨bc, 0, none⟩), .int .i64 g.root, .int .i64 p] w1 fun e w' => e = .returned (.tuple #[.agg #[.int .i64 (gShow g.m x).root, .int .i64 (gShow g.m x).page, .int .i64 (gShow g.m x).dest, .bool (gShow g.m x).may, .bool (gShow g.m x).lf.there, .bool (gShow g.m x).lf.wr, .int .i64 (gShow g.m x).lf.fr], .bool true]) ∧ Upd (fun _ => False) w1 w') := fun w1 u => (HH.out.same u).find_yes p x hf hx
  have c2 := h.ce.c2
  have c3 := h.ce.c3
  have HE : Hid _ := he
  clear h hf hx he
  unfold FPost
  simp only
  rw [errV_zero]
  go_enter Tryz.func140, Tryz.ntmps140
  go_upto_region 1 with fail
  refine fol_rg1 w bg bc p g.root false true (gShow g.m x) c2 c3 HF.out ?_
  intro v13 v14 v15 v16 v17 v18 v19 v20 v21 v22 v23 v24 v25 w1 qx hE hz hu hq
  have e2 : w1.cell? ⟨qx, 2, none⟩ = some (.int .i64 x.dest) := hE 2 (by omega)
  have ht := (HH.out.same hu).touch x.dest false
  rw [HE.out, errV_zero] at ht
  have HT : Hid _ := ht
  have HU : Hid _ := hu
  clear hE hz hu hq c2 c3 HF ht
  go_wp2_with fail
  refine Calls.mono HT.out ?_
  rintro e w2 ⟨rfl, hg2, hu2⟩
  have HG2 : Hid (GG w2 bg bp bf bl bc (gTouch s g x.dest false).2.1 (gTouch s g x.dest false).2.2 b W) := hg2
  have HU2 : Hid (Upd (GFt bg bf bl bc) w w2) := (HU.out.wide (T := GFt bg bf bl bc) (fun _ f => f.elim)).trans hu2 (fun _ _ e => e)
  clear hg2 hu2 HT HU e2
  go_wp2_with fail
  go_ret2
  exact ⟨rfl, HG2.out, HU2.out⟩
set_option maxHeartbeats 1000000 in
theorem GG.known_w_err (h : GG w bg bp bf bl bc s g b W) (p : Int) (x : En) (hf : 0 ≤ fndI g.c g.root p) (hx : atE g.c (fndI g.c g.root p).toNat = x) (hm : x.may = true) (he : (gTouch s g x.dest true).1.2 ≠ 0) :
    Calls Tryz.prog 140 #[.pointer (some ⟨bg, 0, none⟩), .int .i64 p, .bool true] w (FPost w bg bp bf bl bc ((0, (gTouch s g x.dest true).1.2), (gTouch s g x.dest true).2) b W) := by
  have HH : Hid (GG w bg bp bf bl bc s g b W) := h
  have HF : Hid (∀ w1, Upd (fun _ => False) w w1 → Calls Tryz.prog 174 #[.pointer (some ⟨bc, 0, none⟩), .int .i64 g.root, .int .i64 p] w1 fun e w' => e = .returned (.tuple #[.agg #[.int .i64 (gShow g.m x).root, .int .i64 (gShow g.m x).page, .int .i64 (gShow g.m x).dest, .bool (gShow g.m x).may, .bool (gShow g.m x).lf.there, .bool (gShow g.m x).lf.wr, .int .i64 (gShow g.m x).lf.fr], .bool true]) ∧ Upd (fun _ => False) w1 w') := fun w1 u => (HH.out.same u).find_yes p x hf hx
  have c2 := h.ce.c2
  have c3 := h.ce.c3
  have HM : Hid _ := hm
  have HE : Hid _ := he
  clear h hf hx hm he
  unfold FPost
  simp only
  rw [errV_no HE.out]
  go_enter Tryz.func140, Tryz.ntmps140
  go_upto_region 1 with fail
  refine fol_rg1 w bg bc p g.root true true (gShow g.m x) c2 c3 HF.out ?_
  intro v13 v14 v15 v16 v17 v18 v19 v20 v21 v22 v23 v24 v25 w1 qx hE hz hu hq
  have e2 : w1.cell? ⟨qx, 2, none⟩ = some (.int .i64 x.dest) := hE 2 (by omega)
  have e3 : w1.cell? ⟨qx, 3, none⟩ = some (.bool x.may) := hE 3 (by omega)
  rw [HM.out] at e3
  have ht := (HH.out.same hu).touch x.dest true
  rw [errV_no HE.out] at ht
  have HT : Hid _ := ht
  have HU : Hid _ := hu
  clear hE hz hu hq c2 c3 HF ht
  go_wp2_with fail
  refine Calls.mono HT.out ?_
  rintro e w2 ⟨rfl, hg2, hu2⟩
  have HG2 : Hid (GG w2 bg bp bf bl bc (gTouch s g x.dest true).2.1 (gTouch s g x.dest true).2.2 b W) := hg2
  have HU2 : Hid (Upd (GFt bg bf bl bc) w w2) := (HU.out.wide (T := GFt bg bf bl bc) (fun _ f => f.elim)).trans hu2 (fun _ _ e => e)
  clear hg2 hu2 HT HU e2 e3
  go_wp2_with fail
  go_ret2
  exact ⟨rfl, HG2.out, HU2.out⟩
set_option maxHeartbeats 1000000 in
theorem GG.known_w_ok (h : GG w bg bp bf bl bc s g b W) (p : Int) (x : En) (hf : 0 ≤ fndI g.c g.root p) (hx : atE g.c (fndI g.c g.root p).toNat = x) (hm : x.may = true) (he : (gTouch s g x.dest true).1.2 = 0) :
    Calls Tryz.prog 140 #[.pointer (some ⟨bg, 0, none⟩), .int .i64 p, .bool true] w (FPost w bg bp bf bl bc (((gTouch s g x.dest true).1.1, 0), (gTouch s g x.dest true).2) b W) := by
  have HH : Hid (GG w bg bp bf bl bc s g b W) := h
  have HF : Hid (∀ w1, Upd (fun _ => False) w w1 → Calls Tryz.prog 174 #[.pointer (some ⟨bc, 0, none⟩), .int .i64 g.root, .int .i64 p] w1 fun e w' => e = .returned (.tuple #[.agg #[.int .i64 (gShow g.m x).root, .int .i64 (gShow g.m x).page, .int .i64 (gShow g.m x).dest, .bool (gShow g.m x).may, .bool (gShow g.m x).lf.there, .bool (gShow g.m x).lf.wr, .int .i64 (gShow g.m x).lf.fr], .bool true]) ∧ Upd (fun _ => False) w1 w') := fun w1 u => (HH.out.same u).find_yes p x hf hx
  have c2 := h.ce.c2
  have c3 := h.ce.c3
  have HM : Hid _ := hm
  have HE : Hid _ := he
  clear h hf hx hm he
  unfold FPost
  simp only
  rw [errV_zero]
  go_enter Tryz.func140, Tryz.ntmps140
  go_upto_region 1 with fail
  refine fol_rg1 w bg bc p g.root true true (gShow g.m x) c2 c3 HF.out ?_
  intro v13 v14 v15 v16 v17 v18 v19 v20 v21 v22 v23 v24 v25 w1 qx hE hz hu hq
  have e2 : w1.cell? ⟨qx, 2, none⟩ = some (.int .i64 x.dest) := hE 2 (by omega)
  have e3 : w1.cell? ⟨qx, 3, none⟩ = some (.bool x.may) := hE 3 (by omega)
  rw [HM.out] at e3
  have ht := (HH.out.same hu).touch x.dest true
  rw [HE.out, errV_zero] at ht
  have HT : Hid _ := ht
  have HU : Hid _ := hu
  clear hE hz hu hq c2 c3 HF ht
  go_wp2_with fail
  refine Calls.mono HT.out ?_
  rintro e w2 ⟨rfl, hg2, hu2⟩
  have HG2 : Hid (GG w2 bg bp bf bl bc (gTouch s g x.dest true).2.1 (gTouch s g x.dest true).2.2 b W) := hg2
  have HU2 : Hid (Upd (GFt bg bf bl bc) w w2) := (HU.out.wide (T := GFt bg bf bl bc) (fun _ f => f.elim)).trans hu2 (fun _ _ e => e)
  clear hg2 hu2 HT HU e2 e3
  go_wp2_with fail
  go_ret2
  exact ⟨rfl, HG2.out, HU2.out⟩
theorem GG.follow_known (h : GG w bg bp bf bl bc s g b W) (p : Int) (wt : Bool) (x : En) (hf : 0 ≤ fndI g.c g.root p) (hx : atE g.c (fndI g.c g.root p).toNat = x) :
    Calls Tryz.prog 140 #[.pointer (some ⟨bg, 0, none⟩), .int .i64 p, .bool wt] w (FPost w bg bp bf bl bc (gStep s g x true wt) b W) := by
  have hc := touch_code s g.m x.dest wt
  have hcc : 0 ≤ (gTouch s g x.dest wt).1.2 := hc
  unfold gStep
  cases wt with
  | false =>
    simp only [Bool.false_and, Bool.false_eq_true, if_false]
    split
    · next h0 => exact h.known_r_err p x hf hx (by omega)
    · next h0 => exact h.known_r_ok p x hf hx (by omega)
  | true =>
    cases hm : x.may with
    | false =>
      simp only [Bool.true_and, Bool.not_false, if_true]
      exact h.known_fault p x hf hx hm
    | true =>
      simp only [Bool.true_and, Bool.not_true, Bool.false_eq_true, if_false]
      split
      · next h0 => exact h.known_w_err p x hf hx hm (by omega)
      · next h0 => exact h.known_w_ok p x hf hx hm (by omega)
end Go.Proofs.YtadpibcgjgcjhabGreatDoor
