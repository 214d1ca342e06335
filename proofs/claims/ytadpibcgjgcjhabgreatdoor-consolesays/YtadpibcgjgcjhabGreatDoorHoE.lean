/- A flat memory, plainly, and what a guest of a host is told: the same. -/
import Derived.Test.YtadpibcgjgcjhabGreatDoorHoD
namespace Go.Proofs.YtadpibcgjgcjhabGreatDoor
open Go.RowKit

/-- What a guest may see. -/
structure Fl where
  st : Nat → Int
  b : Nat → Nat → Int
  root : Int
  c : List En
def fl0 : Fl := ⟨fun _ => 0, fun _ _ => 0, -1, []⟩
def fStep (f : Fl) (x : En) (found wt : Bool) : (Int × Int) × Fl :=
  if wt && !x.may then ((0, 5), f)
  else if 0 < pgCode (f.st x.dest.toNat) then ((0, pgCode (f.st x.dest.toNat)), f)
  else ((x.dest, 0), if found then f else { f with c := putC f.c x })
def fAt (f : Fl) (addr : Int) (wt : Bool) : (Int × Int) × Fl :=
  if addr < 0 ∨ 255 < addr then ((0, 1), f)
  else if f.root = -1 then ((addr / 16, pgCode (f.st (addr / 16).toNat)), f)
  else if 0 ≤ fndI f.c f.root (addr / 16) then fStep f (atE f.c (fndI f.c f.root (addr / 16)).toNat) true wt
  else if 0 < pgCode (f.st f.root.toNat) then ((0, pgCode (f.st f.root.toNat)), f)
  else if f.b f.root.toNat (addr / 16).toNat < 128 then ((0, 5), f)
  else fStep f (gEn f.root (addr / 16) (f.b f.root.toNat (addr / 16).toNat)) false wt
def fLoad (f : Fl) (addr : Int) : (Int × Int) × Fl :=
  if 0 < (fAt f addr false).1.2 then ((0, (fAt f addr false).1.2), (fAt f addr false).2)
  else (((fAt f addr false).2.b (fAt f addr false).1.1.toNat (addr % 16).toNat, 0), (fAt f addr false).2)
def fStore (f : Fl) (addr v : Int) : Int × Fl :=
  if 0 < (fAt f addr true).1.2 then ((fAt f addr true).1.2, (fAt f addr true).2)
  else (0, { (fAt f addr true).2 with b := setAt (fAt f addr true).2.b (fAt f addr true).1.1.toNat (setAt ((fAt f addr true).2.b (fAt f addr true).1.1.toNat) (addr % 16).toNat v) })
/-- A guest's view is that flat memory. -/
structure FR (n : Nat) (x : Gs) (t : Nat → Nat → Int) (f : Fl) : Prop where
  st : ∀ k, k < 16 → f.st k = x.m.st k
  b : ∀ k i, k < 16 → i < 16 → f.b k i = t (16 * n + k) i
  root : f.root = x.root
  c : f.c = x.c
variable {h : Hs} {t : Nat → Nat → Int} {W W' : Int} {n : Nat} {x : Gs} {f : Fl}
theorem pgCode_le (z : Int) : 0 ≤ pgCode z := by
  unfold pgCode
  repeat' split
  all_goals omega
theorem HR.more (hr : HR h t W) (hw : W ≤ W') : HR h t W' := ⟨⟨hr.inv.cn, hr.inv.byt, fun i y hy => ⟨(hr.inv.gi i y hy).1, { (hr.inv.gi i y hy).2 with w1 := Int.le_trans (hr.inv.gi i y hy).2.w1 hw }⟩⟩, hr.ri, hr.le⟩
/-- Only what the processor keeps turns. -/
theorem HR.own {y : Gs} (hr : HR h t W) (hx : h.g n = some x) (hm : y.m = x.m) (hg : GInv h.s y (oth h n) W') (hd : Dist y.c) (hW : W ≤ W') : HR (h.put n (h.s, y)) t W' :=
  ⟨hr.inv.put hx hg hd rfl hW, by rw [row_same hx (by rw [hm])]; exact hr.ri, by rw [rowS_same hx (by rw [hm])]; exact hr.le⟩
theorem FR.same {y : Gs} (hf : FR n x t f) (hs : y.m.st = x.m.st) (hr : y.root = x.root) (hc : y.c = x.c) : FR n y t f := ⟨fun k hk => by rw [hs]; exact hf.st k hk, hf.b, hf.root.trans hr.symm, hf.c.trans hc.symm⟩
/-- What a frame that an address leads to ends with. -/
structure AtOk (h : Hs) (n : Nat) (t : Nat → Nat → Int) (W : Int) (wt : Bool) (r : (Int × Int) × Pl × Gs) (q : (Int × Int) × Fl) : Prop where
  hr : HR (h.put n r.2) t W
  fr : FR n r.2.2 t q.2
  code : r.1.2 = q.1.2
  page : r.1.2 = 0 → (0 ≤ q.1.1 ∧ q.1.1 < 16) ∧ (r.2.2.m.lf q.1.1.toNat).there = true ∧ (r.2.2.m.lf q.1.1.toNat).fr = r.1.1 ∧ (wt = true → (r.2.2.m.lf q.1.1.toNat).wr = true)
theorem step_ok (hr : HR h t W) (hx : h.g n = some x) (hf : FR n x t f) (y : En) (hy : 0 ≤ y.dest ∧ y.dest < 16) (found wt : Bool) : AtOk h n t W wt (gStep h.s x y found wt) (fStep f y found wt) := by
  obtain ⟨hn, ok⟩ := hr.inv.gi n x hx
  have hgi := hr.inv.ginv hx
  have hdi := step_dist (s := h.s) ok.di ok.len y found wt
  have hgs := hgi.step y hy found wt
  obtain ⟨k, hk⟩ := Int.eq_ofNat_of_zero_le hy.1
  have hk16 : k < 16 := by omega
  obtain ⟨h1, h2, h3⟩ := hr.touch hx hk16 wt
  have hst : f.st y.dest.toNat = x.m.st k := by rw [hk, Int.toNat_natCast]; exact hf.st k hk16
  have hcode : (gTouch h.s x y.dest wt).1.2 = pgCode (f.st y.dest.toNat) := by rw [hst, hk]; exact h2
  revert hdi hgs
  unfold gStep fStep
  intro hdi hgs
  by_cases hw : (wt && !y.may) = true
  · rw [if_pos hw, if_pos hw]
    exact ⟨by rw [Hs.put_self hx]; exact hr, hf, rfl, fun e => by simp at e⟩
  · rw [if_neg hw] at hdi hgs
    rw [if_neg hw, if_neg hw, hcode]
    rw [hcode] at hdi hgs
    by_cases hp : 0 < pgCode (f.st y.dest.toNat)
    · rw [if_pos hp, if_pos hp]
      rw [hk]
      refine ⟨h1, hf.same (touch_st _ _ _ _) rfl rfl, rfl, fun e => ?_⟩
      rw [hk] at hp
      simp only at e
      omega
    · rw [if_neg hp] at hdi hgs
      rw [if_neg hp, if_neg hp]
      have hz : pgCode (x.m.st k) = 0 := by have := pgCode_le (x.m.st k); rw [hst] at hp; omega
      have h3' := h3 hz
      rw [← hk] at h1 h3'
      cases found with
      | true =>
        simp only [if_true] at hdi hgs ⊢
        exact ⟨h1, hf.same (touch_st _ _ _ _) rfl rfl, rfl, fun _ => ⟨hy, by rw [show y.dest.toNat = k by rw [hk]; rfl]; exact h3'⟩⟩
      | false =>
        simp only [Bool.false_eq_true, if_false] at hdi hgs ⊢
        refine ⟨?_, ⟨fun j hj => (hf.st j hj).trans (congrFun (touch_st h.s x.m y.dest wt) j).symm, hf.b, hf.root, ?_⟩, rfl, fun _ => ⟨hy, by rw [show y.dest.toNat = k by rw [hk]; rfl]; exact h3'⟩⟩
        · have := h1.own (n := n) (x := (gTouch h.s x y.dest wt).2.2) (y := { (gTouch h.s x y.dest wt).2.2 with c := putC (gTouch h.s x y.dest wt).2.2.c y }) (put_at _ _ _) rfl (by rw [oth_put]; exact hgs) hdi (Int.le_refl _)
          rw [put_put] at this
          exact this
        · show putC f.c y = putC x.c y
          rw [hf.c]
theorem AtOk.more {wt : Bool} {r : (Int × Int) × Pl × Gs} {q : (Int × Int) × Fl} (ha : AtOk h n t W wt r q) (hw : W ≤ W') : AtOk h n t W' wt r q := { ha with hr := ha.hr.more hw }
theorem AtOk.back {wt : Bool} {r0 : Pl × Gs} {r : (Int × Int) × Pl × Gs} {q : (Int × Int) × Fl} (ha : AtOk (h.put n r0) n t W wt r q) : AtOk h n t W wt r q := { ha with hr := by have := ha.hr; rw [put_put] at this; exact this }
theorem at_ok (hr : HR h t W) (hx : h.g n = some x) (hf : FR n x t f) (addr : Int) (wt : Bool) : AtOk h n t (W + 1) wt (gAt h.s x addr wt) (fAt f addr wt) := by
  obtain ⟨hn, ok⟩ := hr.inv.gi n x hx
  have hgi := hr.inv.ginv hx
  unfold gAt fAt
  by_cases ho : addr < 0 ∨ 255 < addr
  · rw [if_pos ho, if_pos ho]
    exact ⟨by rw [Hs.put_self hx]; exact hr.more (by omega), hf, rfl, fun e => by simp at e⟩
  · rw [if_neg ho, if_neg ho]
    obtain ⟨k, hk⟩ := Int.eq_ofNat_of_zero_le (show 0 ≤ addr / 16 by omega)
    have hk16 : k < 16 := by omega
    rw [hk, hf.root, hf.c]
    by_cases h1 : x.root = -1
    · rw [if_pos h1, if_pos h1]
      obtain ⟨t1, t2, t3⟩ := hr.touch hx hk16 wt
      rw [Int.toNat_natCast, hf.st k hk16]
      refine ⟨t1.more (by omega), hf.same (touch_st _ _ _ _) rfl rfl, t2, fun e => ⟨by show (0 : Int) ≤ (k : Int) ∧ (k : Int) < 16; omega, ?_⟩⟩
      simp only [Int.toNat_natCast]
      exact t3 (by rw [← t2]; exact e)
    · rw [if_neg h1, if_neg h1]
      by_cases h2 : 0 ≤ fndI x.c x.root (k : Int)
      · rw [if_pos h2, if_pos h2]
        have hin : (fndI x.c x.root (k : Int)).toNat < x.c.length := by
          rw [fndI_idx] at h2 ⊢
          rcases idxP_cases (isAt x.root (k : Int)) x.c with ⟨j, hj, e, _, _⟩ | ⟨e, _⟩
          · rw [e]; omega
          · omega
        exact (step_ok hr hx hf _ (ok.en _ (atE_mem hin)) true wt).more (by omega)
      · rw [if_neg h2, if_neg h2]
        obtain ⟨j, hj⟩ := Int.eq_ofNat_of_zero_le (show 0 ≤ x.root by have := ok.r0; omega)
        have hj16 : j < 16 := by have := ok.r1; omega
        obtain ⟨t1, t2, t3⟩ := hr.touch hx hj16 false
        unfold gWalk
        rw [hj, Int.toNat_natCast, Int.toNat_natCast, hf.st j hj16, t2]
        by_cases h3 : 0 < pgCode (x.m.st j)
        · rw [if_pos h3, if_pos h3]
          exact ⟨t1.more (by omega), hf.same (touch_st _ _ _ _) rfl rfl, rfl, fun e => by simp only at e; omega⟩
        · rw [if_neg h3, if_neg h3]
          have hz : pgCode (x.m.st j) = 0 := by have := pgCode_le (x.m.st j); omega
          obtain ⟨u1, u2, u3⟩ := t3 hz
          have hb : (gTouch h.s x (j : Int) false).2.1.byt (gTouch h.s x (j : Int) false).1.1.toNat k = f.b j k := by
            have := t1.ri.byt (16 * n + j) (by omega)
            rw [rowL_at (put_at _ _ _) hj16] at this
            have := this u1 k hk16
            rw [u2] at this
            rw [hf.b j k hj16 hk16]
            exact this
          rw [hb]
          have hgt := hgi.touch (j : Int) false
          have hg1 : GInv (gTouch h.s x (j : Int) false).2.1 { (gTouch h.s x (j : Int) false).2.2 with walks := x.walks + 1 } (oth (h.put n (gTouch h.s x (j : Int) false).2) n) (W + 1) := by
            rw [oth_put]
            have e1 := hgt.w0
            have e2 := hgt.w1
            have e3 : (gTouch h.s x (j : Int) false).2.2.walks = x.walks := rfl
            exact { hgt with w0 := (by show 0 ≤ x.walks + 1; omega), w1 := (by show x.walks + 1 ≤ W + 1; omega) }
          have hown := t1.own (n := n) (x := (gTouch h.s x (j : Int) false).2.2) (y := { (gTouch h.s x (j : Int) false).2.2 with walks := x.walks + 1 }) (put_at _ _ _) rfl hg1 ok.di (by omega)
          rw [put_put] at hown
          have hf1 : FR n { (gTouch h.s x (j : Int) false).2.2 with walks := x.walks + 1 } t f := hf.same (touch_st _ _ _ _) rfl rfl
          by_cases h4 : f.b j k < 128
          · rw [if_pos h4, if_pos h4]
            exact ⟨hown, hf1, rfl, fun e => by simp at e⟩
          · rw [if_neg h4, if_neg h4]
            have hs := step_ok hown (put_at _ _ _) hf1 (gEn (j : Int) (k : Int) (f.b j k)) (by unfold gEn; simp only; omega) false wt
            exact hs.back
end Go.Proofs.YtadpibcgjgcjhabGreatDoor
