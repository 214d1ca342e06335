/- A guest of a host, plainly: what an address leads to keeps all pages' bytes; it tells what a flat memory tells. -/
import Derived.Test.YtadpibcgjgcjhabGreatDoorHoC
import Derived.Test.YtadpibcgjgcjhabGreatDoorGuR
namespace Go.Proofs.YtadpibcgjgcjhabGreatDoor
open Go.RowKit

theorem Hs.put_self {h : Hs} {n : Nat} {x : Gs} (hx : h.g n = some x) : h.put n (h.s, x) = h := by
  unfold Hs.put
  rw [setAt_self _ _ _ hx]
theorem row_one {h : Hs} {n k : Nat} {x y : Gs} {s' : Pl} {l : Lf} (hx : h.g n = some x) (hk : k < 16) (hy : y.m.lf = setAt x.m.lf k l) : rowL (h.put n (s', y)) = setAt (rowL h) (16 * n + k) l := by
  funext i
  rw [rowL_put]
  by_cases e : i / 16 = n
  · rw [if_pos e]
    show y.m.lf (i % 16) = _
    rw [hy]
    by_cases e2 : i = 16 * n + k
    · subst e2
      rw [setAt_same, show (16 * n + k) % 16 = k by omega, setAt_same]
    · rw [setAt_other _ _ _ _ e2, setAt_other _ _ _ _ (by omega)]
      have := rowL_at hx (j := i % 16) (by omega)
      rw [show 16 * n + i % 16 = i by omega] at this
      exact this.symm
  · rw [if_neg e, setAt_other _ _ _ _ (by omega)]
theorem row_same {h : Hs} {n : Nat} {x y : Gs} {s' : Pl} (hx : h.g n = some x) (hy : y.m.lf = x.m.lf) : rowL (h.put n (s', y)) = rowL h := by
  funext i
  rw [rowL_put]
  by_cases e : i / 16 = n
  · rw [if_pos e]
    show y.m.lf (i % 16) = _
    rw [hy]
    have := rowL_at hx (j := i % 16) (by omega)
    rw [show 16 * n + i % 16 = i by omega] at this
    exact this.symm
  · rw [if_neg e]
theorem rowS_same {h : Hs} {n : Nat} {x y : Gs} {s' : Pl} (hx : h.g n = some x) (hy : y.m.st = x.m.st) : rowS (h.put n (s', y)) = rowS h := by
  funext i
  rw [rowS_put]
  by_cases e : i / 16 = n
  · rw [if_pos e]
    show y.m.st (i % 16) = _
    rw [hy]
    have := rowS_at hx (j := i % 16) (by omega)
    rw [show 16 * n + i % 16 = i by omega] at this
    exact this.symm
  · rw [if_neg e]
theorem put_put (h : Hs) (n : Nat) (r r' : Pl × Gs) : (h.put n r).put n r' = h.put n r' := by
  unfold Hs.put
  congr 1
  funext i
  by_cases e : i = n
  · subst e; rw [setAt_same, setAt_same]
  · rw [setAt_other _ _ _ _ e, setAt_other _ _ _ _ e]; exact setAt_other _ _ _ _ e
theorem put_at (h : Hs) (n : Nat) (r : Pl × Gs) : (h.put n r).g n = some r.2 := setAt_same _ _ _
/-- What holds of a host, with the bytes that its pages have. -/
structure HR (h : Hs) (t : Nat → Nat → Int) (W : Int) : Prop where
  inv : HInv h W
  ri : RInv h.s (rowL h) t
  le : pln (rowS h) 64 ≤ h.s.n
theorem HR.there {h : Hs} {t : Nat → Nat → Int} {W : Int} (hr : HR h t W) : ∀ k, k < 64 → (rowL h k).there = true → rowS h k = 1 := by
  intro k hk ht
  unfold rowL gLf at ht
  unfold rowS gSt
  cases hg : h.g (k / 16) with
  | none => rw [hg] at ht; simp [lf0] at ht
  | some x =>
    rw [hg] at ht
    obtain ⟨_, ok⟩ := hr.inv.gi _ x hg
    exact ok.pg.plain (by omega) ht
theorem touch_st (s : Pl) (m : Mp) (n : Int) (wt : Bool) : (touchR s m n wt).2.2.st = m.st := by
  unfold touchR
  repeat' split
  all_goals rfl
variable {h : Hs} {t : Nat → Nat → Int} {W W' : Int} {n : Nat} {x : Gs}
/-- What a touched page's state tells. -/
def pgCode (z : Int) : Int := if z = 0 then 2 else if z = 2 then 6 else 0
/-- A page is touched. -/
theorem HR.touch (hr : HR h t W) (hx : h.g n = some x) {k : Nat} (hk : k < 16) (wt : Bool) :
    HR (h.put n (gTouch h.s x k wt).2) t W ∧ (gTouch h.s x k wt).1.2 = pgCode (x.m.st k) ∧
      (pgCode (x.m.st k) = 0 → (((gTouch h.s x k wt).2.2.m.lf k).there = true ∧ ((gTouch h.s x k wt).2.2.m.lf k).fr = (gTouch h.s x k wt).1.1 ∧ (wt = true → ((gTouch h.s x k wt).2.2.m.lf k).wr = true))) := by
  obtain ⟨hn, ok⟩ := hr.inv.gi n x hx
  have hgi := hr.inv.ginv hx
  have hinv : HInv (h.put n (gTouch h.s x k wt).2) W := hr.inv.put hx (hgi.touch k wt) ok.di (touch_n _ _ _ _) (Int.le_refl _)
  have hst : rowS (h.put n (gTouch h.s x k wt).2) = rowS h := rowS_same hx (touch_st _ _ _ _)
  have hle : pln (rowS (h.put n (gTouch h.s x k wt).2)) 64 ≤ (h.put n (gTouch h.s x k wt).2).s.n := by
    rw [hst]
    show _ ≤ (touchR h.s x.m k wt).2.1.n
    rw [touch_n]
    exact hr.le
  have hs3 := (ok.pg k hk).1
  have ho : onB (k : Int) = true := (onB_iff _).2 ⟨by omega, by omega⟩
  by_cases h1 : x.m.st k = 1
  · have hL := rowL_at hx hk
    have hS := rowS_at hx hk
    obtain ⟨l, e1, e2, e3⟩ := touch_keeps (p := 16 * n + k) hr.ri hr.inv.cn wt hk (by omega) hL h1
    have hz : (touchR h.s x.m k wt).1.2.2 = 0 := touch_some hr.inv.cn hr.there hr.le (p := 16 * n + k) (by omega) hk hL hS h1 wt
    have hlf : (gTouch h.s x k wt).2.2.m.lf = setAt x.m.lf k l := by
      show (touchR h.s x.m k wt).2.2.lf = _
      rw [e1]
    refine ⟨⟨hinv, ?_, hle⟩, ?_, fun _ => ?_⟩
    · rw [show h.put n (gTouch h.s x k wt).2 = h.put n ((touchR h.s x.m k wt).2.1, (gTouch h.s x k wt).2.2) from rfl, row_one hx hk hlf]
      exact e2
    · show (touchR h.s x.m k wt).1.2.2 = _
      rw [hz, h1]
      rfl
    · rw [hlf, setAt_same]
      exact e3 hz
  · have hpc : pgCode (x.m.st k) ≠ 0 := by
      unfold pgCode
      split
      · omega
      · split <;> omega
    have hcode : (touchR h.s x.m k wt).1.2.2 = pgCode (x.m.st k) ∧ (touchR h.s x.m k wt).2 = (h.s, x.m) := by
      unfold touchR pgCode
      simp only [ho, if_true, Int.toNat_natCast]
      by_cases h0 : x.m.st k = 0
      · rw [if_pos h0, if_pos h0]; exact ⟨rfl, rfl⟩
      · rw [if_neg h0, if_neg h0]
        have h2 : x.m.st k = 2 := by omega
        rw [if_pos h2, if_pos h2]
        exact ⟨rfl, rfl⟩
    have hself : (gTouch h.s x k wt).2 = (h.s, x) := by
      unfold gTouch
      rw [hcode.2]
    refine ⟨?_, hcode.1, fun e => absurd e hpc⟩
    rw [hself, Hs.put_self hx]
    exact hr
end Go.Proofs.YtadpibcgjgcjhabGreatDoor
