/- A host, plainly: its frames, its guests; all pages in one row of 64. -/
import Derived.Test.YtadpibcgjgcjhabGreatDoorHoA
namespace Go.Proofs.YtadpibcgjgcjhabGreatDoor
open Go.RowKit

/-- A host. -/
structure Hs where
  s : Pl
  g : Nat → Option Gs
def hs0 (n : Nat) : Hs := ⟨pl0 n, fun _ => none⟩
def gLf (o : Option Gs) (j : Nat) : Lf := match o with
  | some x => x.m.lf j
  | none => lf0
def gSt (o : Option Gs) (j : Nat) : Int := match o with
  | some x => x.m.st j
  | none => 0
def rowL (h : Hs) (k : Nat) : Lf := gLf (h.g (k / 16)) (k % 16)
def rowS (h : Hs) (k : Nat) : Int := gSt (h.g (k / 16)) (k % 16)
def Hs.put (h : Hs) (n : Nat) (r : Pl × Gs) : Hs := ⟨r.1, setAt h.g n (some r.2)⟩
/-- The numbers of the other guests. -/
def skip (n j : Nat) : Nat := if j < n then j else j + 1
/-- The pages of the other guests, 48 in one row. -/
def oth (h : Hs) (n : Nat) : Mp := { st := fun _ => 0, lf := fun k => gLf (h.g (skip n (k / 16))) (k % 16) }
theorem oth_put (h : Hs) (n : Nat) (r : Pl × Gs) : oth (h.put n r) n = oth h n := by
  have : ∀ j, setAt h.g n (some r.2) (skip n j) = h.g (skip n j) := fun j => setAt_other _ _ _ _ (by unfold skip; split <;> omega)
  unfold oth Hs.put
  simp only [this]
theorem rowL_put (h : Hs) (n : Nat) (r : Pl × Gs) (k : Nat) : rowL (h.put n r) k = if k / 16 = n then r.2.m.lf (k % 16) else rowL h k := by
  unfold rowL Hs.put
  by_cases e : k / 16 = n
  · rw [if_pos e, e]; simp only [setAt_same]; rfl
  · rw [if_neg e]; simp only [setAt_other _ _ _ _ e]
theorem rowS_put (h : Hs) (n : Nat) (r : Pl × Gs) (k : Nat) : rowS (h.put n r) k = if k / 16 = n then r.2.m.st (k % 16) else rowS h k := by
  unfold rowS Hs.put
  by_cases e : k / 16 = n
  · rw [if_pos e, e]; simp only [setAt_same]; rfl
  · rw [if_neg e]; simp only [setAt_other _ _ _ _ e]
theorem rowL_at {h : Hs} {n : Nat} {x : Gs} (hx : h.g n = some x) {j : Nat} (hj : j < 16) : rowL h (16 * n + j) = x.m.lf j := by
  unfold rowL
  rw [show (16 * n + j) / 16 = n by omega, show (16 * n + j) % 16 = j by omega, hx]
  rfl
theorem rowS_at {h : Hs} {n : Nat} {x : Gs} (hx : h.g n = some x) {j : Nat} (hj : j < 16) : rowS h (16 * n + j) = x.m.st j := by
  unfold rowS
  rw [show (16 * n + j) / 16 = n by omega, show (16 * n + j) % 16 = j by omega, hx]
  rfl
theorem cntTo_add (L : Nat → Lf) (f : Int) (a : Nat) : ∀ b, cntTo L f (a + b) = cntTo L f a + cntTo (fun j => L (a + j)) f b
  | 0 => rfl
  | b + 1 => by
    rw [show a + (b + 1) = (a + b) + 1 by omega, cntTo_succ, cntTo_add L f a b, cntTo_succ]
    omega
theorem cntTo_blk (L : Nat → Lf) (f : Int) (i : Nat) (M : Nat → Lf) (h : ∀ j, j < 16 → L (16 * i + j) = M j) : cntTo L f (16 * (i + 1)) = cntTo L f (16 * i) + cntTo M f 16 := by
  rw [show 16 * (i + 1) = 16 * i + 16 by omega, cntTo_add]
  rw [cntTo_congr f 16 h]
theorem row_cnt (h : Hs) (f : Int) : cntTo (rowL h) f 64 = cntTo (gLf (h.g 0)) f 16 + cntTo (gLf (h.g 1)) f 16 + cntTo (gLf (h.g 2)) f 16 + cntTo (gLf (h.g 3)) f 16 := by
  have e : ∀ i j, j < 16 → rowL h (16 * i + j) = gLf (h.g i) j := fun i j hj => by
    unfold rowL
    rw [show (16 * i + j) / 16 = i by omega, show (16 * i + j) % 16 = j by omega]
  have h0 := cntTo_blk (rowL h) f 0 _ (e 0)
  have h1 := cntTo_blk (rowL h) f 1 _ (e 1)
  have h2 := cntTo_blk (rowL h) f 2 _ (e 2)
  have h3 := cntTo_blk (rowL h) f 3 _ (e 3)
  simp only [Nat.mul_zero, Nat.reduceMul, Nat.reduceAdd] at h0 h1 h2 h3
  have hz : cntTo (rowL h) f 0 = 0 := rfl
  omega
theorem oth_cnt (h : Hs) (n : Nat) (f : Int) : cntTo (oth h n).lf f 48 = cntTo (gLf (h.g (skip n 0))) f 16 + cntTo (gLf (h.g (skip n 1))) f 16 + cntTo (gLf (h.g (skip n 2))) f 16 := by
  have e : ∀ i j, j < 16 → (oth h n).lf (16 * i + j) = gLf (h.g (skip n i)) j := fun i j hj => by
    unfold oth
    simp only
    rw [show (16 * i + j) / 16 = i by omega, show (16 * i + j) % 16 = j by omega]
  have h0 := cntTo_blk (oth h n).lf f 0 _ (e 0)
  have h1 := cntTo_blk (oth h n).lf f 1 _ (e 1)
  have h2 := cntTo_blk (oth h n).lf f 2 _ (e 2)
  simp only [Nat.mul_zero, Nat.reduceMul, Nat.reduceAdd] at h0 h1 h2
  have hz : cntTo (oth h n).lf f 0 = 0 := rfl
  omega
theorem row_oth {h : Hs} {n : Nat} (hn : n < 4) {x : Gs} (hx : h.g n = some x) (f : Int) : cntTo (rowL h) f 64 = cntTo x.m.lf f 16 + cntTo (oth h n).lf f 48 := by
  rw [row_cnt, oth_cnt]
  have hg : gLf (h.g n) = x.m.lf := by rw [hx]; rfl
  have : n = 0 ∨ n = 1 ∨ n = 2 ∨ n = 3 := by omega
  rcases this with rfl | rfl | rfl | rfl
  all_goals
    rw [← hg]
    simp [skip]
    try omega
/-- What holds of each guest by itself. -/
structure GOk (x : Gs) (W : Int) : Prop where
  pg : Pgs x.m
  len : x.c.length ≤ 4
  di : Dist x.c
  w0 : 0 ≤ x.walks
  w1 : x.walks ≤ W
  r0 : -1 ≤ x.root
  r1 : x.root ≤ 15
  en : ∀ y ∈ x.c, 0 ≤ y.dest ∧ y.dest < 16
/-- What holds of a host. -/
structure HInv (h : Hs) (W : Int) : Prop where
  cn : Cn h.s (rowL h)
  byt : BytOk h.s
  gi : ∀ i x, h.g i = some x → i < 4 ∧ GOk x W
variable {h : Hs} {W W' : Int} {n : Nat} {x : Gs}
theorem HInv.ginv (hi : HInv h W) (hx : h.g n = some x) : GInv h.s x (oth h n) W := by
  obtain ⟨hn, ok⟩ := hi.gi n x hx
  refine ⟨⟨ok.pg, fun f hf => ?_, fun k hk ht => ?_⟩, hi.byt, ok.len, ok.w0, ok.w1, ok.r0, ok.r1, ok.en⟩
  · rw [hi.cn.cnt f hf, row_oth hn hx]
    unfold cnt
    omega
  · have := hi.cn.rng (16 * n + k) (by omega)
    rw [rowL_at hx hk] at this
    exact this ht
theorem HInv.put {s' : Pl} {x' : Gs} (hi : HInv h W) (hx : h.g n = some x) (hg : GInv s' x' (oth h n) W') (hd : Dist x'.c) (hn : s'.n = h.s.n) (hW : W ≤ W') : HInv (h.put n (s', x')) W' := by
  obtain ⟨hn4, ok⟩ := hi.gi n x hx
  have hx' : (h.put n (s', x')).g n = some x' := setAt_same _ _ _
  refine ⟨⟨fun f hf => ?_, fun k hk ht => ?_⟩, hg.byt, fun i y hy => ?_⟩
  · rw [row_oth hn4 hx', oth_put]
    have := hg.inv.cnt f hf
    unfold cnt at this
    show s'.refs f = _
    omega
  · rw [rowL_put] at ht ⊢
    show _ ∧ _ < ((s'.n : Nat) : Int)
    split at ht
    · next e =>
      rw [if_pos e]
      exact hg.inv.ina (k % 16) (by omega) ht
    · next e =>
      rw [if_neg e, hn]
      exact hi.cn.rng k hk ht
  · by_cases e : i = n
    · subst e
      rw [hx'] at hy
      cases hy
      exact ⟨hn4, hg.inv.pa, hg.len, hd, hg.w0, hg.w1, hg.r0, hg.r1, hg.en⟩
    · have : h.g i = some y := by rw [← hy]; exact (setAt_other _ _ _ _ e).symm
      obtain ⟨h1, h2⟩ := hi.gi i y this
      exact ⟨h1, { h2 with w1 := Int.le_trans h2.w1 hW }⟩
end Go.Proofs.YtadpibcgjgcjhabGreatDoor
