/- A host, plainly: its frames, its guests; all pages in one row of 64. -/
import Derived.Test.YtadpibcgjgcjhabGreatDoorPart07
import Derived.Test.YtadpibcgjgcjhabGreatDoorPart05
namespace Go.Proofs.YtadpibcgjgcjhabGreatDoor
open Go.RowKit

/-- A host. -/
structure Hs where
  s : Pl
  g : Nat → Option Gs
def hs0 (n : Nat) : Hs := ⟨pl0 n, fun _ => none⟩
def gLf (o : Option Gs) (j : Nat) : Lf := match o with
  | some x => x.m.lf j
  | none => lf0
def gSt (o : Option Gs) (j : Nat) : Int := match o with
  | some x => x.m.st j
  | none => 0
def rowL (h : Hs) (k : Nat) : Lf := gLf (h.g (k / 16)) (k % 16)
def rowS (h : Hs) (k : Nat) : Int := gSt (h.g (k / 16)) (k % 16)
def Hs.put (h : Hs) (n : Nat) (r : Pl × Gs) : Hs := ⟨r.1, setAt h.g n (some r.2)⟩
/-- The numbers of the other guests. -/
def skip (n j : Nat) : Nat := if j < n then j else j + 1
/-- The pages of the other guests, 48 in one row. -/
def oth (h : Hs) (n : Nat) : Mp := { st := fun _ => 0, lf := fun k => gLf (h.g (skip n (k / 16))) (k % 16) }
theorem oth_put (h : Hs) (n : Nat) (r : Pl × Gs) : oth (h.put n r) n = oth h n := by
  have : ∀ j, setAt h.g n (some r.2) (skip n j) = h.g (skip n j) := fun j => setAt_other _ _ _ _ (by unfold skip; split <;> omega)
  unfold oth Hs.put
  simp only [this]
theorem rowL_put (h : Hs) (n : Nat) (r : Pl × Gs) (k : Nat) : rowL (h.put n r) k = if k / 16 = n then r.2.m.lf (k % 16) else rowL h k := by
  unfold rowL Hs.put
  by_cases e : k / 16 = n
  · rw [if_pos e, e]; simp only [setAt_same]; rfl
  · rw [if_neg e]; simp only [setAt_other _ _ _ _ e]
theorem rowS_put (h : Hs) (n : Nat) (r : Pl × Gs) (k : Nat) : rowS (h.put n r) k = if k / 16 = n then r.2.m.st (k % 16) else rowS h k := by
  unfold rowS Hs.put
  by_cases e : k / 16 = n
  · rw [if_pos e, e]; simp only [setAt_same]; rfl
  · rw [if_neg e]; simp only [setAt_other _ _ _ _ e]
theorem rowL_at {h : Hs} {n : Nat} {x : Gs} (hx : h.g n = some x) {j : Nat} (hj : j < 16) : rowL h (16 * n + j) = x.m.lf j := by
  unfold rowL
  rw [show (16 * n + j) / 16 = n by omega, show (16 * n + j) % 16 = j by omega, hx]
  rfl
theorem rowS_at {h : Hs} {n : Nat} {x : Gs} (hx : h.g n = some x) {j : Nat} (hj : j < 16) : rowS h (16 * n + j) = x.m.st j := by
  unfold rowS
  rw [show (16 * n + j) / 16 = n by omega, show (16 * n + j) % 16 = j by omega, hx]
  rfl
theorem cntTo_add (L : Nat → Lf) (f : Int) (a : Nat) : ∀ b, cntTo L f (a + b) = cntTo L f a + cntTo (fun j => L (a + j)) f b
  | 0 => rfl
  | b + 1 => by
    rw [show a + (b + 1) = (a + b) + 1 by omega, cntTo_succ, cntTo_add L f a b, cntTo_succ]
    omega
theorem cntTo_blk (L : Nat → Lf) (f : Int) (i : Nat) (M : Nat → Lf) (h : ∀ j, j < 16 → L (16 * i + j) = M j) : cntTo L f (16 * (i + 1)) = cntTo L f (16 * i) + cntTo M f 16 := by
  rw [show 16 * (i + 1) = 16 * i + 16 by omega, cntTo_add]
  rw [cntTo_congr f 16 h]
theorem row_cnt (h : Hs) (f : Int) : cntTo (rowL h) f 64 = cntTo (gLf (h.g 0)) f 16 + cntTo (gLf (h.g 1)) f 16 + cntTo (gLf (h.g 2)) f 16 + cntTo (gLf (h.g 3)) f 16 := by
  have e : ∀ i j, j < 16 → rowL h (16 * i + j) = gLf (h.g i) j := fun i j hj => by
    unfold rowL
    rw [show (16 * i + j) / 16 = i by omega, show (16 * i + j) % 16 = j by omega]
  have h0 := cntTo_blk (rowL h) f 0 _ (e 0)
  have h1 := cntTo_blk (rowL h) f 1 _ (e 1)
  have h2 := cntTo_blk (rowL h) f 2 _ (e 2)
  have h3 := cntTo_blk (rowL h) f 3 _ (e 3)
  simp only [Nat.mul_zero, Nat.reduceMul, Nat.reduceAdd] at h0 h1 h2 h3
  have hz : cntTo (rowL h) f 0 = 0 := rfl
  omega
theorem oth_cnt (h : Hs) (n : Nat) (f : Int) : cntTo (oth h n).lf f 48 = cntTo (gLf (h.g (skip n 0))) f 16 + cntTo (gLf (h.g (skip n 1))) f 16 + cntTo (gLf (h.g (skip n 2))) f 16 := by
  have e : ∀ i j, j < 16 → (oth h n).lf (16 * i + j) = gLf (h.g (skip n i)) j := fun i j hj => by
    unfold oth
    simp only
    rw [show (16 * i + j) / 16 = i by omega, show (16 * i + j) % 16 = j by omega]
  have h0 := cntTo_blk (oth h n).lf f 0 _ (e 0)
  have h1 := cntTo_blk (oth h n).lf f 1 _ (e 1)
  have h2 := cntTo_blk (oth h n).lf f 2 _ (e 2)
  simp only [Nat.mul_zero, Nat.reduceMul, Nat.reduceAdd] at h0 h1 h2
  have hz : cntTo (oth h n).lf f 0 = 0 := rfl
  omega
theorem row_oth {h : Hs} {n : Nat} (hn : n < 4) {x : Gs} (hx : h.g n = some x) (f : Int) : cntTo (rowL h) f 64 = cntTo x.m.lf f 16 + cntTo (oth h n).lf f 48 := by
  rw [row_cnt, oth_cnt]
  have hg : gLf (h.g n) = x.m.lf := by rw [hx]; rfl
  have : n = 0 ∨ n = 1 ∨ n = 2 ∨ n = 3 := by omega
  rcases this with rfl | rfl | rfl | rfl
  all_goals
    rw [← hg]
    simp [skip]
    try omega
/-- What holds of each guest by itself. -/
structure GOk (x : Gs) (W : Int) : Prop where
  pg : Pgs x.m
  len : x.c.length ≤ 4
  di : Dist x.c
  w0 : 0 ≤ x.walks
  w1 : x.walks ≤ W
  r0 : -1 ≤ x.root
  r1 : x.root ≤ 15
  en : ∀ y ∈ x.c, 0 ≤ y.dest ∧ y.dest < 16
/-- What holds of a host. -/
structure HInv (h : Hs) (W : Int) : Prop where
  cn : Cn h.s (rowL h)
  byt : BytOk h.s
  gi : ∀ i x, h.g i = some x → i < 4 ∧ GOk x W
variable {h : Hs} {W W' : Int} {n : Nat} {x : Gs}
theorem HInv.ginv (hi : HInv h W) (hx : h.g n = some x) : GInv h.s x (oth h n) W := by
  obtain ⟨hn, ok⟩ := hi.gi n x hx
  refine ⟨⟨ok.pg, fun f hf => ?_, fun k hk ht => ?_⟩, hi.byt, ok.len, ok.w0, ok.w1, ok.r0, ok.r1, ok.en⟩
  · rw [hi.cn.cnt f hf, row_oth hn hx]
    unfold cnt
    omega
  · have := hi.cn.rng (16 * n + k) (by omega)
    rw [rowL_at hx hk] at this
    exact this ht
theorem HInv.put {s' : Pl} {x' : Gs} (hi : HInv h W) (hx : h.g n = some x) (hg : GInv s' x' (oth h n) W') (hd : Dist x'.c) (hn : s'.n = h.s.n) (hW : W ≤ W') : HInv (h.put n (s', x')) W' := by
  obtain ⟨hn4, ok⟩ := hi.gi n x hx
  have hx' : (h.put n (s', x')).g n = some x' := setAt_same _ _ _
  refine ⟨⟨fun f hf => ?_, fun k hk ht => ?_⟩, hg.byt, fun i y hy => ?_⟩
  · rw [row_oth hn4 hx', oth_put]
    have := hg.inv.cnt f hf
    unfold cnt at this
    show s'.refs f = _
    omega
  · rw [rowL_put] at ht ⊢
    show _ ∧ _ < ((s'.n : Nat) : Int)
    split at ht
    · next e =>
      rw [if_pos e]
      exact hg.inv.ina (k % 16) (by omega) ht
    · next e =>
      rw [if_neg e, hn]
      exact hi.cn.rng k hk ht
  · by_cases e : i = n
    · subst e
      rw [hx'] at hy
      cases hy
      exact ⟨hn4, hg.inv.pa, hg.len, hd, hg.w0, hg.w1, hg.r0, hg.r1, hg.en⟩
    · have : h.g i = some y := by rw [← hy]; exact (setAt_other _ _ _ _ e).symm
      obtain ⟨h1, h2⟩ := hi.gi i y this
      exact ⟨h1, { h2 with w1 := Int.le_trans h2.w1 hW }⟩
end Go.Proofs.YtadpibcgjgcjhabGreatDoor
/- No frame is wanting: as many pages are in frames as the frames' numbers say together. -/
namespace Go.Proofs.YtadpibcgjgcjhabGreatDoor
open Go.RowKit

/-- Pages of the first k that are in a frame. -/
def thr (L : Nat → Lf) : Nat → Nat
  | 0 => 0
  | k + 1 => thr L k + if (L k).there = true then 1 else 0
def totTo (a : Nat → Nat) : Nat → Nat
  | 0 => 0
  | n + 1 => totTo a n + a n
/-- Plain ones of the first k. -/
def pln (S : Nat → Int) : Nat → Nat
  | 0 => 0
  | k + 1 => pln S k + if S k = 1 then 1 else 0
theorem totTo_add (a b : Nat → Nat) : ∀ n, totTo (fun f => a f + b f) n = totTo a n + totTo b n
  | 0 => rfl
  | n + 1 => by
    have := totTo_add a b n
    simp only [totTo] at *
    omega
theorem totTo_zero (a : Nat → Nat) : ∀ n, (∀ f, f < n → a f = 0) → totTo a n = 0
  | 0, _ => rfl
  | n + 1, h => by
    have h1 := totTo_zero a n (fun f hf => h f (by omega))
    have h2 := h n (by omega)
    simp only [totTo]
    omega
theorem sum_in (l : Lf) : ∀ n : Nat, (l.there = true → 0 ≤ l.fr ∧ l.fr < n) → totTo (fun f => inIn l f) n = if l.there = true then 1 else 0
  | 0, h => by
    cases ht : l.there with
    | false => simp [totTo]
    | true => have := h ht; omega
  | n + 1, h => by
    by_cases e : l.there = true ∧ l.fr = (n : Int)
    · have hz : totTo (fun f => inIn l f) n = 0 := totTo_zero _ n (fun f hf => by
        unfold inIn
        rw [if_neg]
        rintro ⟨_, e2⟩
        omega)
      have h1 : inIn l (n : Int) = 1 := by unfold inIn; rw [if_pos e]
      simp only [totTo]
      rw [hz, h1, if_pos e.1]
    · have h1 : inIn l (n : Int) = 0 := by unfold inIn; rw [if_neg e]
      have := sum_in l n (fun ht => by
        obtain ⟨a, b⟩ := h ht
        have : l.fr ≠ (n : Int) := fun e2 => e ⟨ht, e2⟩
        omega)
      simp only [totTo]
      rw [this, h1]
      rfl
theorem sum_cnt (L : Nat → Lf) (n : Nat) : ∀ K, (∀ k, k < K → (L k).there = true → 0 ≤ (L k).fr ∧ (L k).fr < n) → totTo (fun f => cntTo L f K) n = thr L K
  | 0, _ => totTo_zero _ _ (fun _ _ => rfl)
  | K + 1, h => by
    have h1 := sum_cnt L n K (fun k hk => h k (by omega))
    have h2 := sum_in (L K) n (h K (by omega))
    have h3 := totTo_add (fun f => cntTo L f K) (fun f => inIn (L K) f) n
    have h4 : (fun f : Nat => cntTo L f (K + 1)) = fun f : Nat => cntTo L f K + inIn (L K) f := by funext f; rfl
    rw [h4, h3, h1, h2]
    rfl
theorem totTo_ge (a : Nat → Nat) : ∀ n, (∀ f, f < n → 1 ≤ a f) → n ≤ totTo a n
  | 0, _ => Nat.le_refl _
  | n + 1, h => by
    have h1 := totTo_ge a n (fun f hf => h f (by omega))
    have h2 := h n (by omega)
    simp only [totTo]
    omega
theorem totTo_gt (a : Nat → Nat) (p : Nat) (hp : 2 ≤ a p) : ∀ n, p < n → (∀ f, f < n → 1 ≤ a f) → n + 1 ≤ totTo a n
  | 0, h, _ => absurd h (by omega)
  | n + 1, h, g => by
    simp only [totTo]
    by_cases e : n = p
    · subst e
      have := totTo_ge a n (fun f hf => g f (by omega))
      omega
    · have := totTo_gt a p hp n (by omega) (fun f hf => g f (by omega))
      have := g n (by omega)
      omega
theorem thr_pln (L : Nat → Lf) (S : Nat → Int) : ∀ K, (∀ k, k < K → (L k).there = true → S k = 1) → thr L K ≤ pln S K
  | 0, _ => Nat.le_refl _
  | K + 1, h => by
    have h1 := thr_pln L S K (fun k hk => h k (by omega))
    have h2 := h K (by omega)
    simp only [thr, pln]
    by_cases ht : (L K).there = true
    · rw [if_pos ht, if_pos (h2 ht)]; omega
    · rw [if_neg ht]; omega
theorem thr_pln_lt (L : Nat → Lf) (S : Nat → Int) (p : Nat) (hs : S p = 1) (ht : (L p).there = false) : ∀ K, p < K → (∀ k, k < K → (L k).there = true → S k = 1) → thr L K + 1 ≤ pln S K
  | 0, h, _ => absurd h (by omega)
  | K + 1, h, g => by
    simp only [thr, pln]
    by_cases e : K = p
    · subst e
      have := thr_pln L S K (fun k hk => g k (by omega))
      rw [if_pos hs, ht]
      simp
      omega
    · have h1 := thr_pln_lt L S p hs ht K (by omega) (fun k hk => g k (by omega))
      have h2 := g K (by omega)
      by_cases ht : (L K).there = true
      · rw [if_pos ht, if_pos (h2 ht)]; omega
      · rw [if_neg ht]; omega
/-- A frame is free for a page that wants one. -/
theorem no_want {s : Pl} {L : Nat → Lf} {S : Nat → Int} (c : Cn s L) (hp : ∀ k, k < 64 → (L k).there = true → S k = 1) (hn : pln S 64 ≤ s.n) {p : Nat} (hp64 : p < 64) (hs : S p = 1) (hw : (L p).there = false ∨ s.refs (L p).fr.toNat ≠ 1) : ∃ j, firstFrom s.refs 0 s.n = some j := by
  cases hff : firstFrom s.refs 0 s.n with
  | some j => exact ⟨j, rfl⟩
  | none =>
    exfalso
    have hsp := firstFrom_spec s.refs s.n 0
    rw [hff] at hsp
    have hall : ∀ f, f < s.n → 1 ≤ cntTo L f 64 := fun f hf => by
      have h1 := hsp f (by omega) (by omega)
      have h2 := c.cnt f hf
      omega
    have hsum := sum_cnt L s.n 64 c.rng
    have hge := totTo_ge (fun f => cntTo L f 64) s.n hall
    cases ht : (L p).there with
    | false =>
      have := thr_pln_lt L S p hs ht 64 hp64 hp
      omega
    | true =>
      rw [ht] at hw
      have hr : s.refs (L p).fr.toNat ≠ 1 := by
        rcases hw with h | h
        · simp at h
        · exact h
      have h1 := c.pos hp64 ht
      obtain ⟨f0, f1⟩ := c.rng p hp64 ht
      have h2 := c.cnt (L p).fr.toNat (by omega)
      have h3 : 2 ≤ cntTo L (((L p).fr.toNat : Nat) : Int) 64 := by omega
      have := totTo_gt (fun f => cntTo L f 64) (L p).fr.toNat h3 s.n (by omega) hall
      have := thr_pln L S 64 hp
      omega
/-- A plain page is touched: never is a frame wanting. -/
theorem touch_some {s : Pl} {m : Mp} {L : Nat → Lf} {S : Nat → Int} (c : Cn s L) (hp : ∀ k, k < 64 → (L k).there = true → S k = 1) (hn : pln S 64 ≤ s.n) {p k : Nat} (hp64 : p < 64) (hk : k < 16) (hL : L p = m.lf k) (hS : S p = m.st k) (hs : m.st k = 1) (wt : Bool) : (touchR s m k wt).1.2.2 = 0 := by
  have ho : onB (k : Int) = true := (onB_iff _).2 ⟨by omega, by omega⟩
  unfold touchR
  simp only [ho, if_true, Int.toNat_natCast, hs, show ¬ ((1 : Int) = 0) by omega, show ¬ ((1 : Int) = 2) by omega, if_false]
  split
  · rfl
  · split
    · rfl
    · rename_i hb
      have hw : (L p).there = false ∨ s.refs (L p).fr.toNat ≠ 1 := by
        rw [hL]
        cases ht : (m.lf k).there with
        | false => exact Or.inl rfl
        | true => exact Or.inr (fun e => hb (by simp [ht, e]))
      obtain ⟨j, hj⟩ := no_want c hp hn hp64 (hS.trans hs) hw
      rw [take_some hj]
      simp
end Go.Proofs.YtadpibcgjgcjhabGreatDoor
/- A guest of a host, plainly: what an address leads to keeps all pages' bytes; it tells what a flat memory tells. -/
namespace Go.Proofs.YtadpibcgjgcjhabGreatDoor
open Go.RowKit

theorem Hs.put_self {h : Hs} {n : Nat} {x : Gs} (hx : h.g n = some x) : h.put n (h.s, x) = h := by
  unfold Hs.put
  rw [setAt_self _ _ _ hx]
theorem row_one {h : Hs} {n k : Nat} {x y : Gs} {s' : Pl} {l : Lf} (hx : h.g n = some x) (hk : k < 16) (hy : y.m.lf = setAt x.m.lf k l) : rowL (h.put n (s', y)) = setAt (rowL h) (16 * n + k) l := by
  funext i
  rw [rowL_put]
  by_cases e : i / 16 = n
  · rw [if_pos e]
    show y.m.lf (i % 16) = _
    rw [hy]
    by_cases e2 : i = 16 * n + k
    · subst e2
      rw [setAt_same, show (16 * n + k) % 16 = k by omega, setAt_same]
    · rw [setAt_other _ _ _ _ e2, setAt_other _ _ _ _ (by omega)]
      have := rowL_at hx (j := i % 16) (by omega)
      rw [show 16 * n + i % 16 = i by omega] at this
      exact this.symm
  · rw [if_neg e, setAt_other _ _ _ _ (by omega)]
theorem row_same {h : Hs} {n : Nat} {x y : Gs} {s' : Pl} (hx : h.g n = some x) (hy : y.m.lf = x.m.lf) : rowL (h.put n (s', y)) = rowL h := by
  funext i
  rw [rowL_put]
  by_cases e : i / 16 = n
  · rw [if_pos e]
    show y.m.lf (i % 16) = _
    rw [hy]
    have := rowL_at hx (j := i % 16) (by omega)
    rw [show 16 * n + i % 16 = i by omega] at this
    exact this.symm
  · rw [if_neg e]
theorem rowS_same {h : Hs} {n : Nat} {x y : Gs} {s' : Pl} (hx : h.g n = some x) (hy : y.m.st = x.m.st) : rowS (h.put n (s', y)) = rowS h := by
  funext i
  rw [rowS_put]
  by_cases e : i / 16 = n
  · rw [if_pos e]
    show y.m.st (i % 16) = _
    rw [hy]
    have := rowS_at hx (j := i % 16) (by omega)
    rw [show 16 * n + i % 16 = i by omega] at this
    exact this.symm
  · rw [if_neg e]
theorem put_put (h : Hs) (n : Nat) (r r' : Pl × Gs) : (h.put n r).put n r' = h.put n r' := by
  unfold Hs.put
  congr 1
  funext i
  by_cases e : i = n
  · subst e; rw [setAt_same, setAt_same]
  · rw [setAt_other _ _ _ _ e, setAt_other _ _ _ _ e]; exact setAt_other _ _ _ _ e
theorem put_at (h : Hs) (n : Nat) (r : Pl × Gs) : (h.put n r).g n = some r.2 := setAt_same _ _ _
/-- What holds of a host, with the bytes that its pages have. -/
structure HR (h : Hs) (t : Nat → Nat → Int) (W : Int) : Prop where
  inv : HInv h W
  ri : RInv h.s (rowL h) t
  le : pln (rowS h) 64 ≤ h.s.n
theorem HR.there {h : Hs} {t : Nat → Nat → Int} {W : Int} (hr : HR h t W) : ∀ k, k < 64 → (rowL h k).there = true → rowS h k = 1 := by
  intro k hk ht
  unfold rowL gLf at ht
  unfold rowS gSt
  cases hg : h.g (k / 16) with
  | none => rw [hg] at ht; simp [lf0] at ht
  | some x =>
    rw [hg] at ht
    obtain ⟨_, ok⟩ := hr.inv.gi _ x hg
    exact ok.pg.plain (by omega) ht
theorem touch_st (s : Pl) (m : Mp) (n : Int) (wt : Bool) : (touchR s m n wt).2.2.st = m.st := by
  unfold touchR
  repeat' split
  all_goals rfl
variable {h : Hs} {t : Nat → Nat → Int} {W W' : Int} {n : Nat} {x : Gs}
/-- What a touched page's state tells. -/
def pgCode (z : Int) : Int := if z = 0 then 2 else if z = 2 then 6 else 0
/-- A page is touched. -/
theorem HR.touch (hr : HR h t W) (hx : h.g n = some x) {k : Nat} (hk : k < 16) (wt : Bool) :
    HR (h.put n (gTouch h.s x k wt).2) t W ∧ (gTouch h.s x k wt).1.2 = pgCode (x.m.st k) ∧
      (pgCode (x.m.st k) = 0 → (((gTouch h.s x k wt).2.2.m.lf k).there = true ∧ ((gTouch h.s x k wt).2.2.m.lf k).fr = (gTouch h.s x k wt).1.1 ∧ (wt = true → ((gTouch h.s x k wt).2.2.m.lf k).wr = true))) := by
  obtain ⟨hn, ok⟩ := hr.inv.gi n x hx
  have hgi := hr.inv.ginv hx
  have hinv : HInv (h.put n (gTouch h.s x k wt).2) W := hr.inv.put hx (hgi.touch k wt) ok.di (touch_n _ _ _ _) (Int.le_refl _)
  have hst : rowS (h.put n (gTouch h.s x k wt).2) = rowS h := rowS_same hx (touch_st _ _ _ _)
  have hle : pln (rowS (h.put n (gTouch h.s x k wt).2)) 64 ≤ (h.put n (gTouch h.s x k wt).2).s.n := by
    rw [hst]
    show _ ≤ (touchR h.s x.m k wt).2.1.n
    rw [touch_n]
    exact hr.le
  have hs3 := (ok.pg k hk).1
  have ho : onB (k : Int) = true := (onB_iff _).2 ⟨by omega, by omega⟩
  by_cases h1 : x.m.st k = 1
  · have hL := rowL_at hx hk
    have hS := rowS_at hx hk
    obtain ⟨l, e1, e2, e3⟩ := touch_keeps (p := 16 * n + k) hr.ri hr.inv.cn wt hk (by omega) hL h1
    have hz : (touchR h.s x.m k wt).1.2.2 = 0 := touch_some hr.inv.cn hr.there hr.le (p := 16 * n + k) (by omega) hk hL hS h1 wt
    have hlf : (gTouch h.s x k wt).2.2.m.lf = setAt x.m.lf k l := by
      show (touchR h.s x.m k wt).2.2.lf = _
      rw [e1]
    refine ⟨⟨hinv, ?_, hle⟩, ?_, fun _ => ?_⟩
    · rw [show h.put n (gTouch h.s x k wt).2 = h.put n ((touchR h.s x.m k wt).2.1, (gTouch h.s x k wt).2.2) from rfl, row_one hx hk hlf]
      exact e2
    · show (touchR h.s x.m k wt).1.2.2 = _
      rw [hz, h1]
      rfl
    · rw [hlf, setAt_same]
      exact e3 hz
  · have hpc : pgCode (x.m.st k) ≠ 0 := by
      unfold pgCode
      split
      · omega
      · split <;> omega
    have hcode : (touchR h.s x.m k wt).1.2.2 = pgCode (x.m.st k) ∧ (touchR h.s x.m k wt).2 = (h.s, x.m) := by
      unfold touchR pgCode
      simp only [ho, if_true, Int.toNat_natCast]
      by_cases h0 : x.m.st k = 0
      · rw [if_pos h0, if_pos h0]; exact ⟨rfl, rfl⟩
      · rw [if_neg h0, if_neg h0]
        have h2 : x.m.st k = 2 := by omega
        rw [if_pos h2, if_pos h2]
        exact ⟨rfl, rfl⟩
    have hself : (gTouch h.s x k wt).2 = (h.s, x) := by
      unfold gTouch
      rw [hcode.2]
    refine ⟨?_, hcode.1, fun e => absurd e hpc⟩
    rw [hself, Hs.put_self hx]
    exact hr
end Go.Proofs.YtadpibcgjgcjhabGreatDoor
/- A flat memory, plainly, and what a guest of a host is told: the same. -/
namespace Go.Proofs.YtadpibcgjgcjhabGreatDoor
open Go.RowKit

/-- What a guest may see. -/
structure Fl where
  st : Nat → Int
  b : Nat → Nat → Int
  root : Int
  c : List En
def fl0 : Fl := ⟨fun _ => 0, fun _ _ => 0, -1, []⟩
def fStep (f : Fl) (x : En) (found wt : Bool) : (Int × Int) × Fl :=
  if wt && !x.may then ((0, 5), f)
  else if 0 < pgCode (f.st x.dest.toNat) then ((0, pgCode (f.st x.dest.toNat)), f)
  else ((x.dest, 0), if found then f else { f with c := putC f.c x })
def fAt (f : Fl) (addr : Int) (wt : Bool) : (Int × Int) × Fl :=
  if addr < 0 ∨ 255 < addr then ((0, 1), f)
  else if f.root = -1 then ((addr / 16, pgCode (f.st (addr / 16).toNat)), f)
  else if 0 ≤ fndI f.c f.root (addr / 16) then fStep f (atE f.c (fndI f.c f.root (addr / 16)).toNat) true wt
  else if 0 < pgCode (f.st f.root.toNat) then ((0, pgCode (f.st f.root.toNat)), f)
  else if f.b f.root.toNat (addr / 16).toNat < 128 then ((0, 5), f)
  else fStep f (gEn f.root (addr / 16) (f.b f.root.toNat (addr / 16).toNat)) false wt
def fLoad (f : Fl) (addr : Int) : (Int × Int) × Fl :=
  if 0 < (fAt f addr false).1.2 then ((0, (fAt f addr false).1.2), (fAt f addr false).2)
  else (((fAt f addr false).2.b (fAt f addr false).1.1.toNat (addr % 16).toNat, 0), (fAt f addr false).2)
def fStore (f : Fl) (addr v : Int) : Int × Fl :=
  if 0 < (fAt f addr true).1.2 then ((fAt f addr true).1.2, (fAt f addr true).2)
  else (0, { (fAt f addr true).2 with b := setAt (fAt f addr true).2.b (fAt f addr true).1.1.toNat (setAt ((fAt f addr true).2.b (fAt f addr true).1.1.toNat) (addr % 16).toNat v) })
/-- A guest's view is that flat memory. -/
structure FR (n : Nat) (x : Gs) (t : Nat → Nat → Int) (f : Fl) : Prop where
  st : ∀ k, k < 16 → f.st k = x.m.st k
  b : ∀ k i, k < 16 → i < 16 → f.b k i = t (16 * n + k) i
  root : f.root = x.root
  c : f.c = x.c
variable {h : Hs} {t : Nat → Nat → Int} {W W' : Int} {n : Nat} {x : Gs} {f : Fl}
theorem pgCode_le (z : Int) : 0 ≤ pgCode z := by
  unfold pgCode
  repeat' split
  all_goals omega
theorem HR.more (hr : HR h t W) (hw : W ≤ W') : HR h t W' := ⟨⟨hr.inv.cn, hr.inv.byt, fun i y hy => ⟨(hr.inv.gi i y hy).1, { (hr.inv.gi i y hy).2 with w1 := Int.le_trans (hr.inv.gi i y hy).2.w1 hw }⟩⟩, hr.ri, hr.le⟩
/-- Only what the processor keeps turns. -/
theorem HR.own {y : Gs} (hr : HR h t W) (hx : h.g n = some x) (hm : y.m = x.m) (hg : GInv h.s y (oth h n) W') (hd : Dist y.c) (hW : W ≤ W') : HR (h.put n (h.s, y)) t W' :=
  ⟨hr.inv.put hx hg hd rfl hW, by rw [row_same hx (by rw [hm])]; exact hr.ri, by rw [rowS_same hx (by rw [hm])]; exact hr.le⟩
theorem FR.same {y : Gs} (hf : FR n x t f) (hs : y.m.st = x.m.st) (hr : y.root = x.root) (hc : y.c = x.c) : FR n y t f := ⟨fun k hk => by rw [hs]; exact hf.st k hk, hf.b, hf.root.trans hr.symm, hf.c.trans hc.symm⟩
/-- What a frame that an address leads to ends with. -/
structure AtOk (h : Hs) (n : Nat) (t : Nat → Nat → Int) (W : Int) (wt : Bool) (r : (Int × Int) × Pl × Gs) (q : (Int × Int) × Fl) : Prop where
  hr : HR (h.put n r.2) t W
  fr : FR n r.2.2 t q.2
  code : r.1.2 = q.1.2
  page : r.1.2 = 0 → (0 ≤ q.1.1 ∧ q.1.1 < 16) ∧ (r.2.2.m.lf q.1.1.toNat).there = true ∧ (r.2.2.m.lf q.1.1.toNat).fr = r.1.1 ∧ (wt = true → (r.2.2.m.lf q.1.1.toNat).wr = true)
theorem step_ok (hr : HR h t W) (hx : h.g n = some x) (hf : FR n x t f) (y : En) (hy : 0 ≤ y.dest ∧ y.dest < 16) (found wt : Bool) : AtOk h n t W wt (gStep h.s x y found wt) (fStep f y found wt) := by
  obtain ⟨hn, ok⟩ := hr.inv.gi n x hx
  have hgi := hr.inv.ginv hx
  have hdi := step_dist (s := h.s) ok.di ok.len y found wt
  have hgs := hgi.step y hy found wt
  obtain ⟨k, hk⟩ := Int.eq_ofNat_of_zero_le hy.1
  have hk16 : k < 16 := by omega
  obtain ⟨h1, h2, h3⟩ := hr.touch hx hk16 wt
  have hst : f.st y.dest.toNat = x.m.st k := by rw [hk, Int.toNat_natCast]; exact hf.st k hk16
  have hcode : (gTouch h.s x y.dest wt).1.2 = pgCode (f.st y.dest.toNat) := by rw [hst, hk]; exact h2
  revert hdi hgs
  unfold gStep fStep
  intro hdi hgs
  by_cases hw : (wt && !y.may) = true
  · rw [if_pos hw, if_pos hw]
    exact ⟨by rw [Hs.put_self hx]; exact hr, hf, rfl, fun e => by simp at e⟩
  · rw [if_neg hw] at hdi hgs
    rw [if_neg hw, if_neg hw, hcode]
    rw [hcode] at hdi hgs
    by_cases hp : 0 < pgCode (f.st y.dest.toNat)
    · rw [if_pos hp, if_pos hp]
      rw [hk]
      refine ⟨h1, hf.same (touch_st _ _ _ _) rfl rfl, rfl, fun e => ?_⟩
      rw [hk] at hp
      simp only at e
      omega
    · rw [if_neg hp] at hdi hgs
      rw [if_neg hp, if_neg hp]
      have hz : pgCode (x.m.st k) = 0 := by have := pgCode_le (x.m.st k); rw [hst] at hp; omega
      have h3' := h3 hz
      rw [← hk] at h1 h3'
      cases found with
      | true =>
        simp only [if_true] at hdi hgs ⊢
        exact ⟨h1, hf.same (touch_st _ _ _ _) rfl rfl, rfl, fun _ => ⟨hy, by rw [show y.dest.toNat = k by rw [hk]; rfl]; exact h3'⟩⟩
      | false =>
        simp only [Bool.false_eq_true, if_false] at hdi hgs ⊢
        refine ⟨?_, ⟨fun j hj => (hf.st j hj).trans (congrFun (touch_st h.s x.m y.dest wt) j).symm, hf.b, hf.root, ?_⟩, rfl, fun _ => ⟨hy, by rw [show y.dest.toNat = k by rw [hk]; rfl]; exact h3'⟩⟩
        · have := h1.own (n := n) (x := (gTouch h.s x y.dest wt).2.2) (y := { (gTouch h.s x y.dest wt).2.2 with c := putC (gTouch h.s x y.dest wt).2.2.c y }) (put_at _ _ _) rfl (by rw [oth_put]; exact hgs) hdi (Int.le_refl _)
          rw [put_put] at this
          exact this
        · show putC f.c y = putC x.c y
          rw [hf.c]
theorem AtOk.more {wt : Bool} {r : (Int × Int) × Pl × Gs} {q : (Int × Int) × Fl} (ha : AtOk h n t W wt r q) (hw : W ≤ W') : AtOk h n t W' wt r q := { ha with hr := ha.hr.more hw }
theorem AtOk.back {wt : Bool} {r0 : Pl × Gs} {r : (Int × Int) × Pl × Gs} {q : (Int × Int) × Fl} (ha : AtOk (h.put n r0) n t W wt r q) : AtOk h n t W wt r q := { ha with hr := by have := ha.hr; rw [put_put] at this; exact this }
theorem at_ok (hr : HR h t W) (hx : h.g n = some x) (hf : FR n x t f) (addr : Int) (wt : Bool) : AtOk h n t (W + 1) wt (gAt h.s x addr wt) (fAt f addr wt) := by
  obtain ⟨hn, ok⟩ := hr.inv.gi n x hx
  have hgi := hr.inv.ginv hx
  unfold gAt fAt
  by_cases ho : addr < 0 ∨ 255 < addr
  · rw [if_pos ho, if_pos ho]
    exact ⟨by rw [Hs.put_self hx]; exact hr.more (by omega), hf, rfl, fun e => by simp at e⟩
  · rw [if_neg ho, if_neg ho]
    obtain ⟨k, hk⟩ := Int.eq_ofNat_of_zero_le (show 0 ≤ addr / 16 by omega)
    have hk16 : k < 16 := by omega
    rw [hk, hf.root, hf.c]
    by_cases h1 : x.root = -1
    · rw [if_pos h1, if_pos h1]
      obtain ⟨t1, t2, t3⟩ := hr.touch hx hk16 wt
      rw [Int.toNat_natCast, hf.st k hk16]
      refine ⟨t1.more (by omega), hf.same (touch_st _ _ _ _) rfl rfl, t2, fun e => ⟨by show (0 : Int) ≤ (k : Int) ∧ (k : Int) < 16; omega, ?_⟩⟩
      simp only [Int.toNat_natCast]
      exact t3 (by rw [← t2]; exact e)
    · rw [if_neg h1, if_neg h1]
      by_cases h2 : 0 ≤ fndI x.c x.root (k : Int)
      · rw [if_pos h2, if_pos h2]
        have hin : (fndI x.c x.root (k : Int)).toNat < x.c.length := by
          rw [fndI_idx] at h2 ⊢
          rcases idxP_cases (isAt x.root (k : Int)) x.c with ⟨j, hj, e, _, _⟩ | ⟨e, _⟩
          · rw [e]; omega
          · omega
        exact (step_ok hr hx hf _ (ok.en _ (atE_mem hin)) true wt).more (by omega)
      · rw [if_neg h2, if_neg h2]
        obtain ⟨j, hj⟩ := Int.eq_ofNat_of_zero_le (show 0 ≤ x.root by have := ok.r0; omega)
        have hj16 : j < 16 := by have := ok.r1; omega
        obtain ⟨t1, t2, t3⟩ := hr.touch hx hj16 false
        unfold gWalk
        rw [hj, Int.toNat_natCast, Int.toNat_natCast, hf.st j hj16, t2]
        by_cases h3 : 0 < pgCode (x.m.st j)
        · rw [if_pos h3, if_pos h3]
          exact ⟨t1.more (by omega), hf.same (touch_st _ _ _ _) rfl rfl, rfl, fun e => by simp only at e; omega⟩
        · rw [if_neg h3, if_neg h3]
          have hz : pgCode (x.m.st j) = 0 := by have := pgCode_le (x.m.st j); omega
          obtain ⟨u1, u2, u3⟩ := t3 hz
          have hb : (gTouch h.s x (j : Int) false).2.1.byt (gTouch h.s x (j : Int) false).1.1.toNat k = f.b j k := by
            have := t1.ri.byt (16 * n + j) (by omega)
            rw [rowL_at (put_at _ _ _) hj16] at this
            have := this u1 k hk16
            rw [u2] at this
            rw [hf.b j k hj16 hk16]
            exact this
          rw [hb]
          have hgt := hgi.touch (j : Int) false
          have hg1 : GInv (gTouch h.s x (j : Int) false).2.1 { (gTouch h.s x (j : Int) false).2.2 with walks := x.walks + 1 } (oth (h.put n (gTouch h.s x (j : Int) false).2) n) (W + 1) := by
            rw [oth_put]
            have e1 := hgt.w0
            have e2 := hgt.w1
            have e3 : (gTouch h.s x (j : Int) false).2.2.walks = x.walks := rfl
            exact { hgt with w0 := (by show 0 ≤ x.walks + 1; omega), w1 := (by show x.walks + 1 ≤ W + 1; omega) }
          have hown := t1.own (n := n) (x := (gTouch h.s x (j : Int) false).2.2) (y := { (gTouch h.s x (j : Int) false).2.2 with walks := x.walks + 1 }) (put_at _ _ _) rfl hg1 ok.di (by omega)
          rw [put_put] at hown
          have hf1 : FR n { (gTouch h.s x (j : Int) false).2.2 with walks := x.walks + 1 } t f := hf.same (touch_st _ _ _ _) rfl rfl
          by_cases h4 : f.b j k < 128
          · rw [if_pos h4, if_pos h4]
            exact ⟨hown, hf1, rfl, fun e => by simp at e⟩
          · rw [if_neg h4, if_neg h4]
            have hs := step_ok hown (put_at _ _ _) hf1 (gEn (j : Int) (k : Int) (f.b j k)) (by unfold gEn; simp only; omega) false wt
            exact hs.back
end Go.Proofs.YtadpibcgjgcjhabGreatDoor
/- Loads and stores of a guest of a host, plainly: what a flat memory tells; other guests' bytes are as they were. -/
namespace Go.Proofs.YtadpibcgjgcjhabGreatDoor
open Go.RowKit
variable {h : Hs} {t : Nat → Nat → Int} {W W' : Int} {n : Nat} {x : Gs} {f : Fl}

theorem load_ok (hr : HR h t W) (hx : h.g n = some x) (hf : FR n x t f) (addr : Int) :
    (gLoad h.s x addr).1 = (fLoad f addr).1 ∧ HR (h.put n (gLoad h.s x addr).2) t (W + 1) ∧ FR n (gLoad h.s x addr).2.2 t (fLoad f addr).2 := by
  have hn := (hr.inv.gi n x hx).1
  have ha := at_ok hr hx hf addr false
  unfold gLoad fLoad
  rw [← ha.code]
  by_cases h0 : 0 < (gAt h.s x addr false).1.2
  · rw [if_pos h0, if_pos h0]
    exact ⟨rfl, ha.hr, ha.fr⟩
  · rw [if_neg h0, if_neg h0]
    have hc : 0 ≤ (gAt h.s x addr false).1.2 := by
      rw [ha.code]
      unfold fAt fStep
      have := pgCode_le
      repeat' split
      all_goals first | exact this _ | simp
    obtain ⟨⟨p0, p1⟩, u1, u2, _⟩ := ha.page (by omega)
    refine ⟨?_, ha.hr, ha.fr⟩
    have hb := ha.hr.ri.byt (16 * n + (fAt f addr false).1.1.toNat) (by omega)
    rw [rowL_at (put_at _ _ _) (by omega)] at hb
    have hb := hb u1 (addr % 16).toNat (by omega)
    rw [u2] at hb
    have := ha.fr.b (fAt f addr false).1.1.toNat (addr % 16).toNat (by omega) (by omega)
    simp only
    rw [this]
    exact congrArg (fun z => (z, (0 : Int))) hb
theorem store_ok (hr : HR h t W) (hx : h.g n = some x) (hf : FR n x t f) (addr v : Int) (v0 : 0 ≤ v) (v1 : v ≤ 255) :
    (gStore h.s x addr v).1 = (fStore f addr v).1 ∧ ∃ t', HR (h.put n (gStore h.s x addr v).2) t' (W + 1) ∧ FR n (gStore h.s x addr v).2.2 t' (fStore f addr v).2 ∧ ∀ p, p / 16 ≠ n → t' p = t p := by
  have hn := (hr.inv.gi n x hx).1
  have hx4 := hr.inv.gi n x hx
  have ha := at_ok hr hx hf addr true
  have hgs := (hr.inv.ginv hx).store addr v v0 v1
  have hds := store_dist (s := h.s) hx4.2.di hx4.2.len addr v
  revert hgs hds
  unfold gStore fStore
  intro hgs hds
  rw [← ha.code]
  by_cases h0 : 0 < (gAt h.s x addr true).1.2
  · rw [if_pos h0, if_pos h0]
    exact ⟨rfl, t, ha.hr, ha.fr, fun _ _ => rfl⟩
  · rw [if_neg h0] at hgs hds
    rw [if_neg h0, if_neg h0]
    have hc : 0 ≤ (gAt h.s x addr true).1.2 := by
      rw [ha.code]
      unfold fAt fStep
      have := pgCode_le
      repeat' split
      all_goals first | exact this _ | simp
    obtain ⟨⟨p0, p1⟩, u1, u2, u3⟩ := ha.page (by omega)
    have hp64 : 16 * n + (fAt f addr true).1.1.toNat < 64 := by omega
    have hL := rowL_at (put_at h n (gAt h.s x addr true).2) (show (fAt f addr true).1.1.toNat < 16 by omega)
    have ht : (rowL (h.put n (gAt h.s x addr true).2) (16 * n + (fAt f addr true).1.1.toNat)).there = true := by rw [hL]; exact u1
    have hw : (rowL (h.put n (gAt h.s x addr true).2) (16 * n + (fAt f addr true).1.1.toNat)).wr = true := by rw [hL]; exact u3 rfl
    have hone := ha.hr.ri.one _ hp64 ht hw
    have hus := ha.hr.inv.cn.used hp64 ht
    have hfr : (rowL (h.put n (gAt h.s x addr true).2) (16 * n + (fAt f addr true).1.1.toNat)).fr = (gAt h.s x addr true).1.1 := by rw [hL]; exact u2
    rw [hfr] at hone hus
    have hus : (gAt h.s x addr true).2.1.used (gAt h.s x addr true).1.1 = true := hus
    have hset : (gAt h.s x addr true).2.1.set (gAt h.s x addr true).1.1 (addr % 16) v = (0, { (gAt h.s x addr true).2.1 with byt := setAt (gAt h.s x addr true).2.1.byt (gAt h.s x addr true).1.1.toNat (setAt ((gAt h.s x addr true).2.1.byt (gAt h.s x addr true).1.1.toNat) (addr % 16).toNat v) }) := by
      unfold Pl.set
      rw [if_neg (by omega), if_pos hus, if_neg (by
        have : (gAt h.s x addr true).2.1.refs (gAt h.s x addr true).1.1.toNat = 1 := hone
        omega)]
    have hri := ha.hr.ri.set (i := (addr % 16).toNat) (v := v) ha.hr.inv.cn hp64 ht hw
    rw [hfr] at hri
    rw [hset] at hgs hds ⊢
    refine ⟨rfl, setAt t (16 * n + (fAt f addr true).1.1.toNat) (setAt (t (16 * n + (fAt f addr true).1.1.toNat)) (addr % 16).toNat v), ⟨?_, ?_, ?_⟩, ⟨?_, ?_, ?_, ?_⟩, ?_⟩
    · have := ha.hr.inv.put (n := n) (x := (gAt h.s x addr true).2.2) (s' := { (gAt h.s x addr true).2.1 with byt := setAt (gAt h.s x addr true).2.1.byt (gAt h.s x addr true).1.1.toNat (setAt ((gAt h.s x addr true).2.1.byt (gAt h.s x addr true).1.1.toNat) (addr % 16).toNat v) }) (x' := (gAt h.s x addr true).2.2) (put_at _ _ _) (W' := W + 1) (by rw [oth_put]; exact hgs) hds rfl (Int.le_refl _)
      rw [put_put] at this
      exact this
    · have e : rowL (h.put n ({ (gAt h.s x addr true).2.1 with byt := setAt (gAt h.s x addr true).2.1.byt (gAt h.s x addr true).1.1.toNat (setAt ((gAt h.s x addr true).2.1.byt (gAt h.s x addr true).1.1.toNat) (addr % 16).toNat v) }, (gAt h.s x addr true).2.2)) = rowL (h.put n (gAt h.s x addr true).2) := by
        funext i
        rw [rowL_put, rowL_put]
      rw [e]
      exact hri
    · have e : rowS (h.put n ({ (gAt h.s x addr true).2.1 with byt := setAt (gAt h.s x addr true).2.1.byt (gAt h.s x addr true).1.1.toNat (setAt ((gAt h.s x addr true).2.1.byt (gAt h.s x addr true).1.1.toNat) (addr % 16).toNat v) }, (gAt h.s x addr true).2.2)) = rowS (h.put n (gAt h.s x addr true).2) := by
        funext i
        rw [rowS_put, rowS_put]
      rw [e]
      exact ha.hr.le
    · exact ha.fr.st
    · intro k i hk hi
      by_cases e : k = (fAt f addr true).1.1.toNat
      · subst e
        simp only [setAt_same]
        by_cases e2 : i = (addr % 16).toNat
        · subst e2; rw [setAt_same, setAt_same]
        · rw [setAt_other _ _ _ _ e2, setAt_other _ _ _ _ e2]
          exact ha.fr.b _ i hk hi
      · simp only
        rw [setAt_other _ _ _ _ e, setAt_other _ _ _ _ (by omega)]
        exact ha.fr.b k i hk hi
    · exact ha.fr.root
    · exact ha.fr.c
    · intro p hp
      exact setAt_other _ _ _ _ (by omega)
end Go.Proofs.YtadpibcgjgcjhabGreatDoor
/- The document's answer for chapter 4: SetRoot, ForgetAll, Cached. -/
namespace Go.Proofs.YtadpibcgjgcjhabGreatDoor
open Go.ChangeShapes Go.WideShapes Go.ChangeAt Go.RowKit
set_option maxRecDepth 100000
attribute [local go_sem ↓] Go.wp_at_zero Go.wp_at_succ

theorem gRoot_any (w : World) (bg bm base : Nat) (v : Value) (g : Gs) (n : Int) (h : RGu w bg bm base v g) :
    Calls Tryz.prog 46 #[.pointer (some ⟨bg, 0, none⟩), .int .i64 n] w fun e w' => e = .returned (.int .i64 (gRoot g n).1) ∧ RGu w' bg bm base v (gRoot g n).2 ∧ Upd (fun k => k = bg) w w' := by
  have c66 := h.c66
  have fz := h.mp.fz 66
  by_cases h1 : n < -1
  · have d1 : decide (n < -1) = true := by simp; exact h1
    have hg : gRoot g n = (1, g) := by unfold gRoot; rw [if_pos (Or.inl h1)]
    rw [hg]
    go_enter Tryz.func46, Tryz.ntmps46
    go_wp2_with fail
    go_ret
    exact ⟨rfl, h, Upd.refl _ _⟩
  · have d1 : decide (n < -1) = false := by simp; omega
    by_cases h2 : 15 < n
    · have d2 : decide (15 < n) = true := by simp; exact h2
      have hg : gRoot g n = (1, g) := by unfold gRoot; rw [if_pos (Or.inr h2)]
      rw [hg]
      go_enter Tryz.func46, Tryz.ntmps46
      go_wp2_with fail
      go_ret
      exact ⟨rfl, h, Upd.refl _ _⟩
    · have d2 : decide (15 < n) = false := by simp; omega
      have hg : gRoot g n = (0, { g with root := n }) := by unfold gRoot; rw [if_neg (by omega)]
      rw [hg]
      have HS : Hid _ := h.setRoot n
      clear h
      go_enter Tryz.func46, Tryz.ntmps46
      go_wp2_with fail
      go_ret
      exact ⟨rfl, HS.out, Upd.one _ _ _ _⟩
theorem gForgetAll_any (w : World) (bg bm base : Nat) (v : Value) (g : Gs) (n : Int) (h : RGu w bg bm base v g) (hbm : bm < w.heap.size) (hb : base ≤ w.heap.size) (hl : g.c.length ≤ 4) :
    Calls Tryz.prog 48 #[.pointer (some ⟨bg, 0, none⟩), .int .i64 n] w fun e w' => ∃ v', e = .returned (.int .i64 (gForgetAll g n).1) ∧ RGu w' bg bm base v' (gForgetAll g n).2 ∧ Upd (fun k => k = bg) w w' ∧ Fr w v v' := by
  have c65 := h.c65
  have HH : Hid _ := h
  have hlt := h.mp.lt
  clear h
  cases ho : onB n with
  | false =>
    have hg : gForgetAll g n = (1, g) := by simp [gForgetAll, ho]
    rw [hg]
    go_enter Tryz.func48, Tryz.ntmps48
    go_wp2_with fail
    refine (on_any w n).mono ?_
    rintro e w1 ⟨rfl, hw1⟩
    subst hw1
    rw [ho]
    go_wp2_with fail
    go_ret
    exact ⟨v, rfl, HH.out, Upd.refl _ _, Fr.refl _ _⟩
  | true =>
    have hg : gForgetAll g n = (0, { g with c := keepTo (fun i => (atE g.c i).root != n) g.c g.c.length }) := by simp [gForgetAll, ho]
    rw [hg]
    go_enter Tryz.func48, Tryz.ntmps48
    go_wp2_with fail
    refine (on_any w n).mono ?_
    rintro e w1 ⟨rfl, hw1⟩
    subst hw1
    rw [ho]
    go_wp2_with fail
    refine (cForget_any w1 base v g.c n HH.out.sl (by omega)).mono ?_
    rintro e w2 ⟨v2, rfl, hs2, hu2⟩
    obtain ⟨a2, cap2, rfl, _⟩ := hs2.form
    have h2 := HH.out.upd hu2 (fun f => f) (fun _ _ f => f)
    have d65 := h2.c65
    have fz := h2.mp.fz 65
    have HS : Hid _ := h2.setC hs2 hb hlt hbm
    have HFR : Hid (Fr w1 v _) := Fr.of hs2 (Nat.le_refl _)
    have HU : Hid _ := hu2
    clear hs2 hu2 h2 c65
    generalize (keepTo (fun i => (atE g.c i).root != n) g.c g.c.length).length = kl at *
    go_wp2_with fail
    go_ret
    exact ⟨_, rfl, HS.out, (HU.out.wide (T := fun k => k = bg) (fun _ f => f.elim)).trans (Upd.one _ _ _ _) (fun _ _ e => e), HFR.out⟩
end Go.Proofs.YtadpibcgjgcjhabGreatDoor
/- The document's answer for chapter 4: At. -/
namespace Go.Proofs.YtadpibcgjgcjhabGreatDoor
open Go.ChangeShapes Go.WideShapes Go.ChangeAt Go.RowKit
set_option maxRecDepth 100000
attribute [local go_sem ↓] Go.wp_at_zero Go.wp_at_succ

theorem gAt_out (w : World) (bg : Nat) (addr : Int) (wt : Bool) (ho : addr < 0 ∨ 255 < addr) :
    Calls Tryz.prog 68 #[.pointer (some ⟨bg, 0, none⟩), .int .i64 addr, .bool wt] w fun e w' => e = .returned (.tuple #[.int .i64 0, .int .i64 1]) ∧ w' = w := by
  by_cases h1 : addr < 0
  · have d1 : decide (addr < 0) = true := by simp; exact h1
    go_enter Tryz.func68, Tryz.ntmps68
    go_wp2_with fail
    go_ret2
    exact ⟨rfl, rfl⟩
  · have d1 : decide (addr < 0) = false := by simp; omega
    have d2 : decide (255 < addr) = true := by simp; omega
    go_enter Tryz.func68, Tryz.ntmps68
    go_wp2_with fail
    go_ret2
    exact ⟨rfl, rfl⟩
/-- Touch, as part of a guest. -/
theorem gTouch_any (w : World) (bg bm base : Nat) (v : Value) (g : Gs) (s : Pl) (b : Mp) (n : Int) (wt : Bool) (h : RGu w bg bm base v g) (hr : RefAt w bm s) (hne : bg ≠ bm) (hi : Inv s g.m b) :
    Calls Tryz.prog 98 #[.pointer (some ⟨bg, 0, none⟩), .int .i64 n, .bool wt] w fun e w' =>
      e = .returned (.tuple #[.int .i64 (gTouch s g n wt).1.1, .bool (touchR s g.m n wt).1.2.1, .int .i64 (gTouch s g n wt).1.2]) ∧ RefAt w' bm (gTouch s g n wt).2.1 ∧ RGu w' bg bm base v (gTouch s g n wt).2.2 ∧ Upd (fun k => k = bm ∨ k = bg) w w' := by
  have hle := hi.le
  have := rTouch_any w bg bm n wt _ s h.mp hr hne (fun f hf => by have := hle f hf; omega) (fun k hk ht => hi.ok k hk ht)
  rw [touch_rest] at this
  refine this.mono ?_
  rintro e w' ⟨he, h1, h2, hu⟩
  exact ⟨he, h1, h.map hu h2, hu⟩
theorem gAt_off (w : World) (bg bm base : Nat) (v : Value) (g : Gs) (s : Pl) (b : Mp) (k : Nat) (wt : Bool) (h : RGu w bg bm base v g) (hr : RefAt w bm s) (hne : bg ≠ bm) (hi : Inv s g.m b) (hk : k ≤ 255) (hroot : g.root = -1) :
    Calls Tryz.prog 68 #[.pointer (some ⟨bg, 0, none⟩), .int .i64 (k : Int), .bool wt] w fun e w' =>
      e = .returned (.tuple #[.int .i64 (gTouch s g ((k : Int) / 16) wt).1.1, .int .i64 (gTouch s g ((k : Int) / 16) wt).1.2]) ∧ RefAt w' bm (gTouch s g ((k : Int) / 16) wt).2.1 ∧ RGu w' bg bm base v (gTouch s g ((k : Int) / 16) wt).2.2 ∧ Upd (fun k => k = bm ∨ k = bg) w w' := by
  have c66 := h.c66
  rw [hroot] at c66
  have HH : Hid _ := h
  have HR : Hid _ := hr
  have HI : Hid _ := hi
  have d1 : decide ((k : Int) < 0) = false := by simp
  have d2 : decide ((255 : Int) < (k : Int)) = false := by simp; omega
  clear h hr hi
  go_enter Tryz.func68, Tryz.ntmps68
  go_wp2_with fail
  refine (gTouch_any w bg bm base v g s b _ wt HH.out HR.out hne HI.out).mono ?_
  rintro e w1 ⟨rfl, hr1, hg1, hu1⟩
  generalize hq : gTouch s g ((k : Int) / 16) wt = q at *
  have HQ : Hid _ := hq
  have H1 : Hid _ := hr1
  have H2 : Hid _ := hg1
  have H3 : Hid _ := hu1
  clear hr1 hg1 hu1 hq HH HR HI
  go_wp2_with fail
  go_ret2
  rw [HQ.out]
  exact ⟨rfl, H1.out, H2.out, H3.out⟩
set_option maxHeartbeats 4000000 in
theorem gAt_found (w : World) (bg bm base : Nat) (v : Value) (g : Gs) (s : Pl) (b : Mp) (k : Nat) (wt : Bool) (h : RGu w bg bm base v g) (hr : RefAt w bm s) (hne : bg ≠ bm) (hi : Inv s g.m b) (hk : k ≤ 255) (hroot : g.root ≠ -1) (j : Nat) (hj : j < g.c.length) (hf : fndI g.c g.root ((k : Int) / 16) = j) (hl : g.c.length ≤ 4) :
    Calls Tryz.prog 68 #[.pointer (some ⟨bg, 0, none⟩), .int .i64 (k : Int), .bool wt] w fun e w' =>
      e = .returned (.tuple #[.int .i64 (gStep s g (atE g.c j) true wt).1.1, .int .i64 (gStep s g (atE g.c j) true wt).1.2]) ∧ RefAt w' bm (gStep s g (atE g.c j) true wt).2.1 ∧ RGu w' bg bm base v (gStep s g (atE g.c j) true wt).2.2 ∧ Upd (fun k => k = bm ∨ k = bg) w w' := by
  have c65 := h.c65
  have c66 := h.c66
  have HH : Hid _ := h
  have HR : Hid _ := hr
  have HI : Hid _ := hi
  have HF : Hid _ := hf
  have d1 : decide ((k : Int) < 0) = false := by simp
  have d2 : decide ((255 : Int) < (k : Int)) = false := by simp; omega
  have d3 : (g.root == -1) = false := beq_eq_false_iff_ne.2 hroot
  clear h hr hi hf hroot
  go_enter Tryz.func68, Tryz.ntmps68
  go_wp2_with fail
  go_region_held3 (fun w' => w'.cell? ⟨bg, 65, none⟩ = some v ∧ w'.cell? ⟨bg, 66, none⟩ = some (.int .i64 g.root)) (first | exact ⟨c65, c66⟩)
    (first
      | (go_at_call 71; refine (cFind_any _ base v g.c g.root _ (HH.out.sl.upd ((Upd.refl (fun _ => False) w).drew) (fun _ _ f => f)) (by omega)).mono ?_; rintro e w1 ⟨rfl, hw1⟩; subst hw1; rw [HF.out]))
  have hu0 := (Upd.refl (fun _ => False) w).drew
  have HH1 : Hid _ := HH.out.upd hu0 (fun f => f) (fun _ _ f => f)
  have HR1 : Hid _ := HR.out.upd hu0 (fun f => f)
  have HU1 : Hid _ := hu0
  have c65' : w.drew.cell? ⟨bg, 65, none⟩ = some v := c65
  clear c65 c66 HH HR hu0 HF
  revert HU1
  revert HR1
  revert HH1
  revert c65'
  generalize w.drew = w1
  intro c65 HH1 HR1 HU1
  obtain ⟨va, vcap, rfl, hform⟩ := HH1.out.sl.form
  obtain ⟨gb, rfl, _, hglt, hcell⟩ := hform j hj
  have e0 : w1.cell? ⟨gb, j * 7, none⟩ = some (.int .i64 (atE g.c j).root) := hcell 0 (by omega)
  have e1 : w1.cell? ⟨gb, j * 7 + 1, none⟩ = some (.int .i64 (atE g.c j).page) := hcell 1 (by omega)
  have e2 : w1.cell? ⟨gb, j * 7 + 2, none⟩ = some (.int .i64 (atE g.c j).dest) := hcell 2 (by omega)
  have e3 : w1.cell? ⟨gb, j * 7 + 3, none⟩ = some (.bool (atE g.c j).may) := hcell 3 (by omega)
  have e4 : w1.cell? ⟨gb, j * 7 + 4, none⟩ = some (.bool (atE g.c j).lf.there) := hcell 4 (by omega)
  have e5 : w1.cell? ⟨gb, j * 7 + 5, none⟩ = some (.bool (atE g.c j).lf.wr) := hcell 5 (by omega)
  have e6 : w1.cell? ⟨gb, j * 7 + 6, none⟩ = some (.int .i64 (atE g.c j).lf.fr) := hcell 6 (by omega)
  clear hcell hform
  have hua := (Upd.refl (fun _ => False) w1).alloc (.cells #[.int .i64 0, .int .i64 0, .int .i64 0, .bool false, .bool false, .bool false, .int .i64 0] 151)
  have c65a := hua.cell c65 (fun f => f)
  have e0 := hua.cell e0 (fun f => f)
  have e1 := hua.cell e1 (fun f => f)
  have e2 := hua.cell e2 (fun f => f)
  have e3 := hua.cell e3 (fun f => f)
  have e4 := hua.cell e4 (fun f => f)
  have e5 := hua.cell e5 (fun f => f)
  have e6 := hua.cell e6 (fun f => f)
  clear hua c65
  generalize hy : atE g.c j = y at *
  have HY : Hid _ := hy
  clear hy
  have j0 : (0 : Int) ≤ (j : Int) := by omega
  have j1 : (j : Int) < g.c.length := by omega
  have dj : decide ((j : Int) < 0) = false := by simp
  go_upto_region 19 with fail
  have hua := (Upd.refl (fun _ => False) w1).alloc (.cells #[.int .i64 y.root, .int .i64 y.page, .int .i64 y.dest, .bool y.may, .bool y.lf.there, .bool y.lf.wr, .int .i64 y.lf.fr] 151)
  have HH2 : Hid _ := HH1.out.upd hua (fun f => f) (fun _ _ f => f)
  have HR2 : Hid _ := HR1.out.upd hua (fun f => f)
  have HU2 : Hid _ := HU1.out.trans hua (fun _ _ f => f)
  have HX : Hid (∀ j, (w1.alloc (.cells #[.int .i64 y.root, .int .i64 y.page, .int .i64 y.dest, .bool y.may, .bool y.lf.there, .bool y.lf.wr, .int .i64 y.lf.fr] 151)).cell? ⟨w1.heap.size, j, none⟩ = (enCells y)[j]?) := by
    show ∀ j, _
    intro j
    rw [World.cell?_alloc_new]
    show (enCells y).toArray[j]? = _
    simp
  have hqg : bg < w1.heap.size := HH1.out.mp.lt
  have hqm : bm < w1.heap.size := World.block_lt_of_cell? w1 _ HR1.out.num
  have HZ2 : Hid ((w1.alloc (.cells #[.int .i64 y.root, .int .i64 y.page, .int .i64 y.dest, .bool y.may, .bool y.lf.there, .bool y.lf.wr, .int .i64 y.lf.fr] 151)).heap.size = w1.heap.size + 1) := by show _ = _; simp
  clear hua HH1 HR1 HU1 e0 e1 e2 e3 e4 e5 e6 c65a
  revert HZ2
  revert HX
  revert HU2
  revert HR2
  revert HH2
  generalize (w1.alloc (.cells #[.int .i64 y.root, .int .i64 y.page, .int .i64 y.dest, .bool y.may, .bool y.lf.there, .bool y.lf.wr, .int .i64 y.lf.fr] 151)) = w2
  generalize hqq : w1.heap.size = q at *
  clear hqq
  intro HH2 HR2 HU2 HX HZ2
  have x2 : w2.cell? ⟨q, 2, none⟩ = some (.int .i64 y.dest) := HX.out 2
  have x3 : w2.cell? ⟨q, 3, none⟩ = some (.bool y.may) := HX.out 3
  have hw3 := HX.out
  cases hwm : (wt && !y.may) with
  | true =>
    have hst : gStep s g y true wt = ((0, 5), s, g) := by unfold gStep; rw [hwm]; rfl
    have HST : Hid _ := hst
    obtain ⟨hw1, hw2⟩ : wt = true ∧ y.may = false := by simpa using hwm
    subst hw1
    rw [hw2] at x3
    clear hst hwm hw3
    go_wp2_with fail
    go_ret2
    rw [HY.out, HST.out]
    exact ⟨rfl, HR2.out, HH2.out, HU2.out.wide (fun _ f => f.elim)⟩
  | false =>
    have nq : ¬ (q = bm ∨ q = bg) := by omega
    have hst : gStep s g y true wt = if 0 < (gTouch s g y.dest wt).1.2 then ((0, (gTouch s g y.dest wt).1.2), (gTouch s g y.dest wt).2) else (((gTouch s g y.dest wt).1.1, 0), (gTouch s g y.dest wt).2.1, if true then (gTouch s g y.dest wt).2.2 else { (gTouch s g y.dest wt).2.2 with c := putC (gTouch s g y.dest wt).2.2.c y }) := by unfold gStep; rw [hwm]; rfl
    have HST : Hid _ := hst
    have hud := (Upd.refl (fun _ => False) w2).drew
    have HHd : Hid _ := HH2.out.upd hud (fun f => f) (fun _ _ f => f)
    have HRd : Hid _ := HR2.out.upd hud (fun f => f)
    have HUd : Hid _ := HU2.out.trans hud (fun _ _ f => f)
    clear hst hud HH2 HR2 HU2 hw3
    rcases (show wt = false ∨ (wt = true ∧ y.may = true) by cases wt <;> simp_all) with hwt | ⟨hwt, hmy⟩
    · subst hwt
      clear hwm x3
      go_wp2_with fail
      go_region_held3 (fun w' => w'.cell? ⟨q, 2, none⟩ = some (.int .i64 y.dest)) (first | exact x2 | exact x2t)
        (first
          | (go_at_call 98; refine (gTouch_any _ bg bm base _ g s b _ _ HHd.out HRd.out hne HI.out).mono ?_; rintro e w3 ⟨rfl, hr3, hg3, hu3⟩; have x2t := hu3.cell (by exact x2) nq))
      have H1 : Hid _ := hr3
      have H2 : Hid _ := hg3
      have H3 : Hid _ := (HUd.out.wide (T := fun k => k = bm ∨ k = bg) (fun _ f => f.elim)).trans hu3 (fun _ _ e => e)
      have hux := hu3
      clear hr3 hg3 HHd HRd HUd
      generalize hqt : gTouch s g y.dest _ = t at *
      clear hqt
      generalize (touchR s g.m y.dest _).1.2.1 = mv
      by_cases he : 0 < t.1.2
      · have d5 : decide (0 < t.1.2) = true := by simp; exact he
        rw [if_pos he] at HST
        clear hux
        go_wp2_with fail
        go_ret2
        rw [HY.out, HST.out]
        exact ⟨rfl, H1.out, H2.out, H3.out⟩
      · have d5 : decide (0 < t.1.2) = false := by simp; omega
        rw [if_neg he] at HST
        clear hux
        go_wp2_with fail
        go_ret2
        rw [HY.out, HST.out]
        exact ⟨rfl, H1.out, H2.out, H3.out⟩
    · subst hwt
      rw [hmy] at x3
      clear hwm hmy
      go_wp2_with fail
      go_region_held3 (fun w' => w'.cell? ⟨q, 2, none⟩ = some (.int .i64 y.dest)) (first | exact x2 | exact x2t)
        (first
          | (go_at_call 98; refine (gTouch_any _ bg bm base _ g s b _ _ HHd.out HRd.out hne HI.out).mono ?_; rintro e w3 ⟨rfl, hr3, hg3, hu3⟩; have x2t := hu3.cell (by exact x2) nq))
      have H1 : Hid _ := hr3
      have H2 : Hid _ := hg3
      have H3 : Hid _ := (HUd.out.wide (T := fun k => k = bm ∨ k = bg) (fun _ f => f.elim)).trans hu3 (fun _ _ e => e)
      have hux := hu3
      clear hr3 hg3 HHd HRd HUd
      generalize hqt : gTouch s g y.dest _ = t at *
      clear hqt
      generalize (touchR s g.m y.dest _).1.2.1 = mv
      by_cases he : 0 < t.1.2
      · have d5 : decide (0 < t.1.2) = true := by simp; exact he
        rw [if_pos he] at HST
        clear hux
        go_wp2_with fail
        go_ret2
        rw [HY.out, HST.out]
        exact ⟨rfl, H1.out, H2.out, H3.out⟩
      · have d5 : decide (0 < t.1.2) = false := by simp; omega
        rw [if_neg he] at HST
        clear hux
        go_wp2_with fail
        go_ret2
        rw [HY.out, HST.out]
        exact ⟨rfl, H1.out, H2.out, H3.out⟩
end Go.Proofs.YtadpibcgjgcjhabGreatDoor
