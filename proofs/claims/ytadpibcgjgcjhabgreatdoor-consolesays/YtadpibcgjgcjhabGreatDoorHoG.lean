/- A page of a guest of a host turns to another state, plainly. -/
import Derived.Test.YtadpibcgjgcjhabGreatDoorHoF
import Derived.Test.YtadpibcgjgcjhabGreatDoorGuS
namespace Go.Proofs.YtadpibcgjgcjhabGreatDoor
open Go.RowKit
variable {h : Hs} {t : Nat → Nat → Int} {W W' : Int} {n : Nat} {x : Gs} {f : Fl}

/-- A page leaves its frame. -/
theorem RInv.drop {s : Pl} {L : Nat → Lf} {t : Nat → Nat → Int} (h : RInv s L t) (c : Cn s L) {p : Nat} (hp : p < 64) (ht : (L p).there = true) : RInv (s.share (L p).fr (-1)).2 (setAt L p lf0) (setAt t p fun _ => 0) := by
  rw [share_refs (c.used hp ht)]
  constructor
  · intro k hk
    by_cases e : k = p
    · subst e; rw [setAt_same]; intro t1; simp [lf0] at t1
    · rw [setAt_other _ _ _ _ e]
      intro t1 w1
      have h1 := h.one k hk t1 w1
      have h3 : (L k).fr.toNat ≠ (L p).fr.toNat := fun q => e (c.lone hk hp t1 ht h1 q.symm).symm
      simp only
      rw [setAt_other _ _ _ _ h3]
      exact h1
  · intro k hk t1 i hi
    by_cases e : k = p
    · subst e; rw [setAt_same]
    · rw [setAt_other _ _ _ _ e] at t1 ⊢
      exact h.out k hk t1 i hi
  · intro k hk
    by_cases e : k = p
    · subst e; rw [setAt_same]; intro t1; simp [lf0] at t1
    · rw [setAt_other _ _ _ _ e]
      intro t1 i hi
      rw [setAt_other _ _ _ _ e]
      exact h.byt k hk t1 i hi
/-- A page that is in no frame has noughts, whatever is said of it. -/
theorem RInv.zero {s : Pl} {L : Nat → Lf} {t : Nat → Nat → Int} (h : RInv s L t) {p : Nat} (ht : (L p).there = false) : RInv s L (setAt t p fun _ => 0) := by
  refine ⟨h.one, fun k hk t1 i hi => ?_, fun k hk t1 i hi => ?_⟩
  · by_cases e : k = p
    · subst e; rw [setAt_same]
    · rw [setAt_other _ _ _ _ e]; exact h.out k hk t1 i hi
  · by_cases e : k = p
    · subst e; rw [ht] at t1; simp at t1
    · rw [setAt_other _ _ _ _ e]; exact h.byt k hk t1 i hi
def fTurn (f : Fl) (k : Nat) (z : Int) : Fl := { f with st := setAt f.st k z, b := setAt f.b k fun _ => 0 }
/-- A guest's page turns. -/
def gTurn (s : Pl) (x : Gs) (k : Nat) (z : Int) : Pl × Gs := (turnP s x.m k z, { x with m := turnM x.m k z })
theorem turnP_n (s : Pl) (m : Mp) (k : Nat) (z : Int) : (turnP s m k z).n = s.n := by
  unfold turnP
  split
  · exact share_n _ _ _
  · rfl
theorem rowS_one {k : Nat} {y : Gs} {s' : Pl} {z : Int} (hx : h.g n = some x) (hk : k < 16) (hy : y.m.st = setAt x.m.st k z) : rowS (h.put n (s', y)) = setAt (rowS h) (16 * n + k) z := by
  funext i
  rw [rowS_put]
  by_cases e : i / 16 = n
  · rw [if_pos e]
    show y.m.st (i % 16) = _
    rw [hy]
    by_cases e2 : i = 16 * n + k
    · subst e2
      rw [setAt_same, show (16 * n + k) % 16 = k by omega, setAt_same]
    · rw [setAt_other _ _ _ _ e2, setAt_other _ _ _ _ (by omega)]
      have := rowS_at hx (j := i % 16) (by omega)
      rw [show 16 * n + i % 16 = i by omega] at this
      exact this.symm
  · rw [if_neg e, setAt_other _ _ _ _ (by omega)]
/-- What holds of a host's pages, but for how many are promised. -/
structure HQ (h : Hs) (t : Nat → Nat → Int) (W : Int) : Prop where
  inv : HInv h W
  ri : RInv h.s (rowL h) t
theorem HR.hq (hr : HR h t W) : HQ h t W := ⟨hr.inv, hr.ri⟩
theorem HQ.turn (hr : HQ h t W) (hx : h.g n = some x) {k : Nat} (hk : k < 16) {z : Int} (z0 : 0 ≤ z) (z2 : z ≤ 2) (hz : z = 1 → x.m.st k ≠ 1) :
    HQ (h.put n (gTurn h.s x k z)) (setAt t (16 * n + k) fun _ => 0) W ∧ rowS (h.put n (gTurn h.s x k z)) = setAt (rowS h) (16 * n + k) z ∧ (h.put n (gTurn h.s x k z)).s.n = h.s.n := by
  obtain ⟨hn, ok⟩ := hr.inv.gi n x hx
  have hgi := hr.inv.ginv hx
  have hL := rowL_at hx hk
  have hinv := hgi.inv.turn hk z z0 z2
  have hgt : GInv (gTurn h.s x k z).1 (gTurn h.s x k z).2 (oth h n) W := { hgi with inv := hinv, byt := turn_byt hgi.byt x.m k z }
  refine ⟨⟨hr.inv.put hx hgt ok.di (turnP_n _ _ _ _) (Int.le_refl _), ?_⟩, rowS_one hx hk rfl, turnP_n _ _ _ _⟩
  show RInv (turnP h.s x.m k z) (rowL (h.put n (gTurn h.s x k z))) _
  by_cases hc : ((x.m.lf k).there && !(z == 1)) = true
  · have hlf : (gTurn h.s x k z).2.m.lf = setAt x.m.lf k lf0 := by
      show (turnM x.m k z).lf = _
      unfold turnM
      simp only [hc, if_true]
    rw [show h.put n (gTurn h.s x k z) = h.put n ((gTurn h.s x k z).1, (gTurn h.s x k z).2) from rfl, row_one hx hk hlf]
    unfold turnP
    rw [if_pos hc, ← hL]
    exact hr.ri.drop hr.inv.cn (by omega) (by rw [hL]; simp at hc; exact hc.1)
  · have hlf : (gTurn h.s x k z).2.m.lf = x.m.lf := by
      show (turnM x.m k z).lf = _
      unfold turnM
      simp only [hc, Bool.false_eq_true, if_false]
    rw [show h.put n (gTurn h.s x k z) = h.put n ((gTurn h.s x k z).1, (gTurn h.s x k z).2) from rfl, row_same hx hlf]
    unfold turnP
    rw [if_neg hc]
    refine hr.ri.zero ?_
    rw [hL]
    cases ht : (x.m.lf k).there with
    | false => rfl
    | true =>
      exfalso
      have hp := ok.pg.plain hk ht
      rw [ht] at hc
      by_cases e : z = 1
      · exact hz e hp
      · simp [e] at hc
theorem FR.turn (hf : FR n x t f) (s : Pl) {k : Nat} (hk : k < 16) (z : Int) : FR n (gTurn s x k z).2 (setAt t (16 * n + k) fun _ => 0) (fTurn f k z) := by
  refine ⟨fun j hj => ?_, fun j i hj hi => ?_, hf.root, hf.c⟩
  · show setAt f.st k z j = setAt x.m.st k z j
    by_cases e : j = k
    · subst e; rw [setAt_same, setAt_same]
    · rw [setAt_other _ _ _ _ e, setAt_other _ _ _ _ e]; exact hf.st j hj
  · show setAt f.b k (fun _ => 0) j i = _
    by_cases e : j = k
    · subst e; rw [setAt_same, setAt_same]
    · rw [setAt_other _ _ _ _ e, setAt_other _ _ _ _ (by omega)]; exact hf.b j i hj hi
/-- Another guest's view is as it was. -/
theorem FR.other {m : Nat} {y : Gs} {t' : Nat → Nat → Int} (hf : FR m y t f) (ht : ∀ p, p / 16 = m → t' p = t p) : FR m y t' f :=
  ⟨hf.st, fun k i hk hi => by rw [ht (16 * m + k) (by omega)]; exact hf.b k i hk hi, hf.root, hf.c⟩
theorem pln_set (S : Nat → Int) (p : Nat) (z : Int) : ∀ K, p < K → pln (setAt S p z) K + (if S p = 1 then 1 else 0) = pln S K + (if z = 1 then 1 else 0)
  | 0, h => absurd h (by omega)
  | K + 1, h => by
    simp only [pln]
    by_cases e : K = p
    · subst e
      have : pln (setAt S K z) K = pln S K := by
        have aux : ∀ j, j ≤ K → pln (setAt S K z) j = pln S j := by
          intro j
          induction j with
          | zero => intro _; rfl
          | succ j ih => intro hj; simp only [pln]; rw [ih (by omega), setAt_other _ _ _ _ (by omega)]
        exact aux K (Nat.le_refl _)
      rw [this, setAt_same]
      omega
    · have := pln_set S p z K (by omega)
      rw [setAt_other _ _ _ _ e]
      omega
end Go.Proofs.YtadpibcgjgcjhabGreatDoor
