/- The pages of all guests in one row of 64, and the bytes that they have, plainly: what is done to one page keeps. -/
import Derived.Test.YtadpibcgjgcjhabGreatDoorGuR
import Derived.Test.YtadpibcgjgcjhabGreatDoorLvB
namespace Go.Proofs.YtadpibcgjgcjhabGreatDoor
open Go.RowKit

theorem cntTo_congr {l l' : Nat → Lf} (f : Int) : ∀ k, (∀ i, i < k → l i = l' i) → cntTo l f k = cntTo l' f k
  | 0, _ => rfl
  | k + 1, h => by rw [cntTo_succ, cntTo_succ, cntTo_congr f k (fun i hi => h i (by omega)), h k (by omega)]
theorem cntTo_two (L : Nat → Lf) (p q : Nat) (f : Int) : ∀ k, p < k → q < p → (L p).there = true → (L q).there = true → (L p).fr = f → (L q).fr = f → 2 ≤ cntTo L f k
  | 0, h, _, _, _, _, _ => absurd h (by omega)
  | k + 1, h, hq, tp, tq, ep, eq => by
    rw [cntTo_succ]
    by_cases e : k = p
    · subst e
      have := cntTo_pos L q k (by omega) tq
      rw [eq] at this
      have : inIn (L k) f = 1 := by simp [inIn, tp, ep]
      omega
    · have := cntTo_two L p q f k (by omega) hq tp tq ep eq
      omega
/-- The frames' numbers are the pages that are in them. -/
structure Cn (s : Pl) (L : Nat → Lf) : Prop where
  cnt : ∀ f : Nat, f < s.n → s.refs f = cntTo L f 64
  rng : ∀ k, k < 64 → (L k).there = true → 0 ≤ (L k).fr ∧ (L k).fr < s.n
theorem Cn.pos {s : Pl} {L : Nat → Lf} (h : Cn s L) {k : Nat} (hk : k < 64) (ht : (L k).there = true) : 1 ≤ s.refs (L k).fr.toNat := by
  obtain ⟨f0, f1⟩ := h.rng k hk ht
  have h1 := h.cnt (L k).fr.toNat (by omega)
  have h2 := cntTo_pos L k 64 hk ht
  rw [Int.toNat_of_nonneg f0] at h1
  omega
theorem Cn.used {s : Pl} {L : Nat → Lf} (h : Cn s L) {k : Nat} (hk : k < 64) (ht : (L k).there = true) : s.used (L k).fr = true := by
  obtain ⟨f0, f1⟩ := h.rng k hk ht
  have := h.pos hk ht
  exact (s.used_iff _).2 ⟨f0, f1, by omega⟩
/-- One that is alone in its frame. -/
theorem Cn.lone {s : Pl} {L : Nat → Lf} (h : Cn s L) {p q : Nat} (hp : p < 64) (hq : q < 64) (tp : (L p).there = true) (tq : (L q).there = true) (hr : s.refs (L p).fr.toNat = 1) (he : (L q).fr.toNat = (L p).fr.toNat) : q = p := by
  obtain ⟨f0, f1⟩ := h.rng p hp tp
  obtain ⟨g0, g1⟩ := h.rng q hq tq
  have ef : (L q).fr = (L p).fr := by omega
  have h1 := h.cnt (L p).fr.toNat (by omega)
  rw [Int.toNat_of_nonneg f0, hr] at h1
  by_cases e : q = p
  · exact e
  · exfalso
    rcases Nat.lt_or_gt_of_ne e with g | g
    · have := cntTo_two L p q (L p).fr 64 hp g tp tq rfl ef
      omega
    · have := cntTo_two L q p (L p).fr 64 hq g tq tp ef rfl
      omega
theorem Cn.free {s : Pl} {L : Nat → Lf} (h : Cn s L) {j k : Nat} (h0 : s.refs j = 0) (hk : k < 64) (ht : (L k).there = true) : (L k).fr.toNat ≠ j := fun e => by
  have := h.pos hk ht
  rw [e] at this
  omega

/-- Each page has its bytes; where it may be written it is alone. -/
structure RInv (s : Pl) (L : Nat → Lf) (t : Nat → Nat → Int) : Prop where
  one : ∀ k, k < 64 → (L k).there = true → (L k).wr = true → s.refs (L k).fr.toNat = 1
  out : ∀ k, k < 64 → (L k).there = false → ∀ i, i < 16 → t k i = 0
  byt : ∀ k, k < 64 → (L k).there = true → ∀ i, i < 16 → s.byt (L k).fr.toNat i = t k i
/-- A leaf alone turns. -/
theorem RInv.leaf {s : Pl} {L : Nat → Lf} {t : Nat → Nat → Int} (h : RInv s L t) {p : Nat} (hp : p < 64) {l : Lf} (ht : l.there = (L p).there) (hf : l.fr = (L p).fr) (hw : l.there = true → l.wr = true → s.refs l.fr.toNat = 1) : RInv s (setAt L p l) t where
  one := fun k hk => by
    by_cases e : k = p
    · subst e; rw [setAt_same]; exact hw
    · rw [setAt_other _ _ _ _ e]; exact h.one k hk
  out := fun k hk => by
    by_cases e : k = p
    · subst e; rw [setAt_same, ht]; exact h.out k hk
    · rw [setAt_other _ _ _ _ e]; exact h.out k hk
  byt := fun k hk => by
    by_cases e : k = p
    · subst e; rw [setAt_same, ht, hf]; exact h.byt k hk
    · rw [setAt_other _ _ _ _ e]; exact h.byt k hk
theorem RInv.own {s : Pl} {L : Nat → Lf} {t : Nat → Nat → Int} (h : RInv s L t) {p : Nat} (hp : p < 64) (hr : s.refs (L p).fr.toNat = 1) : RInv s (setAt L p { L p with wr := true }) t :=
  h.leaf hp rfl rfl (fun _ _ => hr)
/-- A page comes into a frame that was free. -/
theorem RInv.new {s : Pl} {L : Nat → Lf} {t : Nat → Nat → Int} (h : RInv s L t) (c : Cn s L) {p j : Nat} (hp : p < 64) (ht : (L p).there = false) (h0 : s.refs j = 0) :
    RInv { s with refs := setAt s.refs j 1, byt := setAt s.byt j fun _ => 0 } (setAt L p ⟨true, true, j⟩) t where
  one := fun k hk => by
    by_cases e : k = p
    · subst e; rw [setAt_same]; intro _ _; simp only [Int.toNat_natCast, setAt_same]
    · rw [setAt_other _ _ _ _ e]
      intro t1 w1
      have := c.free h0 hk t1
      simp only [setAt_other _ _ _ _ this]
      exact h.one k hk t1 w1
  out := fun k hk => by
    by_cases e : k = p
    · subst e; rw [setAt_same]; intro t1; simp at t1
    · rw [setAt_other _ _ _ _ e]; exact h.out k hk
  byt := fun k hk => by
    by_cases e : k = p
    · subst e; rw [setAt_same]; intro _ i hi; simp only [Int.toNat_natCast, setAt_same]; exact (h.out k hk ht i hi).symm
    · rw [setAt_other _ _ _ _ e]
      intro t1 i hi
      have := c.free h0 hk t1
      simp only [setAt_other _ _ _ _ this]
      exact h.byt k hk t1 i hi
/-- A page moves. -/
theorem RInv.move {s : Pl} {L : Nat → Lf} {t : Nat → Nat → Int} (h : RInv s L t) (c : Cn s L) {p j : Nat} (hp : p < 64) (ht : (L p).there = true) (hr : s.refs (L p).fr.toNat ≠ 1) (h0 : s.refs j = 0) :
    RInv (({ s with refs := setAt s.refs j 1, byt := setAt (setAt s.byt j fun _ => 0) j (setAt s.byt j (fun _ => 0) (L p).fr.toNat) } : Pl).share (L p).fr (-1)).2 (setAt L p ⟨true, true, j⟩) t := by
  have hfj := c.free h0 hp ht
  obtain ⟨f0, f1⟩ := c.rng p hp ht
  have hu := c.pos hp ht
  rw [share_refs (by
    refine (Pl.used_iff _ _).2 ⟨f0, f1, ?_⟩
    show setAt s.refs j 1 (L p).fr.toNat ≠ 0
    rw [setAt_other _ _ _ _ hfj]; omega)]
  constructor
  · intro k hk
    by_cases e : k = p
    · subst e; rw [setAt_same]; intro _ _; simp only [Int.toNat_natCast]
      rw [setAt_other _ _ _ _ (Ne.symm hfj), setAt_same]
    · rw [setAt_other _ _ _ _ e]
      intro t1 w1
      have h1 := h.one k hk t1 w1
      have h2 := c.free h0 hk t1
      have h3 : (L k).fr.toNat ≠ (L p).fr.toNat := fun q => hr (by rw [← q]; exact h1)
      simp only
      rw [setAt_other _ _ _ _ h3, setAt_other _ _ _ _ h2]
      exact h1
  · intro k hk
    by_cases e : k = p
    · subst e; rw [setAt_same]; intro t1; simp at t1
    · rw [setAt_other _ _ _ _ e]; exact h.out k hk
  · intro k hk
    by_cases e : k = p
    · subst e; rw [setAt_same]; intro _ i hi; simp only [Int.toNat_natCast, setAt_same]
      rw [setAt_other _ _ _ _ hfj]
      exact h.byt k hk ht i hi
    · rw [setAt_other _ _ _ _ e]
      intro t1 i hi
      have := c.free h0 hk t1
      simp only [setAt_other _ _ _ _ this]
      exact h.byt k hk t1 i hi
/-- A page joins another frame, in which none may be written. -/
theorem RInv.join {s : Pl} {L : Nat → Lf} {t : Nat → Nat → Int} (h : RInv s L t) (c : Cn s L) {p : Nat} {f : Int} (hp : p < 64) (ht : (L p).there = true) (hne : (L p).fr ≠ f) (hs : s.same (L p).fr f = true)
    (hw : ∀ k, k < 64 → (L k).there = true → (L k).fr = f → (L k).wr = false) : RInv ((s.share f 1).2.share (L p).fr (-1)).2 (setAt L p ⟨true, false, f⟩) t := by
  have hs' := hs
  unfold Pl.same at hs'
  simp only [Bool.and_eq_true, List.all_eq_true, List.mem_range, beq_iff_eq] at hs'
  obtain ⟨⟨u1, u2⟩, hb⟩ := hs'
  obtain ⟨f0, f1, f2⟩ := (s.used_iff _).1 u1
  obtain ⟨g0, g1, g2⟩ := (s.used_iff _).1 u2
  have hnn : (L p).fr.toNat ≠ f.toNat := by omega
  rw [share_refs u2]
  rw [share_refs (by
    refine (Pl.used_iff _ _).2 ⟨f0, f1, ?_⟩
    show setAt s.refs f.toNat _ (L p).fr.toNat ≠ 0
    rw [setAt_other _ _ _ _ hnn]; exact f2)]
  constructor
  · intro k hk
    by_cases e : k = p
    · subst e; rw [setAt_same]; intro _ w1; simp at w1
    · rw [setAt_other _ _ _ _ e]
      intro t1 w1
      have h1 := h.one k hk t1 w1
      obtain ⟨k0, k1⟩ := c.rng k hk t1
      have h2 : (L k).fr.toNat ≠ f.toNat := fun q => by
        have := hw k hk t1 (by omega)
        rw [this] at w1; simp at w1
      have h3 : (L k).fr.toNat ≠ (L p).fr.toNat := fun q => e (c.lone hk hp t1 ht h1 q.symm).symm
      simp only
      rw [setAt_other _ _ _ _ h3, setAt_other _ _ _ _ h2]
      exact h1
  · intro k hk
    by_cases e : k = p
    · subst e; rw [setAt_same]; intro t1; simp at t1
    · rw [setAt_other _ _ _ _ e]; exact h.out k hk
  · intro k hk
    by_cases e : k = p
    · subst e; rw [setAt_same]; intro _ i hi
      rw [← hb i hi]
      exact h.byt k hk ht i hi
    · rw [setAt_other _ _ _ _ e]
      exact h.byt k hk
/-- A byte of a page that may be written. -/
theorem RInv.set {s : Pl} {L : Nat → Lf} {t : Nat → Nat → Int} (h : RInv s L t) (c : Cn s L) {p i : Nat} {v : Int} (hp : p < 64) (ht : (L p).there = true) (hw : (L p).wr = true) :
    RInv { s with byt := setAt s.byt (L p).fr.toNat (setAt (s.byt (L p).fr.toNat) i v) } L (setAt t p (setAt (t p) i v)) where
  one := h.one
  out := fun k hk t1 j hj => by
    by_cases e : k = p
    · subst e; rw [ht] at t1; simp at t1
    · rw [setAt_other _ _ _ _ e]; exact h.out k hk t1 j hj
  byt := fun k hk t1 j hj => by
    by_cases e : k = p
    · subst e
      simp only [setAt_same]
      unfold setAt
      split
      · rfl
      · exact h.byt k hk t1 j hj
    · have : (L k).fr.toNat ≠ (L p).fr.toNat := fun q => e (c.lone hp hk ht t1 (h.one p hp ht hw) q)
      simp only [setAt_other _ _ _ _ this, setAt_other _ _ _ _ e]
      exact h.byt k hk t1 j hj
/-- What Touch does to a page that is plain. -/
theorem touch_keeps {s : Pl} {m : Mp} {L : Nat → Lf} {t : Nat → Nat → Int} (h : RInv s L t) (c : Cn s L) {k p : Nat} (wt : Bool) (hk : k < 16) (hp : p < 64) (hL : L p = m.lf k) (hs : m.st k = 1) :
    ∃ l, (touchR s m k wt).2.2 = { m with st := m.st, lf := setAt m.lf k l } ∧ RInv (touchR s m k wt).2.1 (setAt L p l) t ∧
      ((touchR s m k wt).1.2.2 = 0 → l.there = true ∧ l.fr = (touchR s m k wt).1.1 ∧ (wt = true → l.wr = true)) := by
  have ho : onB (k : Int) = true := (onB_iff _).2 ⟨by omega, by omega⟩
  have same : setAt m.lf k (m.lf k) = m.lf := setAt_self _ _ _ rfl
  have sameL : setAt L p (m.lf k) = L := setAt_self _ _ _ hL
  unfold touchR
  simp only [ho, if_true, Int.toNat_natCast, hs, show ¬ ((1 : Int) = 0) by omega, show ¬ ((1 : Int) = 2) by omega, if_false]
  split
  · rename_i ha
    refine ⟨m.lf k, by rw [same], by rw [sameL]; exact h, fun _ => ?_⟩
    simp only [Bool.and_eq_true, Bool.or_eq_true, Bool.not_eq_true'] at ha
    exact ⟨ha.1, rfl, fun e => by rcases ha.2 with g | g; (· rw [e] at g; simp at g); (· exact g)⟩
  · rename_i ha
    split
    · rename_i hb
      simp only [Bool.and_eq_true, beq_iff_eq] at hb
      refine ⟨{ m.lf k with wr := true }, rfl, ?_, fun _ => ⟨hb.1, rfl, fun _ => rfl⟩⟩
      rw [← hL]
      exact h.own hp (by rw [hL]; exact hb.2)
    · rename_i hb
      cases hff : firstFrom s.refs 0 s.n with
      | none =>
        rw [take_none hff]
        simp only [show ¬ ((3 : Int) = 0) by omega, if_false]
        exact ⟨m.lf k, by rw [same], by rw [sameL]; exact h, fun e => by simp at e⟩
      | some j =>
        rw [take_some hff]
        simp only [if_true]
        have hsp := firstFrom_spec s.refs s.n 0
        rw [hff] at hsp
        obtain ⟨_, j1, j2, _⟩ := hsp
        refine ⟨⟨true, true, (j : Int)⟩, rfl, ?_, fun _ => ⟨rfl, rfl, fun _ => rfl⟩⟩
        cases ht : (m.lf k).there with
        | false =>
          simp only [Bool.false_eq_true, if_false]
          exact h.new c hp (by rw [hL]; exact ht) j2
        | true =>
          simp only [if_true, Int.toNat_natCast]
          rw [ht] at hb
          have hr : s.refs (L p).fr.toNat ≠ 1 := by
            rw [hL]
            intro e
            exact hb (by simp [e])
          have := h.move c hp (by rw [hL]; exact ht) hr j2
          rw [hL] at this
          exact this
end Go.Proofs.YtadpibcgjgcjhabGreatDoor
