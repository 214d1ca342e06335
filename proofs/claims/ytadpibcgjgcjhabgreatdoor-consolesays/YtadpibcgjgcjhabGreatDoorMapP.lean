/- Two maps of pages on one pool, plainly: each frame has as many pages in it as leaves lead to it; every act keeps that. -/
import Derived.Test.YtadpibcgjgcjhabGreatDoorMapW
namespace Go.Proofs.YtadpibcgjgcjhabGreatDoor
open Go.RowKit

/-- Pages of the first k that are in frame f. -/
def cntTo (lf : Nat → Lf) (f : Int) : Nat → Nat
  | 0 => 0
  | k + 1 => cntTo lf f k + if (lf k).there = true ∧ (lf k).fr = f then 1 else 0
def inIn (l : Lf) (f : Int) : Nat := if l.there = true ∧ l.fr = f then 1 else 0
theorem cntTo_succ (lf : Nat → Lf) (f : Int) (k : Nat) : cntTo lf f (k + 1) = cntTo lf f k + inIn (lf k) f := rfl
theorem cntTo_set_ge (lf : Nat → Lf) (f : Int) (n : Nat) (l : Lf) : ∀ k, k ≤ n → cntTo (setAt lf n l) f k = cntTo lf f k
  | 0, _ => rfl
  | k + 1, h => by
    rw [cntTo_succ, cntTo_succ, cntTo_set_ge lf f n l k (by omega), setAt_other _ _ _ _ (by omega)]
theorem cntTo_set (lf : Nat → Lf) (f : Int) (n : Nat) (l : Lf) : ∀ k, n < k → cntTo (setAt lf n l) f k + inIn (lf n) f = cntTo lf f k + inIn l f
  | 0, h => absurd h (by omega)
  | k + 1, h => by
    rw [cntTo_succ, cntTo_succ]
    by_cases e : k = n
    · subst e
      rw [cntTo_set_ge lf f k l k (Nat.le_refl _), setAt_same]
      omega
    · have := cntTo_set lf f n l k (by omega)
      rw [setAt_other _ _ _ _ e]
      omega
theorem cntTo_le (lf : Nat → Lf) (f : Int) : ∀ k, cntTo lf f k ≤ k
  | 0 => Nat.le_refl _
  | k + 1 => by
    have := cntTo_le lf f k
    rw [cntTo_succ]
    unfold inIn
    split <;> omega
theorem cntTo_pos (lf : Nat → Lf) (n : Nat) : ∀ k, n < k → (lf n).there = true → 1 ≤ cntTo lf (lf n).fr k
  | 0, h, _ => absurd h (by omega)
  | k + 1, h, ht => by
    rw [cntTo_succ]
    by_cases e : k = n
    · subst e
      have : inIn (lf k) (lf k).fr = 1 := by simp [inIn, ht]
      omega
    · have := cntTo_pos lf n k (by omega) ht
      omega
def cnt (m : Mp) (f : Int) : Nat := cntTo m.lf f 16

/-- A page's state is one of three; one that isn't Plain, or is in no frame, has the zero leaf. -/
def Pgs (m : Mp) : Prop := ∀ k, k < 16 → (0 ≤ m.st k ∧ m.st k ≤ 2) ∧ (m.st k ≠ 1 ∨ (m.lf k).there = false → m.lf k = lf0)
theorem Pgs.plain {m : Mp} (h : Pgs m) {k : Nat} (hk : k < 16) (ht : (m.lf k).there = true) : m.st k = 1 := by
  by_cases e : m.st k = 1
  · exact e
  · have := (h k hk).2 (Or.inl e)
    rw [this] at ht
    simp [lf0] at ht
theorem Pgs.zero {m : Mp} (h : Pgs m) {k : Nat} (hk : k < 16) (ht : m.st k ≠ 1) : m.lf k = lf0 := (h k hk).2 (Or.inl ht)
theorem Pgs.out {m : Mp} (h : Pgs m) {k : Nat} (hk : k < 16) (ht : (m.lf k).there = false) : m.lf k = lf0 := (h k hk).2 (Or.inr ht)
theorem Pgs.leaf {m : Mp} (h : Pgs m) {k : Nat} (hs : m.st k = 1) {l : Lf} (ht : l.there = true) : Pgs { m with st := m.st, lf := setAt m.lf k l } := by
  intro i hi
  refine ⟨(h i hi).1, ?_⟩
  by_cases e : i = k
  · subst e
    simp only [setAt_same]
    rintro (c | c)
    · exact absurd hs c
    · rw [ht] at c; exact absurd c (by simp)
  · simp only [setAt_other _ _ _ _ e]
    exact (h i hi).2
theorem Pgs.turn {m : Mp} (h : Pgs m) {k : Nat} {z : Int} (z0 : 0 ≤ z) (z2 : z ≤ 2) : Pgs (turnM m k z) := by
  intro i hi
  unfold turnM
  by_cases e : i = k
  · subst e
    refine ⟨by simp only [setAt_same]; exact ⟨z0, z2⟩, ?_⟩
    cases ht : (m.lf i).there with
    | false =>
      simp only [Bool.false_and, Bool.false_eq_true, if_false]
      intro _
      exact h.out hi ht
    | true =>
      by_cases ez : z = 1
      · subst ez
        simp [setAt_same, ht]
      · simp [setAt_same, ez]
  · refine ⟨by simp only [setAt_other _ _ _ _ e]; exact (h i hi).1, ?_⟩
    simp only [setAt_other _ _ _ _ e]
    split
    · simp only [setAt_other _ _ _ _ e]; exact (h i hi).2
    · exact (h i hi).2
theorem Pgs.start : Pgs mp0 := fun _ _ => ⟨by simp [mp0], fun _ => rfl⟩

/-- What holds of a pool and a map on it; b: the other pages on that pool, 48 of them in one row. -/
structure Inv (s : Pl) (a b : Mp) : Prop where
  pa : Pgs a
  cnt : ∀ f : Nat, f < s.n → s.refs f = cnt a f + cntTo b.lf f 48
  ina : ∀ k, k < 16 → (a.lf k).there = true → 0 ≤ (a.lf k).fr ∧ (a.lf k).fr < s.n
theorem Inv.le {s : Pl} {a b : Mp} (h : Inv s a b) : ∀ f, f < s.n → s.refs f ≤ 64 := fun f hf => by
  have := h.cnt f hf
  have := cntTo_le a.lf f 16
  have := cntTo_le b.lf f 48
  simp only [Go.Proofs.YtadpibcgjgcjhabGreatDoor.cnt] at *
  omega
theorem Inv.ok {s : Pl} {a b : Mp} (h : Inv s a b) : LfOk s a := fun k hk ht => by
  obtain ⟨h0, h1⟩ := h.ina k hk ht
  refine ⟨h0, h1, ?_⟩
  have := h.cnt (a.lf k).fr.toNat (by omega)
  have := cntTo_pos a.lf k 16 hk ht
  simp only [Go.Proofs.YtadpibcgjgcjhabGreatDoor.cnt, Int.toNat_of_nonneg h0] at *
  omega
theorem Inv.used {s : Pl} {a b : Mp} (h : Inv s a b) {k : Nat} (hk : k < 16) (ht : (a.lf k).there = true) : s.used (a.lf k).fr = true := by
  obtain ⟨h0, h1, h2⟩ := h.ok k hk ht
  exact (s.used_iff _).2 ⟨h0, h1, h2⟩
/-- A leaf turns: the frames' numbers turn with it. -/
theorem Inv.leaf {s : Pl} {a b : Mp} (h : Inv s a b) {k : Nat} (hk : k < 16) (l : Lf) (st : Nat → Int) (refs : Nat → Int) (byt : Nat → Nat → Int) (hl : l.there = true → 0 ≤ l.fr ∧ l.fr < s.n)
    (hr : ∀ f : Nat, f < s.n → refs f + inIn (a.lf k) f = s.refs f + inIn l f) (hq : Pgs { a with st := st, lf := setAt a.lf k l }) : Inv { s with refs := refs, byt := byt } { a with st := st, lf := setAt a.lf k l } b where
  pa := hq
  cnt := fun f hf => by
    have h1 := h.cnt f hf
    have h2 := cntTo_set a.lf f k l 16 hk
    have h3 := hr f hf
    simp only [Go.Proofs.YtadpibcgjgcjhabGreatDoor.cnt] at *
    omega
  ina := fun i hi ht => by
    by_cases e : i = k
    · subst e; simp only [setAt_same] at ht ⊢; exact hl ht
    · simp only [setAt_other _ _ _ _ e] at ht ⊢; exact h.ina i hi ht
theorem Inv.same {s : Pl} {a b : Mp} (h : Inv s a b) (byt : Nat → Nat → Int) (st : Nat → Int) (hq : Pgs { a with st := st }) : Inv { s with byt := byt } { a with st := st } b := ⟨hq, h.cnt, h.ina⟩

theorem inIn_lf0 (f : Int) : inIn lf0 f = 0 := by simp [inIn, lf0]
/-- A share or a drop of a used frame, at each number. -/
theorem share_refs {s : Pl} {f d : Int} (hu : s.used f = true) : (s.share f d).2 = { s with refs := setAt s.refs f.toNat (s.refs f.toNat + d) } := by
  unfold Pl.share; rw [if_pos hu]
theorem Inv.turn {s : Pl} {a b : Mp} (h : Inv s a b) {k : Nat} (hk : k < 16) (z : Int) (z0 : 0 ≤ z) (z2 : z ≤ 2) : Inv (turnP s a k z) (turnM a k z) b := by
  have hq := h.pa.turn (k := k) z0 z2
  revert hq
  unfold turnP turnM
  intro hq
  cases ht : ((a.lf k).there && !(z == 1)) with
  | false =>
    rw [ht] at hq
    simp only [Bool.false_eq_true, if_false] at hq ⊢
    exact h.same s.byt _ hq
  | true =>
    rw [ht] at hq
    simp only [if_true] at hq ⊢
    have ht' := ht
    simp only [Bool.and_eq_true] at ht'
    obtain ⟨f0, f1⟩ := h.ina k hk ht'.1
    rw [share_refs (h.used hk ht'.1)]
    refine h.leaf hk lf0 _ _ s.byt (fun e => by simp [lf0] at e) ?_ hq
    intro f hf
    rw [inIn_lf0]
    by_cases e : f = (a.lf k).fr.toNat
    · subst e
      have : inIn (a.lf k) (((a.lf k).fr.toNat : Nat) : Int) = 1 := by rw [Int.toNat_of_nonneg f0]; simp [inIn, ht'.1]
      rw [setAt_same]
      omega
    · have : inIn (a.lf k) (f : Int) = 0 := by
        unfold inIn
        rw [if_neg]
        rintro ⟨_, e2⟩
        omega
      rw [setAt_other _ _ _ _ e]
      omega
theorem turnM_b {s : Pl} {a b : Mp} (h : Inv s a b) {n : Int} {z : Int} (ho : onB n = true) (z0 : 0 ≤ z := by omega) (z2 : z ≤ 2 := by omega) : Inv (turnP s a n.toNat z) (turnM a n.toNat z) b :=
  h.turn (by have := (onB_iff n).1 ho; omega) z z0 z2
theorem Inv.plug {s : Pl} {a b : Mp} (h : Inv s a b) (n : Int) : Inv (plugR s a n).2.1 (plugR s a n).2.2 b := by
  unfold plugR
  split
  · rename_i ho
    split
    · exact turnM_b h ho
    · exact h
  · exact h
theorem Inv.unplug {s : Pl} {a b : Mp} (h : Inv s a b) (n : Int) : Inv (unplugR s a n).2.1 (unplugR s a n).2.2 b := by
  unfold unplugR
  split
  · rename_i ho
    split
    · exact h
    · exact turnM_b h ho
  · exact h
theorem Inv.give {s : Pl} {a b : Mp} (h : Inv s a b) (n : Int) (back : Bool) : Inv (giveR s a n back).2.1 (giveR s a n back).2.2 b := by
  unfold giveR
  split
  · rename_i ho
    split
    · split
      · exact turnM_b h ho
      · exact h
    · split
      · exact turnM_b h ho
      · exact h
  · exact h
theorem Inv.wr {s : Pl} {a b : Mp} (h : Inv s a b) {k : Nat} (hk : k < 16) (v : Bool) (ht : (a.lf k).there = true) : Inv s { a with lf := setAt a.lf k { a.lf k with wr := v } } b :=
  h.leaf hk { a.lf k with wr := v } a.st s.refs s.byt (fun e => h.ina k hk e) (fun _ _ => rfl) (h.pa.leaf (h.pa.plain hk ht) ht)
theorem Inv.seal {s : Pl} {a b : Mp} (h : Inv s a b) (n : Int) : Inv s (sealR a n).2 b := by
  unfold sealR
  split
  · rename_i ho
    split
    · rename_i ht; exact h.wr (by have := (onB_iff n).1 ho; omega) false ht
    · exact h
  · exact h
theorem inIn_at {l : Lf} {f : Nat} (ht : l.there = true) (h0 : 0 ≤ l.fr) : inIn l (f : Int) = if f = l.fr.toNat then 1 else 0 := by
  unfold inIn
  by_cases e : f = l.fr.toNat
  · rw [if_pos e, if_pos ⟨ht, by omega⟩]
  · rw [if_neg e, if_neg (fun c => e (by omega))]
theorem inIn_no {l : Lf} {f : Int} (ht : l.there = false) : inIn l f = 0 := by simp [inIn, ht]
theorem setAt_if (g : Nat → Int) (k i : Nat) (v : Int) : setAt g k v i = if i = k then v else g i := rfl
theorem Inv.touch {s : Pl} {a b : Mp} (h : Inv s a b) (n : Int) (wt : Bool) : Inv (touchR s a n wt).2.1 (touchR s a n wt).2.2 b := by
  unfold touchR
  split
  · rename_i ho
    have hk : n.toNat < 16 := by have := (onB_iff n).1 ho; omega
    generalize n.toNat = k at hk
    split
    · exact h
    · rename_i hs0
      split
      · exact h
      · rename_i hs2
        have hst : a.st k = 1 := by have := (h.pa k hk).1; omega
        split
        · exact h
        · split
          · rename_i ha
            exact h.wr hk true (by simp only [Bool.and_eq_true] at ha; exact ha.1)
          · cases hff : firstFrom s.refs 0 s.n with
            | none =>
              rw [take_none hff]
              rw [if_neg (show ¬ ((3 : Int) = 0) by omega)]
              exact h
            | some j =>
              rw [take_some hff]
              rw [if_pos rfl]
              have hs := firstFrom_spec s.refs s.n 0
              rw [hff] at hs
              obtain ⟨_, j1, j2, _⟩ := hs
              have lj : (⟨true, true, (j : Int)⟩ : Lf).there = true := rfl
              cases ht : (a.lf k).there with
              | false =>
                simp only [Bool.false_eq_true, if_false]
                refine h.leaf hk ⟨true, true, (j : Int)⟩ a.st _ _ (fun _ => ⟨by show (0 : Int) ≤ (j : Int); omega, by show (j : Int) < s.n; omega⟩) ?_ (h.pa.leaf hst rfl)
                intro f hf
                rw [inIn_no ht, inIn_at lj (by show (0 : Int) ≤ (j : Int); omega), setAt_if]
                simp only [Int.toNat_natCast]
                split
                · rename_i e; subst e; omega
                · omega
              | true =>
                obtain ⟨f0, f1, f2⟩ := h.ok k hk ht
                have hne : (a.lf k).fr.toNat ≠ j := fun e => f2 (by rw [e]; exact j2)
                simp only [if_true]
                rw [share_refs (by
                  refine (Pl.used_iff _ _).2 ⟨f0, f1, ?_⟩
                  show setAt s.refs j 1 (a.lf k).fr.toNat ≠ 0
                  rw [setAt_other _ _ _ _ hne]; exact f2)]
                refine h.leaf hk ⟨true, true, (j : Int)⟩ a.st _ _ (fun _ => ⟨by show (0 : Int) ≤ (j : Int); omega, by show (j : Int) < s.n; omega⟩) ?_ (h.pa.leaf hst rfl)
                intro f hf
                rw [inIn_at ht f0, inIn_at lj (by show (0 : Int) ≤ (j : Int); omega)]
                simp only [Int.toNat_natCast, setAt_if]
                by_cases e1 : f = (a.lf k).fr.toNat
                · rw [if_pos e1, if_pos e1, if_neg (by omega), if_neg (by omega), ← e1]; omega
                · rw [if_neg e1, if_neg e1]
                  by_cases e2 : f = j
                  · rw [if_pos e2, if_pos e2, e2, j2]; omega
                  · rw [if_neg e2, if_neg e2]
  · exact h
theorem Inv.join {s : Pl} {a b : Mp} (h : Inv s a b) (n f : Int) : Inv (joinR s a n f).2.1 (joinR s a n f).2.2 b := by
  unfold joinR
  split
  · rename_i ho
    have hk : n.toNat < 16 := by have := (onB_iff n).1 ho; omega
    generalize n.toNat = k at hk
    split
    · rename_i hc
      simp only [Bool.and_eq_true, Bool.not_eq_true', beq_eq_false_iff_ne, ne_eq] at hc
      obtain ⟨⟨ht, hne⟩, hs⟩ := hc
      obtain ⟨f0, f1, f2⟩ := h.ok k hk ht
      have hu : s.used f = true := by
        unfold Pl.same at hs
        simp only [Bool.and_eq_true] at hs
        exact hs.1.2
      obtain ⟨g0, g1, g2⟩ := (s.used_iff f).1 hu
      have hnn : (a.lf k).fr.toNat ≠ f.toNat := by omega
      rw [share_refs hu]
      rw [share_refs (by
        refine (Pl.used_iff _ _).2 ⟨f0, f1, ?_⟩
        show setAt s.refs f.toNat _ (a.lf k).fr.toNat ≠ 0
        rw [setAt_other _ _ _ _ hnn]; exact f2)]
      refine h.leaf hk ⟨true, false, f⟩ a.st _ s.byt (fun _ => ⟨g0, g1⟩) ?_ (h.pa.leaf (h.pa.plain hk ht) rfl)
      intro i hi
      rw [inIn_at ht f0, inIn_at (l := ⟨true, false, f⟩) rfl g0]
      simp only [setAt_if]
      by_cases e1 : i = (a.lf k).fr.toNat
      · rw [if_pos e1, if_pos e1, if_neg (by omega), if_neg (by omega), ← e1]; omega
      · rw [if_neg e1, if_neg e1]
        by_cases e2 : i = f.toNat
        · rw [if_pos e2, if_pos e2, e2]; omega
        · rw [if_neg e2, if_neg e2]
    · exact h
  · exact h
theorem Inv.set {s : Pl} {a b : Mp} (h : Inv s a b) (f i v : Int) : Inv (s.set f i v).2 a b := by
  unfold Pl.set
  split
  · exact h
  · split
    · split
      · exact h
      · exact h.same _ a.st h.pa
    · exact h
theorem plug_n (s : Pl) (m : Mp) (n : Int) : (plugR s m n).2.1.n = s.n := by
  unfold plugR turnP
  split
  · split
    · split
      · exact share_n _ _ _
      · rfl
    · rfl
  · rfl
theorem unplug_n (s : Pl) (m : Mp) (n : Int) : (unplugR s m n).2.1.n = s.n := by
  unfold unplugR turnP
  split
  · split
    · rfl
    · split
      · exact share_n _ _ _
      · rfl
  · rfl
theorem give_n (s : Pl) (m : Mp) (n : Int) (b : Bool) : (giveR s m n b).2.1.n = s.n := by
  unfold giveR turnP
  split
  · split
    · split
      · split
        · exact share_n _ _ _
        · rfl
      · rfl
    · split
      · split
        · exact share_n _ _ _
        · rfl
      · rfl
  · rfl
theorem touch_n (s : Pl) (m : Mp) (n : Int) (wt : Bool) : (touchR s m n wt).2.1.n = s.n := by
  unfold touchR
  split
  · split
    · rfl
    · split
      · rfl
      · split
        · rfl
        · split
          · rfl
          · split
            · simp only
              split
              · rw [share_n]; exact take_n s
              · exact take_n s
            · rfl
  · rfl
theorem join_n (s : Pl) (m : Mp) (n f : Int) : (joinR s m n f).2.1.n = s.n := by
  unfold joinR
  split
  · split
    · simp only [share_n]
    · rfl
  · rfl
end Go.Proofs.YtadpibcgjgcjhabGreatDoor
