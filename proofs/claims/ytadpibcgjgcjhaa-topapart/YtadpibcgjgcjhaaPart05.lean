/- Two maps of pages on one pool, plainly: each frame has as many pages in it as leaves lead to it; every act keeps that. -/
import Derived.Test.YtadpibcgjgcjhaaPart04
import Derived.Test.YtadpibcgjgcjhaaPart03
import Derived.Deep.AppendLies
namespace Go.Proofs.Ytadpibcgjgcjhaa
open Go.RowKit

/-- Pages of the first k that are in frame f. -/
def cntTo (lf : Nat → Lf) (f : Int) : Nat → Nat
  | 0 => 0
  | k + 1 => cntTo lf f k + if (lf k).there = true ∧ (lf k).fr = f then 1 else 0
def inIn (l : Lf) (f : Int) : Nat := if l.there = true ∧ l.fr = f then 1 else 0
theorem cntTo_succ (lf : Nat → Lf) (f : Int) (k : Nat) : cntTo lf f (k + 1) = cntTo lf f k + inIn (lf k) f := rfl
theorem cntTo_set_ge (lf : Nat → Lf) (f : Int) (n : Nat) (l : Lf) : ∀ k, k ≤ n → cntTo (setAt lf n l) f k = cntTo lf f k
  | 0, _ => rfl
  | k + 1, h => by
    rw [cntTo_succ, cntTo_succ, cntTo_set_ge lf f n l k (by omega), setAt_other _ _ _ _ (by omega)]
theorem cntTo_set (lf : Nat → Lf) (f : Int) (n : Nat) (l : Lf) : ∀ k, n < k → cntTo (setAt lf n l) f k + inIn (lf n) f = cntTo lf f k + inIn l f
  | 0, h => absurd h (by omega)
  | k + 1, h => by
    rw [cntTo_succ, cntTo_succ]
    by_cases e : k = n
    · subst e
      rw [cntTo_set_ge lf f k l k (Nat.le_refl _), setAt_same]
      omega
    · have := cntTo_set lf f n l k (by omega)
      rw [setAt_other _ _ _ _ e]
      omega
theorem cntTo_le (lf : Nat → Lf) (f : Int) : ∀ k, cntTo lf f k ≤ k
  | 0 => Nat.le_refl _
  | k + 1 => by
    have := cntTo_le lf f k
    rw [cntTo_succ]
    unfold inIn
    split <;> omega
theorem cntTo_pos (lf : Nat → Lf) (n : Nat) : ∀ k, n < k → (lf n).there = true → 1 ≤ cntTo lf (lf n).fr k
  | 0, h, _ => absurd h (by omega)
  | k + 1, h, ht => by
    rw [cntTo_succ]
    by_cases e : k = n
    · subst e
      have : inIn (lf k) (lf k).fr = 1 := by simp [inIn, ht]
      omega
    · have := cntTo_pos lf n k (by omega) ht
      omega
def cnt (m : Mp) (f : Int) : Nat := cntTo m.lf f 16

/-- A page's state is one of three; one that isn't Plain, or is in no frame, has the zero leaf. -/
def Pgs (m : Mp) : Prop := ∀ k, k < 16 → (0 ≤ m.st k ∧ m.st k ≤ 2) ∧ (m.st k ≠ 1 ∨ (m.lf k).there = false → m.lf k = lf0)
theorem Pgs.plain {m : Mp} (h : Pgs m) {k : Nat} (hk : k < 16) (ht : (m.lf k).there = true) : m.st k = 1 := by
  by_cases e : m.st k = 1
  · exact e
  · have := (h k hk).2 (Or.inl e)
    rw [this] at ht
    simp [lf0] at ht
theorem Pgs.zero {m : Mp} (h : Pgs m) {k : Nat} (hk : k < 16) (ht : m.st k ≠ 1) : m.lf k = lf0 := (h k hk).2 (Or.inl ht)
theorem Pgs.out {m : Mp} (h : Pgs m) {k : Nat} (hk : k < 16) (ht : (m.lf k).there = false) : m.lf k = lf0 := (h k hk).2 (Or.inr ht)
theorem Pgs.leaf {m : Mp} (h : Pgs m) {k : Nat} (hs : m.st k = 1) {l : Lf} (ht : l.there = true) : Pgs { m with st := m.st, lf := setAt m.lf k l } := by
  intro i hi
  refine ⟨(h i hi).1, ?_⟩
  by_cases e : i = k
  · subst e
    simp only [setAt_same]
    rintro (c | c)
    · exact absurd hs c
    · rw [ht] at c; exact absurd c (by simp)
  · simp only [setAt_other _ _ _ _ e]
    exact (h i hi).2
theorem Pgs.turn {m : Mp} (h : Pgs m) {k : Nat} {z : Int} (z0 : 0 ≤ z) (z2 : z ≤ 2) : Pgs (turnM m k z) := by
  intro i hi
  unfold turnM
  by_cases e : i = k
  · subst e
    refine ⟨by simp only [setAt_same]; exact ⟨z0, z2⟩, ?_⟩
    cases ht : (m.lf i).there with
    | false =>
      simp only [Bool.false_and, Bool.false_eq_true, if_false]
      intro _
      exact h.out hi ht
    | true =>
      by_cases ez : z = 1
      · subst ez
        simp [setAt_same, ht]
      · simp [setAt_same, ez]
  · refine ⟨by simp only [setAt_other _ _ _ _ e]; exact (h i hi).1, ?_⟩
    simp only [setAt_other _ _ _ _ e]
    split
    · simp only [setAt_other _ _ _ _ e]; exact (h i hi).2
    · exact (h i hi).2
theorem Pgs.start : Pgs mp0 := fun _ _ => ⟨by simp [mp0], fun _ => rfl⟩

/-- What holds of a pool and a map on it; b: the other pages on that pool, 48 of them in one row. -/
structure Inv (s : Pl) (a b : Mp) : Prop where
  pa : Pgs a
  cnt : ∀ f : Nat, f < s.n → s.refs f = cnt a f + cntTo b.lf f 48
  ina : ∀ k, k < 16 → (a.lf k).there = true → 0 ≤ (a.lf k).fr ∧ (a.lf k).fr < s.n
theorem Inv.le {s : Pl} {a b : Mp} (h : Inv s a b) : ∀ f, f < s.n → s.refs f ≤ 64 := fun f hf => by
  have := h.cnt f hf
  have := cntTo_le a.lf f 16
  have := cntTo_le b.lf f 48
  simp only [Go.Proofs.Ytadpibcgjgcjhaa.cnt] at *
  omega
theorem Inv.ok {s : Pl} {a b : Mp} (h : Inv s a b) : LfOk s a := fun k hk ht => by
  obtain ⟨h0, h1⟩ := h.ina k hk ht
  refine ⟨h0, h1, ?_⟩
  have := h.cnt (a.lf k).fr.toNat (by omega)
  have := cntTo_pos a.lf k 16 hk ht
  simp only [Go.Proofs.Ytadpibcgjgcjhaa.cnt, Int.toNat_of_nonneg h0] at *
  omega
theorem Inv.used {s : Pl} {a b : Mp} (h : Inv s a b) {k : Nat} (hk : k < 16) (ht : (a.lf k).there = true) : s.used (a.lf k).fr = true := by
  obtain ⟨h0, h1, h2⟩ := h.ok k hk ht
  exact (s.used_iff _).2 ⟨h0, h1, h2⟩
theorem Inv.start (n : Nat) : Inv (pl0 n) mp0 mp0 where
  pa := Pgs.start
  cnt := fun f _ => by
    have : ∀ k, cntTo mp0.lf (f : Int) k = 0 := by
      intro k
      induction k with
      | zero => rfl
      | succ k ih => rw [cntTo_succ, ih]; simp [inIn, mp0, lf0]
    simp [pl0, Go.Proofs.Ytadpibcgjgcjhaa.cnt, this]
  ina := fun k _ ht => by simp [mp0, lf0] at ht

/-- A leaf turns: the frames' numbers turn with it. -/
theorem Inv.leaf {s : Pl} {a b : Mp} (h : Inv s a b) {k : Nat} (hk : k < 16) (l : Lf) (st : Nat → Int) (refs : Nat → Int) (byt : Nat → Nat → Int) (hl : l.there = true → 0 ≤ l.fr ∧ l.fr < s.n)
    (hr : ∀ f : Nat, f < s.n → refs f + inIn (a.lf k) f = s.refs f + inIn l f) (hq : Pgs { a with st := st, lf := setAt a.lf k l }) : Inv { s with refs := refs, byt := byt } { a with st := st, lf := setAt a.lf k l } b where
  pa := hq
  cnt := fun f hf => by
    have h1 := h.cnt f hf
    have h2 := cntTo_set a.lf f k l 16 hk
    have h3 := hr f hf
    simp only [Go.Proofs.Ytadpibcgjgcjhaa.cnt] at *
    omega
  ina := fun i hi ht => by
    by_cases e : i = k
    · subst e; simp only [setAt_same] at ht ⊢; exact hl ht
    · simp only [setAt_other _ _ _ _ e] at ht ⊢; exact h.ina i hi ht
theorem Inv.same {s : Pl} {a b : Mp} (h : Inv s a b) (byt : Nat → Nat → Int) (st : Nat → Int) (hq : Pgs { a with st := st }) : Inv { s with byt := byt } { a with st := st } b := ⟨hq, h.cnt, h.ina⟩

theorem inIn_lf0 (f : Int) : inIn lf0 f = 0 := by simp [inIn, lf0]
/-- A share or a drop of a used frame, at each number. -/
theorem share_refs {s : Pl} {f d : Int} (hu : s.used f = true) : (s.share f d).2 = { s with refs := setAt s.refs f.toNat (s.refs f.toNat + d) } := by
  unfold Pl.share; rw [if_pos hu]
theorem Inv.turn {s : Pl} {a b : Mp} (h : Inv s a b) {k : Nat} (hk : k < 16) (z : Int) (z0 : 0 ≤ z) (z2 : z ≤ 2) : Inv (turnP s a k z) (turnM a k z) b := by
  have hq := h.pa.turn (k := k) z0 z2
  revert hq
  unfold turnP turnM
  intro hq
  cases ht : ((a.lf k).there && !(z == 1)) with
  | false =>
    rw [ht] at hq
    simp only [Bool.false_eq_true, if_false] at hq ⊢
    exact h.same s.byt _ hq
  | true =>
    rw [ht] at hq
    simp only [if_true] at hq ⊢
    have ht' := ht
    simp only [Bool.and_eq_true] at ht'
    obtain ⟨f0, f1⟩ := h.ina k hk ht'.1
    rw [share_refs (h.used hk ht'.1)]
    refine h.leaf hk lf0 _ _ s.byt (fun e => by simp [lf0] at e) ?_ hq
    intro f hf
    rw [inIn_lf0]
    by_cases e : f = (a.lf k).fr.toNat
    · subst e
      have : inIn (a.lf k) (((a.lf k).fr.toNat : Nat) : Int) = 1 := by rw [Int.toNat_of_nonneg f0]; simp [inIn, ht'.1]
      rw [setAt_same]
      omega
    · have : inIn (a.lf k) (f : Int) = 0 := by
        unfold inIn
        rw [if_neg]
        rintro ⟨_, e2⟩
        omega
      rw [setAt_other _ _ _ _ e]
      omega
theorem turnM_b {s : Pl} {a b : Mp} (h : Inv s a b) {n : Int} {z : Int} (ho : onB n = true) (z0 : 0 ≤ z := by omega) (z2 : z ≤ 2 := by omega) : Inv (turnP s a n.toNat z) (turnM a n.toNat z) b :=
  h.turn (by have := (onB_iff n).1 ho; omega) z z0 z2
theorem Inv.plug {s : Pl} {a b : Mp} (h : Inv s a b) (n : Int) : Inv (plugR s a n).2.1 (plugR s a n).2.2 b := by
  unfold plugR
  split
  · rename_i ho
    split
    · exact turnM_b h ho
    · exact h
  · exact h
theorem Inv.unplug {s : Pl} {a b : Mp} (h : Inv s a b) (n : Int) : Inv (unplugR s a n).2.1 (unplugR s a n).2.2 b := by
  unfold unplugR
  split
  · rename_i ho
    split
    · exact h
    · exact turnM_b h ho
  · exact h
theorem Inv.give {s : Pl} {a b : Mp} (h : Inv s a b) (n : Int) (back : Bool) : Inv (giveR s a n back).2.1 (giveR s a n back).2.2 b := by
  unfold giveR
  split
  · rename_i ho
    split
    · split
      · exact turnM_b h ho
      · exact h
    · split
      · exact turnM_b h ho
      · exact h
  · exact h
theorem Inv.wr {s : Pl} {a b : Mp} (h : Inv s a b) {k : Nat} (hk : k < 16) (v : Bool) (ht : (a.lf k).there = true) : Inv s { a with lf := setAt a.lf k { a.lf k with wr := v } } b :=
  h.leaf hk { a.lf k with wr := v } a.st s.refs s.byt (fun e => h.ina k hk e) (fun _ _ => rfl) (h.pa.leaf (h.pa.plain hk ht) ht)
theorem Inv.seal {s : Pl} {a b : Mp} (h : Inv s a b) (n : Int) : Inv s (sealR a n).2 b := by
  unfold sealR
  split
  · rename_i ho
    split
    · rename_i ht; exact h.wr (by have := (onB_iff n).1 ho; omega) false ht
    · exact h
  · exact h
theorem inIn_at {l : Lf} {f : Nat} (ht : l.there = true) (h0 : 0 ≤ l.fr) : inIn l (f : Int) = if f = l.fr.toNat then 1 else 0 := by
  unfold inIn
  by_cases e : f = l.fr.toNat
  · rw [if_pos e, if_pos ⟨ht, by omega⟩]
  · rw [if_neg e, if_neg (fun c => e (by omega))]
theorem inIn_no {l : Lf} {f : Int} (ht : l.there = false) : inIn l f = 0 := by simp [inIn, ht]
theorem setAt_if (g : Nat → Int) (k i : Nat) (v : Int) : setAt g k v i = if i = k then v else g i := rfl
theorem Inv.touch {s : Pl} {a b : Mp} (h : Inv s a b) (n : Int) (wt : Bool) : Inv (touchR s a n wt).2.1 (touchR s a n wt).2.2 b := by
  unfold touchR
  split
  · rename_i ho
    have hk : n.toNat < 16 := by have := (onB_iff n).1 ho; omega
    generalize n.toNat = k at hk
    split
    · exact h
    · rename_i hs0
      split
      · exact h
      · rename_i hs2
        have hst : a.st k = 1 := by have := (h.pa k hk).1; omega
        split
        · exact h
        · split
          · rename_i ha
            exact h.wr hk true (by simp only [Bool.and_eq_true] at ha; exact ha.1)
          · cases hff : firstFrom s.refs 0 s.n with
            | none =>
              rw [take_none hff]
              rw [if_neg (show ¬ ((3 : Int) = 0) by omega)]
              exact h
            | some j =>
              rw [take_some hff]
              rw [if_pos rfl]
              have hs := firstFrom_spec s.refs s.n 0
              rw [hff] at hs
              obtain ⟨_, j1, j2, _⟩ := hs
              have lj : (⟨true, true, (j : Int)⟩ : Lf).there = true := rfl
              cases ht : (a.lf k).there with
              | false =>
                simp only [Bool.false_eq_true, if_false]
                refine h.leaf hk ⟨true, true, (j : Int)⟩ a.st _ _ (fun _ => ⟨by show (0 : Int) ≤ (j : Int); omega, by show (j : Int) < s.n; omega⟩) ?_ (h.pa.leaf hst rfl)
                intro f hf
                rw [inIn_no ht, inIn_at lj (by show (0 : Int) ≤ (j : Int); omega), setAt_if]
                simp only [Int.toNat_natCast]
                split
                · rename_i e; subst e; omega
                · omega
              | true =>
                obtain ⟨f0, f1, f2⟩ := h.ok k hk ht
                have hne : (a.lf k).fr.toNat ≠ j := fun e => f2 (by rw [e]; exact j2)
                simp only [if_true]
                rw [share_refs (by
                  refine (Pl.used_iff _ _).2 ⟨f0, f1, ?_⟩
                  show setAt s.refs j 1 (a.lf k).fr.toNat ≠ 0
                  rw [setAt_other _ _ _ _ hne]; exact f2)]
                refine h.leaf hk ⟨true, true, (j : Int)⟩ a.st _ _ (fun _ => ⟨by show (0 : Int) ≤ (j : Int); omega, by show (j : Int) < s.n; omega⟩) ?_ (h.pa.leaf hst rfl)
                intro f hf
                rw [inIn_at ht f0, inIn_at lj (by show (0 : Int) ≤ (j : Int); omega)]
                simp only [Int.toNat_natCast, setAt_if]
                by_cases e1 : f = (a.lf k).fr.toNat
                · rw [if_pos e1, if_pos e1, if_neg (by omega), if_neg (by omega), ← e1]; omega
                · rw [if_neg e1, if_neg e1]
                  by_cases e2 : f = j
                  · rw [if_pos e2, if_pos e2, e2, j2]; omega
                  · rw [if_neg e2, if_neg e2]
  · exact h
theorem Inv.join {s : Pl} {a b : Mp} (h : Inv s a b) (n f : Int) : Inv (joinR s a n f).2.1 (joinR s a n f).2.2 b := by
  unfold joinR
  split
  · rename_i ho
    have hk : n.toNat < 16 := by have := (onB_iff n).1 ho; omega
    generalize n.toNat = k at hk
    split
    · rename_i hc
      simp only [Bool.and_eq_true, Bool.not_eq_true', beq_eq_false_iff_ne, ne_eq] at hc
      obtain ⟨⟨ht, hne⟩, hs⟩ := hc
      obtain ⟨f0, f1, f2⟩ := h.ok k hk ht
      have hu : s.used f = true := by
        unfold Pl.same at hs
        simp only [Bool.and_eq_true] at hs
        exact hs.1.2
      obtain ⟨g0, g1, g2⟩ := (s.used_iff f).1 hu
      have hnn : (a.lf k).fr.toNat ≠ f.toNat := by omega
      rw [share_refs hu]
      rw [share_refs (by
        refine (Pl.used_iff _ _).2 ⟨f0, f1, ?_⟩
        show setAt s.refs f.toNat _ (a.lf k).fr.toNat ≠ 0
        rw [setAt_other _ _ _ _ hnn]; exact f2)]
      refine h.leaf hk ⟨true, false, f⟩ a.st _ s.byt (fun _ => ⟨g0, g1⟩) ?_ (h.pa.leaf (h.pa.plain hk ht) rfl)
      intro i hi
      rw [inIn_at ht f0, inIn_at (l := ⟨true, false, f⟩) rfl g0]
      simp only [setAt_if]
      by_cases e1 : i = (a.lf k).fr.toNat
      · rw [if_pos e1, if_pos e1, if_neg (by omega), if_neg (by omega), ← e1]; omega
      · rw [if_neg e1, if_neg e1]
        by_cases e2 : i = f.toNat
        · rw [if_pos e2, if_pos e2, e2]; omega
        · rw [if_neg e2, if_neg e2]
    · exact h
  · exact h
theorem Inv.set {s : Pl} {a b : Mp} (h : Inv s a b) (f i v : Int) : Inv (s.set f i v).2 a b := by
  unfold Pl.set
  split
  · exact h
  · split
    · split
      · exact h
      · exact h.same _ a.st h.pa
    · exact h
theorem plug_n (s : Pl) (m : Mp) (n : Int) : (plugR s m n).2.1.n = s.n := by
  unfold plugR turnP
  split
  · split
    · split
      · exact share_n _ _ _
      · rfl
    · rfl
  · rfl
theorem unplug_n (s : Pl) (m : Mp) (n : Int) : (unplugR s m n).2.1.n = s.n := by
  unfold unplugR turnP
  split
  · split
    · rfl
    · split
      · exact share_n _ _ _
      · rfl
  · rfl
theorem give_n (s : Pl) (m : Mp) (n : Int) (b : Bool) : (giveR s m n b).2.1.n = s.n := by
  unfold giveR turnP
  split
  · split
    · split
      · split
        · exact share_n _ _ _
        · rfl
      · rfl
    · split
      · split
        · exact share_n _ _ _
        · rfl
      · rfl
  · rfl
theorem touch_n (s : Pl) (m : Mp) (n : Int) (wt : Bool) : (touchR s m n wt).2.1.n = s.n := by
  unfold touchR
  split
  · split
    · rfl
    · split
      · rfl
      · split
        · rfl
        · split
          · rfl
          · split
            · simp only
              split
              · rw [share_n]; exact take_n s
              · exact take_n s
            · rfl
  · rfl
theorem join_n (s : Pl) (m : Mp) (n f : Int) : (joinR s m n f).2.1.n = s.n := by
  unfold joinR
  split
  · split
    · simp only [share_n]
    · rfl
  · rfl
end Go.Proofs.Ytadpibcgjgcjhaa
/- The document's answer for chapter 3: entries as lists, in memory; Find. -/
namespace Go.Proofs.Ytadpibcgjgcjhaa
open Go.ChangeShapes Go.WideShapes Go.ChangeAt Go.RowKit
set_option maxRecDepth 100000
attribute [local go_sem ↓] Go.wp_at_zero Go.wp_at_succ

/-- An entry. -/
structure En where
  root : Int
  page : Int
  dest : Int
  may : Bool
  lf : Lf
def en0 : En := ⟨0, 0, 0, false, lf0⟩
def atE (es : List En) (k : Nat) : En := es.getD k en0
def enCells (e : En) : List Value := [.int .i64 e.root, .int .i64 e.page, .int .i64 e.dest, .bool e.may, .bool e.lf.there, .bool e.lf.wr, .int .i64 e.lf.fr]
def enAll : List En → List Value
  | [] => []
  | e :: es => enCells e ++ enAll es
theorem enAll_length : ∀ es : List En, (enAll es).length = es.length * 7
  | [] => rfl
  | e :: es => by
    have := enAll_length es
    simp only [enAll, List.length_append, this, List.length_cons, enCells, List.length_nil]
    omega
theorem enAll_append : ∀ es fs : List En, enAll (es ++ fs) = enAll es ++ enAll fs
  | [], _ => rfl
  | e :: es, fs => by simp [enAll, enAll_append es fs]
theorem enAll_get : ∀ (es : List En) (i j : Nat), i < es.length → j < 7 → (enAll es)[i * 7 + j]? = (enCells (atE es i))[j]?
  | [], _, _, h, _ => absurd h (by simp)
  | e :: es, 0, j, _, hj => by
    rw [Nat.zero_mul, Nat.zero_add]
    show (enCells e ++ enAll es)[j]? = (enCells e)[j]?
    rw [List.getElem?_append_left (show j < (enCells e).length from hj)]
  | e :: es, i + 1, j, h, hj => by
    have := enAll_get es i j (by simpa using h) hj
    rw [show (i + 1) * 7 + j = (enCells e).length + (i * 7 + j) by show _ = 7 + _; omega]
    show (enCells e ++ enAll es)[(enCells e).length + (i * 7 + j)]? = _
    rw [List.getElem?_append_right (Nat.le_add_right _ _), Nat.add_sub_cancel_left, this]
    rfl
theorem enAll_one : ∀ es : List En, ∀ v ∈ enAll es, v.oneCell' = true
  | [], v, h => by simp [enAll] at h
  | e :: es, v, h => by
    simp only [enAll, List.mem_append] at h
    rcases h with h | h
    · simp only [enCells, List.mem_cons, List.not_mem_nil, or_false] at h
      rcases h with rfl | rfl | rfl | rfl | rfl | rfl | rfl <;> rfl
    · exact enAll_one es v h
/-- A list of entries that a slice holds. -/
def SlC (w : World) (base : Nat) (v : Value) (es : List En) : Prop := w.ownsRow base 85 7 v es.length (enAll es)
theorem SlC.nil (w : World) (base : Nat) : SlC w base (.slice none 0 0) [] := World.ownsRow_nil _ _ _ _
theorem SlC.form {w : World} {base : Nat} {v : Value} {es : List En} (h : SlC w base v es) : ∃ a cap, v = .slice a es.length cap ∧ (∀ i, i < es.length → ∃ g, a = some ⟨g, 0, none⟩ ∧ base ≤ g ∧ g < w.heap.size ∧ ∀ j, j < 7 → w.cell? ⟨g, i * 7 + j, none⟩ = (enCells (atE es i))[j]?) := by
  rcases h.2 with ⟨rfl, h0⟩ | ⟨g, cap, cur, rfl, hb, hg, _⟩
  · exact ⟨none, 0, by rw [h0], fun i hi => absurd hi (by omega)⟩
  · refine ⟨some ⟨g, 0, none⟩, cap, rfl, fun i hi => ⟨g, rfl, hb, ?_, fun j hj => ?_⟩⟩
    · rcases Nat.lt_or_ge g w.heap.size with hlt | hge
      · exact hlt
      · rw [Array.getElem?_eq_none hge] at hg; cases hg
    · have e := enAll_get es i j hi hj
      have hlt : i * 7 + j < (enAll es).length := by rw [enAll_length]; omega
      obtain ⟨u, hu⟩ : ∃ u, (enAll es)[i * 7 + j]? = some u := ⟨_, List.getElem?_eq_getElem hlt⟩
      have := World.ownsRow.cells h (g := g) rfl _ _ hu
      rw [Addr.add_mid, Nat.zero_add] at this
      rw [this, ← hu, e]
def isAt (r p : Int) (e : En) : Bool := (e.root == r) && (e.page == p)
def fndI (es : List En) (r p : Int) : Int := match es.findIdx? (isAt r p) with
  | some i => i
  | none => -1
theorem fndI_some {es : List En} {r p : Int} {k : Nat} (hk : k < es.length) (h : isAt r p (atE es k) = true) (hb : ∀ i, i < k → isAt r p (atE es i) = false) : fndI es r p = k := by
  have : es.findIdx? (isAt r p) = some k := by
    rw [List.findIdx?_eq_some_iff_getElem]
    refine ⟨hk, ?_, fun j hj => ?_⟩
    · simpa [atE, List.getD_eq_getElem?_getD, List.getElem?_eq_getElem hk] using h
    · have := hb j hj
      simpa [atE, List.getD_eq_getElem?_getD, List.getElem?_eq_getElem (show j < es.length by omega)] using this
  unfold fndI
  rw [this]
theorem fndI_none {es : List En} {r p : Int} (hb : ∀ i, i < es.length → isAt r p (atE es i) = false) : fndI es r p = -1 := by
  have : es.findIdx? (isAt r p) = none := by
    rw [List.findIdx?_eq_none_iff]
    intro x hx
    obtain ⟨i, hi, rfl⟩ := List.getElem_of_mem hx
    have := hb i hi
    simpa [atE, List.getD_eq_getElem?_getD, List.getElem?_eq_getElem hi] using this
  unfold fndI
  rw [this]
theorem cFind_any (w : World) (base : Nat) (v : Value) (es : List En) (r p : Int) (h : SlC w base v es) (hl : es.length ≤ 100) :
    Calls Try.prog 48 #[v, .int .i64 r, .int .i64 p] w fun e w' => e = .returned (.int .i64 (fndI es r p)) ∧ w' = w := by
  obtain ⟨a, cap, rfl, hc⟩ := h.form
  have HC : Hid _ := hc
  clear hc
  go_enter Try.func48, Try.ntmps48
  go_wp2_with fail
  go_loopg [7] es.length (fun g i wi => ∃ k : Nat, k + g = es.length ∧ i = .int .i64 k ∧ (∀ i, i < k → isAt r p (atE es i) = false) ∧ wi = w)
  case atStart => exact ⟨0, by omega, rfl, fun i hi => absurd hi (by omega), rfl⟩
  case round =>
    obtain ⟨k, hk, rfl, hb, rfl⟩ := hrel
    have HK : Hid _ := hk
    have HB : Hid _ := hb
    clear hb
    by_cases hlt : k < es.length
    · clear hk
      obtain ⟨g, rfl, _, _, hcell⟩ := HC.out k hlt
      have c0 : wr.cell? ⟨g, k * 7, none⟩ = some (.int .i64 (atE es k).root) := hcell 0 (by omega)
      have c1 : wr.cell? ⟨g, k * 7 + 1, none⟩ = some (.int .i64 (atE es k).page) := hcell 1 (by omega)
      clear hcell HC
      have k0 : (0 : Int) ≤ (k : Int) := by omega
      have k1 : (k : Int) < es.length := by omega
      generalize hx : atE es k = x at c0 c1
      have HX : Hid _ := hx
      clear hx
      cases h0 : (x.root == r) with
      | false =>
        go_wp2_with fail
        go_roundg (es.length - (k + 1))
        case rel =>
          refine ⟨k + 1, by omega, by go_num, fun i hi => ?_, rfl⟩
          by_cases e : i = k
          · subst e; rw [HX.out]; simp [isAt, h0]
          · exact HB.out i (by omega)
        case measure => have := HK.out; omega
      | true =>
        cases h1 : (x.page == p) with
        | false =>
          go_wp2_with fail
          go_roundg (es.length - (k + 1))
          case rel =>
            refine ⟨k + 1, by omega, by go_num, fun i hi => ?_, rfl⟩
            by_cases e : i = k
            · subst e; rw [HX.out]; simp [isAt, h0, h1]
            · exact HB.out i (by omega)
          case measure => have := HK.out; omega
        | true =>
          have hf := fndI_some (r := r) (p := p) hlt (by rw [HX.out]; simp [isAt, h0, h1]) HB.out
          have HF : Hid _ := hf
          clear hf
          go_wp2_with fail
          go_ret
          exact ⟨by rw [HF.out]; rfl, rfl⟩
    · have HF : Hid _ := fndI_none (fun i hi => HB.out i (by have := HK.out; omega))
      clear hk
      go_wp2_with fail
      go_ret
      exact ⟨by rw [HF.out]; rfl, rfl⟩
/-- Of the first k those that are kept. -/
def keepTo (P : Nat → Bool) (es : List En) : Nat → List En
  | 0 => []
  | k + 1 => keepTo P es k ++ if P k then [atE es k] else []
theorem keepTo_length (P : Nat → Bool) (es : List En) : ∀ k, (keepTo P es k).length ≤ k
  | 0 => Nat.le_refl _
  | k + 1 => by
    have := keepTo_length P es k
    unfold keepTo
    rw [List.length_append]
    split
    · simp; omega
    · simp; omega
theorem SlC.upd {S : Nat → Prop} {w w' : World} {base : Nat} {v : Value} {es : List En} (h : SlC w base v es) (u : Upd S w w') (hS : ∀ k, v.ownBlock = some k → ¬ S k) : SlC w' base v es := by
  refine ⟨h.1, ?_⟩
  rcases h.2 with h0 | ⟨g, cap, cur, rfl, hb, hg, r⟩
  · exact Or.inl h0
  · refine Or.inr ⟨g, cap, cur, rfl, hb, ?_, r⟩
    have hlt : g < w.heap.size := by
      rcases Nat.lt_or_ge g w.heap.size with hlt | hge
      · exact hlt
      · rw [Array.getElem?_eq_none hge] at hg; cases hg
    rw [u.block g hlt (hS g rfl)]; exact hg
def zeroEn : Array Value := #[.int .i64 0, .int .i64 0, .int .i64 0, .bool false, .bool false, .bool false, .int .i64 0]
theorem infoEn : (Try.prog.info? 85).map (fun i => (i.size, i.bytes, i.zero)) = some (7, 48, some (.agg zeroEn)) := by kernel_rfl
/-- What an append of one entry leaves. -/
theorem SlC.grown {w wr w2 : World} {v : Value} {es : List En} {x : En} {g cap : Nat} (hu : Upd (fun _ => False) w wr) (hS : SlC wr w.heap.size v es) (o : Obj)
    (hown : w2.ownsRow w.heap.size 85 7 (.slice (some ⟨g, 0, none⟩) (es.length + 1) cap) (es.length + 1) (enAll es ++ enCells x)) (hgrow : (wr.alloc o).grownBy w2 v.ownBlock) :
    SlC w2 w.heap.size (.slice (some ⟨g, 0, none⟩) (es.length + 1) cap) (es ++ [x]) ∧ Upd (fun _ => False) w w2 := by
  refine ⟨?_, hgrow.os.trans hu.os, hgrow.tape.trans hu.tape, hgrow.output.trans hu.output, ?_, ?_⟩
  · unfold SlC
    rw [enAll_append, List.length_append]
    simpa [enAll] using hown
  · have := hgrow.size
    simp only [World.size_alloc] at this
    have := hu.size
    omega
  · intro k hk _
    have hz := hu.size
    rw [hgrow.block k (by simp only [World.size_alloc]; omega) (by
      intro e
      have := World.ownsRow.lt hS k e.symm
      omega), Below.heap_alloc _ _ _ (by omega)]
    exact hu.block k hk (fun f => f)

theorem cWithout_any (w : World) (base : Nat) (v : Value) (es : List En) (k0 : Int) (h : SlC w base v es) (hl : es.length ≤ 100) :
    Calls Try.prog 49 #[v, .int .i64 k0] w fun e w' => ∃ v', e = .returned v' ∧ SlC w' w.heap.size v' (keepTo (fun i => (i : Int) != k0) es es.length) ∧ Upd (fun _ => False) w w' := by
  obtain ⟨a, cap, rfl, hc⟩ := h.form
  have HC : Hid _ := hc
  clear hc
  go_enter Try.func49, Try.ntmps49
  go_wp2_with fail
  go_loopg [5, 6] es.length (fun g l i wi => ∃ k : Nat, k + g = es.length ∧ i = .int .i64 k ∧ SlC wi w.heap.size l (keepTo (fun i => (i : Int) != k0) es k) ∧ Upd (fun _ => False) w wi)
  case atStart => exact ⟨0, by omega, rfl, SlC.nil _ _, Upd.refl _ _⟩
  case round =>
    obtain ⟨k, hk, rfl, hS, hu⟩ := hrel
    have HK : Hid _ := hk
    by_cases hlt : k < es.length
    · clear hk
      obtain ⟨g, rfl, _, hglt, hcell⟩ := HC.out k hlt
      have hkl := keepTo_length (fun i => (i : Int) != k0) es k
      have hstep : keepTo (fun i => (i : Int) != k0) es (k + 1) = keepTo (fun i => (i : Int) != k0) es k ++ if ((k : Int) != k0) then [atE es k] else [] := rfl
      have HST : Hid _ := hstep
      clear hstep
      cases hp : ((k : Int) != k0) with
      | false =>
        rw [hp] at HST
        clear hcell HC
        go_wp2_with fail
        go_roundg (es.length - (k + 1))
        case rel => exact ⟨k + 1, by omega, by go_num, by rw [HST.out]; simpa using hS, hu⟩
        case measure => have := HK.out; omega
      | true =>
        rw [hp] at HST
        have c0 := hu.cell (show w.cell? ⟨g, k * 7, none⟩ = some (.int .i64 (atE es k).root) from hcell 0 (by omega)) (fun f => f)
        have c1 := hu.cell (show w.cell? ⟨g, k * 7 + 1, none⟩ = some (.int .i64 (atE es k).page) from hcell 1 (by omega)) (fun f => f)
        have c2 := hu.cell (show w.cell? ⟨g, k * 7 + 2, none⟩ = some (.int .i64 (atE es k).dest) from hcell 2 (by omega)) (fun f => f)
        have c3 := hu.cell (show w.cell? ⟨g, k * 7 + 3, none⟩ = some (.bool (atE es k).may) from hcell 3 (by omega)) (fun f => f)
        have c4 := hu.cell (show w.cell? ⟨g, k * 7 + 4, none⟩ = some (.bool (atE es k).lf.there) from hcell 4 (by omega)) (fun f => f)
        have c5 := hu.cell (show w.cell? ⟨g, k * 7 + 5, none⟩ = some (.bool (atE es k).lf.wr) from hcell 5 (by omega)) (fun f => f)
        have c6 := hu.cell (show w.cell? ⟨g, k * 7 + 6, none⟩ = some (.int .i64 (atE es k).lf.fr) from hcell 6 (by omega)) (fun f => f)
        clear hcell HC
        generalize atE es k = x at *
        generalize hfs : keepTo (fun i => (i : Int) != k0) es k = fs at *
        clear hfs
        obtain ⟨i, hi, he⟩ := Option.map_eq_some_iff.1 infoEn
        simp only [Prod.mk.injEq] at he
        obtain ⟨he1, he2, he3⟩ := he
        have HE1 : Hid _ := he1
        have HE2 : Hid _ := he2
        have HE3 : Hid _ := he3
        have HI : Hid _ := hi
        clear he1 he2 he3 hi
        have hnews : ∀ j u, (enCells x)[j]? = some u → (wr.alloc (.cells #[.int .i64 x.root, .int .i64 x.page, .int .i64 x.dest, .bool x.may, .bool x.lf.there, .bool x.lf.wr, .int .i64 x.lf.fr] 85)).cell? ((⟨wr.heap.size, 0, none⟩ : Addr).add j) = some u := by
          intro j u hj
          rw [Addr.add_mid, Nat.zero_add, World.cell?_alloc_new, ← hj]
          show (enCells x).toArray[j]? = _
          simp
        have HN : Hid _ := hnews
        have HO : Hid _ := World.ownsRow.alloc hS (.cells #[.int .i64 x.root, .int .i64 x.page, .int .i64 x.dest, .bool x.may, .bool x.lf.there, .bool x.lf.wr, .int .i64 x.lf.fr] 85)
        have HB : Hid (w.heap.size ≤ (wr.alloc (.cells #[.int .i64 x.root, .int .i64 x.page, .int .i64 x.dest, .bool x.may, .bool x.lf.there, .bool x.lf.wr, .int .i64 x.lf.fr] 85)).heap.size) := show _ ≤ _ by have := hu.size; simp only [World.size_alloc]; omega
        have H1 : Hid (∀ u ∈ enCells x, u.oneCell' = true) := show ∀ u ∈ enCells x, _ from fun u hu' => enAll_one [x] u (by simpa [enAll] using hu')
        clear hnews
        go_wp2_with (at_builtin; refine wpList_append_lies _ (by rfl) _ _ 90 (by rfl) w.heap.size 85 i (.agg zeroEn) 7 48 Try.underlying90 HI.out HE3.out HE1.out HE2.out (by rfl) (by omega) u5 fs.length (enAll fs) (by rfl) HO.out ⟨wr.heap.size, 0, none⟩ 1 1 (enCells x) (by rfl) (by rfl) HN.out H1.out (by omega) (by unfold maxLen; omega) (by omega) HB.out (wr.heap.size + 1) (by simp) ?_; intro g2 cap2 w2 hown hgrow hat hlt2)
        obtain ⟨hS2, hu2⟩ := SlC.grown hu hS _ hown hgrow
        clear hown hgrow hat hlt2
        go_roundg (es.length - (k + 1))
        case rel => exact ⟨k + 1, by omega, by go_num, by rw [HST.out]; simpa using hS2, hu2⟩
        case measure => have := HK.out; omega
    · have ek : k = es.length := by omega
      subst ek
      clear hk HC
      go_wp2_with fail
      go_ret
      exact ⟨_, rfl, hS, hu⟩
end Go.Proofs.Ytadpibcgjgcjhaa
/- The document's answer for chapter 3: Forget, Point, Put. -/
namespace Go.Proofs.Ytadpibcgjgcjhaa
open Go.ChangeShapes Go.WideShapes Go.ChangeAt Go.RowKit
set_option maxRecDepth 100000
attribute [local go_sem ↓] Go.wp_at_zero Go.wp_at_succ

theorem cForget_any (w : World) (base : Nat) (v : Value) (es : List En) (r : Int) (h : SlC w base v es) (hl : es.length ≤ 100) :
    Calls Try.prog 51 #[v, .int .i64 r] w fun e w' => ∃ v', e = .returned v' ∧ SlC w' w.heap.size v' (keepTo (fun i => (atE es i).root != r) es es.length) ∧ Upd (fun _ => False) w w' := by
  obtain ⟨a, cap, rfl, hc⟩ := h.form
  have HC : Hid _ := hc
  clear hc
  go_enter Try.func51, Try.ntmps51
  go_wp2_with fail
  go_loopg [5, 6] es.length (fun g l i wi => ∃ k : Nat, k + g = es.length ∧ i = .int .i64 k ∧ SlC wi w.heap.size l (keepTo (fun i => (atE es i).root != r) es k) ∧ Upd (fun _ => False) w wi)
  case atStart => exact ⟨0, by omega, rfl, SlC.nil _ _, Upd.refl _ _⟩
  case round =>
    obtain ⟨k, hk, rfl, hS, hu⟩ := hrel
    have HK : Hid _ := hk
    by_cases hlt : k < es.length
    · clear hk
      obtain ⟨g, rfl, _, hglt, hcell⟩ := HC.out k hlt
      have hkl := keepTo_length (fun i => (atE es i).root != r) es k
      have hstep : keepTo (fun i => (atE es i).root != r) es (k + 1) = keepTo (fun i => (atE es i).root != r) es k ++ if ((atE es k).root != r) then [atE es k] else [] := rfl
      have HST : Hid _ := hstep
      clear hstep
      cases hp : ((atE es k).root != r) with
      | false =>
        rw [hp] at HST
        have c0 := hu.cell (show w.cell? ⟨g, k * 7, none⟩ = some (.int .i64 (atE es k).root) from hcell 0 (by omega)) (fun f => f)
        clear hcell HC
        go_wp2_with fail
        go_roundg (es.length - (k + 1))
        case rel => exact ⟨k + 1, by omega, by go_num, by rw [HST.out]; simpa using hS, hu⟩
        case measure => have := HK.out; omega
      | true =>
        rw [hp] at HST
        have c0 := hu.cell (show w.cell? ⟨g, k * 7, none⟩ = some (.int .i64 (atE es k).root) from hcell 0 (by omega)) (fun f => f)
        have c1 := hu.cell (show w.cell? ⟨g, k * 7 + 1, none⟩ = some (.int .i64 (atE es k).page) from hcell 1 (by omega)) (fun f => f)
        have c2 := hu.cell (show w.cell? ⟨g, k * 7 + 2, none⟩ = some (.int .i64 (atE es k).dest) from hcell 2 (by omega)) (fun f => f)
        have c3 := hu.cell (show w.cell? ⟨g, k * 7 + 3, none⟩ = some (.bool (atE es k).may) from hcell 3 (by omega)) (fun f => f)
        have c4 := hu.cell (show w.cell? ⟨g, k * 7 + 4, none⟩ = some (.bool (atE es k).lf.there) from hcell 4 (by omega)) (fun f => f)
        have c5 := hu.cell (show w.cell? ⟨g, k * 7 + 5, none⟩ = some (.bool (atE es k).lf.wr) from hcell 5 (by omega)) (fun f => f)
        have c6 := hu.cell (show w.cell? ⟨g, k * 7 + 6, none⟩ = some (.int .i64 (atE es k).lf.fr) from hcell 6 (by omega)) (fun f => f)
        clear hcell HC
        generalize atE es k = x at *
        generalize hfs : keepTo (fun i => (atE es i).root != r) es k = fs at *
        clear hfs
        obtain ⟨i, hi, he⟩ := Option.map_eq_some_iff.1 infoEn
        simp only [Prod.mk.injEq] at he
        obtain ⟨he1, he2, he3⟩ := he
        have HE1 : Hid _ := he1
        have HE2 : Hid _ := he2
        have HE3 : Hid _ := he3
        have HI : Hid _ := hi
        clear he1 he2 he3 hi
        have hnews : ∀ j u, (enCells x)[j]? = some u → (wr.alloc (.cells #[.int .i64 x.root, .int .i64 x.page, .int .i64 x.dest, .bool x.may, .bool x.lf.there, .bool x.lf.wr, .int .i64 x.lf.fr] 85)).cell? ((⟨wr.heap.size, 0, none⟩ : Addr).add j) = some u := by
          intro j u hj
          rw [Addr.add_mid, Nat.zero_add, World.cell?_alloc_new, ← hj]
          show (enCells x).toArray[j]? = _
          simp
        have HN : Hid _ := hnews
        have HO : Hid _ := World.ownsRow.alloc hS (.cells #[.int .i64 x.root, .int .i64 x.page, .int .i64 x.dest, .bool x.may, .bool x.lf.there, .bool x.lf.wr, .int .i64 x.lf.fr] 85)
        have HB : Hid (w.heap.size ≤ (wr.alloc (.cells #[.int .i64 x.root, .int .i64 x.page, .int .i64 x.dest, .bool x.may, .bool x.lf.there, .bool x.lf.wr, .int .i64 x.lf.fr] 85)).heap.size) := show _ ≤ _ by have := hu.size; simp only [World.size_alloc]; omega
        have H1 : Hid (∀ u ∈ enCells x, u.oneCell' = true) := show ∀ u ∈ enCells x, _ from fun u hu' => enAll_one [x] u (by simpa [enAll] using hu')
        clear hnews
        go_wp2_with (at_builtin; refine wpList_append_lies _ (by rfl) _ _ 90 (by rfl) w.heap.size 85 i (.agg zeroEn) 7 48 Try.underlying90 HI.out HE3.out HE1.out HE2.out (by rfl) (by omega) u5 fs.length (enAll fs) (by rfl) HO.out ⟨wr.heap.size, 0, none⟩ 1 1 (enCells x) (by rfl) (by rfl) HN.out H1.out (by omega) (by unfold maxLen; omega) (by omega) HB.out (wr.heap.size + 1) (by simp) ?_; intro g2 cap2 w2 hown hgrow hat hlt2)
        obtain ⟨hS2, hu2⟩ := SlC.grown hu hS _ hown hgrow
        clear hown hgrow hat hlt2
        go_roundg (es.length - (k + 1))
        case rel => exact ⟨k + 1, by omega, by go_num, by rw [HST.out]; simpa using hS2, hu2⟩
        case measure => have := HK.out; omega
    · have ek : k = es.length := by omega
      subst ek
      clear hk HC
      go_wp2_with fail
      go_ret
      exact ⟨_, rfl, hS, hu⟩

theorem SlC.weak {w : World} {b b' : Nat} {v : Value} {es : List En} (h : SlC w b v es) (hb : b' ≤ b) : SlC w b' v es := by
  refine ⟨h.1, ?_⟩
  rcases h.2 with h0 | ⟨g, cap, cur, hv, hg, r⟩
  · exact Or.inl h0
  · exact Or.inr ⟨g, cap, cur, hv, Nat.le_trans hb hg, r⟩
/-- Put, plainly. -/
def putC (es : List En) (e : En) : List En :=
  let l := keepTo (fun i => (i : Int) != fndI es e.root e.page) es es.length ++ [e]
  if 4 < l.length then keepTo (fun i => (i : Int) != 0) l l.length else l
theorem cPut_any (w : World) (base : Nat) (v : Value) (es : List En) (x : En) (h : SlC w base v es) (hl : es.length ≤ 50) :
    Calls Try.prog 46 #[v, .agg #[.int .i64 x.root, .int .i64 x.page, .int .i64 x.dest, .bool x.may, .bool x.lf.there, .bool x.lf.wr, .int .i64 x.lf.fr]] w fun e w' => ∃ v', e = .returned v' ∧ SlC w' w.heap.size v' (putC es x) ∧ Upd (fun _ => False) w w' := by
  have u0 := (Upd.refl (fun _ => False) w).alloc (.cells #[.int .i64 x.root, .int .i64 x.page, .int .i64 x.dest, .bool x.may, .bool x.lf.there, .bool x.lf.wr, .int .i64 x.lf.fr] 85)
  have h0 := h.upd u0 (fun _ _ f => f)
  have cc : ∀ j, (w.alloc (.cells #[.int .i64 x.root, .int .i64 x.page, .int .i64 x.dest, .bool x.may, .bool x.lf.there, .bool x.lf.wr, .int .i64 x.lf.fr] 85)).cell? ⟨w.heap.size, j, none⟩ = (enCells x)[j]? := fun j => by
    rw [World.cell?_alloc_new]
    show (enCells x).toArray[j]? = _
    simp
  have H0 : Hid _ := h0
  have U0 : Hid _ := u0
  have CC : Hid _ := cc
  clear h0 u0 cc h
  go_enter Try.func46, Try.ntmps46
  go_wp2_with fail
  refine (cFind_any _ base _ es _ _ H0.out (by omega)).mono ?_
  rintro e w1 ⟨rfl, rfl⟩
  go_wp2_with fail
  refine (cWithout_any _ base _ es _ H0.out (by omega)).mono ?_
  rintro e w2 ⟨l, rfl, hS2, hu2⟩
  have hU2 := U0.out.trans hu2 (fun _ _ f => f)
  have hS3 : SlC w2 w.heap.size l (keepTo (fun i => (i : Int) != fndI es x.root x.page) es es.length) := hS2.weak (by simp)
  have hkl := keepTo_length (fun i => (i : Int) != fndI es x.root x.page) es es.length
  have c0 := hu2.cell (show _ = some (.int .i64 x.root) from CC.out 0) (fun f => f)
  have c1 := hu2.cell (show _ = some (.int .i64 x.page) from CC.out 1) (fun f => f)
  have c2 := hu2.cell (show _ = some (.int .i64 x.dest) from CC.out 2) (fun f => f)
  have c3 := hu2.cell (show _ = some (.bool x.may) from CC.out 3) (fun f => f)
  have c4 := hu2.cell (show _ = some (.bool x.lf.there) from CC.out 4) (fun f => f)
  have c5 := hu2.cell (show _ = some (.bool x.lf.wr) from CC.out 5) (fun f => f)
  have c6 := hu2.cell (show _ = some (.int .i64 x.lf.fr) from CC.out 6) (fun f => f)
  have hput : putC es x = if 4 < (keepTo (fun i => (i : Int) != fndI es x.root x.page) es es.length ++ [x]).length then keepTo (fun i => (i : Int) != 0) (keepTo (fun i => (i : Int) != fndI es x.root x.page) es es.length ++ [x]) (keepTo (fun i => (i : Int) != fndI es x.root x.page) es es.length ++ [x]).length else keepTo (fun i => (i : Int) != fndI es x.root x.page) es es.length ++ [x] := rfl
  have HP : Hid _ := hput
  clear hput hS2 hu2 CC U0 H0
  generalize keepTo (fun i => (i : Int) != fndI es x.root x.page) es es.length = fs at *
  obtain ⟨i, hi, he⟩ := Option.map_eq_some_iff.1 infoEn
  simp only [Prod.mk.injEq] at he
  obtain ⟨he1, he2, he3⟩ := he
  have HE1 : Hid _ := he1
  have HE2 : Hid _ := he2
  have HE3 : Hid _ := he3
  have HI : Hid _ := hi
  clear he1 he2 he3 hi
  have hnews : ∀ j u, (enCells x)[j]? = some u → (w2.alloc (.cells #[.int .i64 x.root, .int .i64 x.page, .int .i64 x.dest, .bool x.may, .bool x.lf.there, .bool x.lf.wr, .int .i64 x.lf.fr] 85)).cell? ((⟨w2.heap.size, 0, none⟩ : Addr).add j) = some u := by
    intro j u hj
    rw [Addr.add_mid, Nat.zero_add, World.cell?_alloc_new, ← hj]
    show (enCells x).toArray[j]? = _
    simp
  have HN : Hid _ := hnews
  have HO : Hid _ := World.ownsRow.alloc hS3 (.cells #[.int .i64 x.root, .int .i64 x.page, .int .i64 x.dest, .bool x.may, .bool x.lf.there, .bool x.lf.wr, .int .i64 x.lf.fr] 85)
  have HB : Hid (w.heap.size ≤ (w2.alloc (.cells #[.int .i64 x.root, .int .i64 x.page, .int .i64 x.dest, .bool x.may, .bool x.lf.there, .bool x.lf.wr, .int .i64 x.lf.fr] 85)).heap.size) := show _ ≤ _ by have := hU2.size; simp only [World.size_alloc]; omega
  have H1 : Hid (∀ u ∈ enCells x, u.oneCell' = true) := show ∀ u ∈ enCells x, _ from fun u hu' => enAll_one [x] u (by simpa [enAll] using hu')
  clear hnews
  by_cases h4 : 4 < fs.length + 1
  · have d4 : decide ((4 : Int) < (fs.length : Int) + 1) = true := by simp; omega
    go_wp2_with (at_builtin; refine wpList_append_lies _ (by rfl) _ _ 90 (by rfl) w.heap.size 85 i (.agg zeroEn) 7 48 Try.underlying90 HI.out HE3.out HE1.out HE2.out (by rfl) (by omega) l fs.length (enAll fs) (by rfl) HO.out ⟨w2.heap.size, 0, none⟩ 1 1 (enCells x) (by rfl) (by rfl) HN.out H1.out (by omega) (by unfold maxLen; omega) (by omega) HB.out (w2.heap.size + 1) (by simp) ?_; intro g2 cap2 w3 hown hgrow hat hlt2)
    obtain ⟨hS4, hu4⟩ := SlC.grown hU2 hS3 _ hown hgrow
    have hlen : (fs ++ [x]).length = fs.length + 1 := by simp
    have hS5 := hS4
    rw [← hlen] at hS5
    clear hown hgrow hat hlt2
    have HX := cWithout_any w3 w.heap.size _ (fs ++ [x]) 0 hS5 (by omega)
    rw [hlen] at HX
    refine Calls.mono HX ?_
    rintro e w4 ⟨v4, rfl, hS6, hu6⟩
    have hz := hu4.size
    have HR : Hid _ := hu4.trans hu6 (fun _ _ f => f)
    have HQ : Hid _ := hS6.weak hz
    clear hS6 hu6 hS5 hS4 hu4 HX
    go_wp2_with fail
    go_ret
    refine ⟨_, rfl, ?_, HR.out⟩
    rw [HP.out, if_pos (by rw [hlen]; exact h4), hlen]
    exact HQ.out
  · have d4 : decide ((4 : Int) < (fs.length : Int) + 1) = false := by simp; omega
    go_wp2_with (at_builtin; refine wpList_append_lies _ (by rfl) _ _ 90 (by rfl) w.heap.size 85 i (.agg zeroEn) 7 48 Try.underlying90 HI.out HE3.out HE1.out HE2.out (by rfl) (by omega) l fs.length (enAll fs) (by rfl) HO.out ⟨w2.heap.size, 0, none⟩ 1 1 (enCells x) (by rfl) (by rfl) HN.out H1.out (by omega) (by unfold maxLen; omega) (by omega) HB.out (w2.heap.size + 1) (by simp) ?_; intro g2 cap2 w3 hown hgrow hat hlt2)
    obtain ⟨hS4, hu4⟩ := SlC.grown hU2 hS3 _ hown hgrow
    have hlen : (fs ++ [x]).length = fs.length + 1 := by simp
    go_ret
    refine ⟨_, rfl, ?_, hu4⟩
    rw [HP.out, if_neg (by rw [hlen]; exact h4)]
    exact hS4
end Go.Proofs.Ytadpibcgjgcjhaa
/- The document's answer for chapter 3: an entry behind Point; two lists of entries held against each other. -/
namespace Go.Proofs.Ytadpibcgjgcjhaa
open Go.ChangeShapes Go.WideShapes Go.ChangeAt Go.RowKit
set_option maxRecDepth 100000
attribute [local go_sem ↓] Go.wp_at_zero Go.wp_at_succ

/-- An entry behind Point. -/
def pnt (d : Int) (l : Lf) (e : En) : En := if e.dest == d then { e with lf := l } else e
def pntTo (d : Int) (l : Lf) (es : List En) : Nat → List En
  | 0 => []
  | k + 1 => pntTo d l es k ++ [pnt d l (atE es k)]
def pntN (d : Int) (es : List En) : Nat → Nat
  | 0 => 0
  | k + 1 => pntN d es k + if (atE es k).dest == d then 1 else 0
theorem pntTo_length (d : Int) (l : Lf) (es : List En) : ∀ k, (pntTo d l es k).length = k
  | 0 => rfl
  | k + 1 => by simp [pntTo, pntTo_length d l es k]
theorem pntN_le (d : Int) (es : List En) : ∀ k, pntN d es k ≤ k
  | 0 => Nat.le_refl _
  | k + 1 => by
    have := pntN_le d es k
    unfold pntN
    split <;> omega
theorem cSame_any (w : World) (b0 b1 : Nat) (v u : Value) (es : List En) (h : SlC w b0 v es) (h2 : SlC w b1 u es) (hl : es.length ≤ 50) :
    Calls Try.prog 57 #[v, u] w fun e w' => e = .returned (.bool true) ∧ ∃ m, w' = w.drewN m := by
  obtain ⟨a, cap, rfl, hc⟩ := h.form
  obtain ⟨a2, cap2, rfl, hc2⟩ := h2.form
  have HC : Hid _ := hc
  have HC2 : Hid _ := hc2
  clear hc hc2
  have b1' : (((es.length : Nat) : Int) != ((es.length : Nat) : Int)) = false := by simp
  go_enter Try.func57, Try.ntmps57
  go_wp2_with fail
  go_loopg [5] es.length (fun g i wi => ∃ k : Nat, k + g = es.length ∧ i = .int .i64 k ∧ ∃ m, wi = w.drewN m)
  case atStart => exact ⟨0, by omega, rfl, 0, rfl⟩
  case round =>
    obtain ⟨k, hk, rfl, m, rfl⟩ := hrel
    have HK : Hid _ := hk
    by_cases hlt : k < es.length
    · clear hk b1'
      obtain ⟨g, rfl, _, _, hcell⟩ := HC.out k hlt
      obtain ⟨g2, rfl, _, _, hcell2⟩ := HC2.out k hlt
      have c0 : (w.drewN m).cell? ⟨g, k * 7, none⟩ = some (.int .i64 (atE es k).root) := hcell 0 (by omega)
      have c1 : (w.drewN m).cell? ⟨g, k * 7 + 1, none⟩ = some (.int .i64 (atE es k).page) := hcell 1 (by omega)
      have c2 : (w.drewN m).cell? ⟨g, k * 7 + 2, none⟩ = some (.int .i64 (atE es k).dest) := hcell 2 (by omega)
      have c3 : (w.drewN m).cell? ⟨g, k * 7 + 3, none⟩ = some (.bool (atE es k).may) := hcell 3 (by omega)
      have c4 : (w.drewN m).cell? ⟨g, k * 7 + 4, none⟩ = some (.bool (atE es k).lf.there) := hcell 4 (by omega)
      have c5 : (w.drewN m).cell? ⟨g, k * 7 + 5, none⟩ = some (.bool (atE es k).lf.wr) := hcell 5 (by omega)
      have c6 : (w.drewN m).cell? ⟨g, k * 7 + 6, none⟩ = some (.int .i64 (atE es k).lf.fr) := hcell 6 (by omega)
      have d0 : (w.drewN m).cell? ⟨g2, k * 7, none⟩ = some (.int .i64 (atE es k).root) := hcell2 0 (by omega)
      have d1 : (w.drewN m).cell? ⟨g2, k * 7 + 1, none⟩ = some (.int .i64 (atE es k).page) := hcell2 1 (by omega)
      have d2 : (w.drewN m).cell? ⟨g2, k * 7 + 2, none⟩ = some (.int .i64 (atE es k).dest) := hcell2 2 (by omega)
      have d3 : (w.drewN m).cell? ⟨g2, k * 7 + 3, none⟩ = some (.bool (atE es k).may) := hcell2 3 (by omega)
      have d4 : (w.drewN m).cell? ⟨g2, k * 7 + 4, none⟩ = some (.bool (atE es k).lf.there) := hcell2 4 (by omega)
      have d5 : (w.drewN m).cell? ⟨g2, k * 7 + 5, none⟩ = some (.bool (atE es k).lf.wr) := hcell2 5 (by omega)
      have d6 : (w.drewN m).cell? ⟨g2, k * 7 + 6, none⟩ = some (.int .i64 (atE es k).lf.fr) := hcell2 6 (by omega)
      clear hcell hcell2 HC HC2
      have k0 : (0 : Int) ≤ (k : Int) := by omega
      have k1 : (k : Int) < es.length := by omega
      generalize atE es k = x at *
      go_wp2_with fail
      go_region_held3 (fun w' => w'.cell? ⟨g, k * 7, none⟩ = some (.int .i64 x.root) ∧ w'.cell? ⟨g, k * 7 + 1, none⟩ = some (.int .i64 x.page) ∧ w'.cell? ⟨g, k * 7 + 2, none⟩ = some (.int .i64 x.dest) ∧ w'.cell? ⟨g, k * 7 + 3, none⟩ = some (.bool x.may) ∧ w'.cell? ⟨g, k * 7 + 4, none⟩ = some (.bool x.lf.there) ∧ w'.cell? ⟨g, k * 7 + 5, none⟩ = some (.bool x.lf.wr) ∧ w'.cell? ⟨g, k * 7 + 6, none⟩ = some (.int .i64 x.lf.fr) ∧ w'.cell? ⟨g2, k * 7, none⟩ = some (.int .i64 x.root) ∧ w'.cell? ⟨g2, k * 7 + 1, none⟩ = some (.int .i64 x.page) ∧ w'.cell? ⟨g2, k * 7 + 2, none⟩ = some (.int .i64 x.dest) ∧ w'.cell? ⟨g2, k * 7 + 3, none⟩ = some (.bool x.may) ∧ w'.cell? ⟨g2, k * 7 + 4, none⟩ = some (.bool x.lf.there) ∧ w'.cell? ⟨g2, k * 7 + 5, none⟩ = some (.bool x.lf.wr) ∧ w'.cell? ⟨g2, k * 7 + 6, none⟩ = some (.int .i64 x.lf.fr)) (first | exact ⟨c0, c1, c2, c3, c4, c5, c6, d0, d1, d2, d3, d4, d5, d6⟩ | go_keep) (fail)
      go_wp2_with fail
      go_roundg (es.length - (k + 1))
      case rel => exact ⟨k + 1, by omega, by go_num, m + 1, rfl⟩
      case measure => have := HK.out; omega
    · clear hk b1' HC HC2
      go_wp2_with fail
      go_ret
      exact ⟨rfl, m, rfl⟩
end Go.Proofs.Ytadpibcgjgcjhaa
