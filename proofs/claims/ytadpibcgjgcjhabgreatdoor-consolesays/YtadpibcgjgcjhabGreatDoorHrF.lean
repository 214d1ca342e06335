/- Sealing, page by page; the row of leaves read by the document's host. -/
import Derived.Test.YtadpibcgjgcjhabGreatDoorHoO
namespace Go.Proofs.YtadpibcgjgcjhabGreatDoor
open Go.RowKit
variable {h : Hs} {W : Int} {n : Nat} {x y : Gs}

theorem sealTo_zero (h : Hs) (fr : Int) : hSealTo h fr 0 = h := by
  have e : ∀ j, (hSealTo h fr 0).g j = h.g j := fun j => by
    show (h.g j).map _ = _
    cases h.g j with
    | none => rfl
    | some x =>
      have : sealOf x.m (16 * j) fr 0 = x.m := by
        unfold sealOf
        have : (fun k => if (k < 16 ∧ 16 * j + k < 0) ∧ (x.m.lf k).there = true ∧ (x.m.lf k).fr = fr then { x.m.lf k with wr := false } else x.m.lf k) = x.m.lf := by
          funext k
          rw [if_neg (by omega)]
        rw [this]
      simp only [Option.map_some]
      rw [this]
  have e2 : (hSealTo h fr 0).g = h.g := funext e
  show (⟨h.s, (hSealTo h fr 0).g⟩ : Hs) = h
  rw [e2]
theorem sealOf_next (m : Mp) (fr : Int) {j i : Nat} (hj : j ≠ i / 16) : sealOf m (16 * j) fr (i + 1) = sealOf m (16 * j) fr i := by
  unfold sealOf
  have : (fun k => if (k < 16 ∧ 16 * j + k < i + 1) ∧ (m.lf k).there = true ∧ (m.lf k).fr = fr then { m.lf k with wr := false } else m.lf k) = (fun k => if (k < 16 ∧ 16 * j + k < i) ∧ (m.lf k).there = true ∧ (m.lf k).fr = fr then { m.lf k with wr := false } else m.lf k) := by
    funext k
    by_cases hk : k < 16
    · have e : (k < 16 ∧ 16 * j + k < i + 1) ↔ (k < 16 ∧ 16 * j + k < i) := by omega
      by_cases hc : (k < 16 ∧ 16 * j + k < i) ∧ (m.lf k).there = true ∧ (m.lf k).fr = fr
      · rw [if_pos hc, if_pos ⟨e.2 hc.1, hc.2⟩]
      · rw [if_neg hc, if_neg (fun c => hc ⟨e.1 c.1, c.2⟩)]
    · rw [if_neg (fun c => hk c.1.1), if_neg (fun c => hk c.1.1)]
  rw [this]
theorem sealOf_skip (m : Mp) (fr : Int) {i : Nat} (hn : ¬ ((m.lf (i % 16)).there = true ∧ (m.lf (i % 16)).fr = fr)) : sealOf m (16 * (i / 16)) fr (i + 1) = sealOf m (16 * (i / 16)) fr i := by
  unfold sealOf
  have : (fun k => if (k < 16 ∧ 16 * (i / 16) + k < i + 1) ∧ (m.lf k).there = true ∧ (m.lf k).fr = fr then { m.lf k with wr := false } else m.lf k) = (fun k => if (k < 16 ∧ 16 * (i / 16) + k < i) ∧ (m.lf k).there = true ∧ (m.lf k).fr = fr then { m.lf k with wr := false } else m.lf k) := by
    funext k
    by_cases hk : k = i % 16
    · rw [hk, if_neg (fun c => hn c.2), if_neg (fun c => hn c.2)]
    · have e : (k < 16 ∧ 16 * (i / 16) + k < i + 1) ↔ (k < 16 ∧ 16 * (i / 16) + k < i) := by omega
      by_cases hc : (k < 16 ∧ 16 * (i / 16) + k < i) ∧ (m.lf k).there = true ∧ (m.lf k).fr = fr
      · rw [if_pos hc, if_pos ⟨e.2 hc.1, hc.2⟩]
      · rw [if_neg hc, if_neg (fun c => hc ⟨e.1 c.1, c.2⟩)]
  rw [this]
theorem sealOf_step (m : Mp) (fr : Int) {i : Nat} (ht : (m.lf (i % 16)).there = true) (hf : (m.lf (i % 16)).fr = fr) : (sealR (sealOf m (16 * (i / 16)) fr i) ((i % 16 : Nat) : Int)).2 = sealOf m (16 * (i / 16)) fr (i + 1) := by
  have hon : onB ((i % 16 : Nat) : Int) = true := (onB_iff _).2 (by omega)
  have hat : (sealOf m (16 * (i / 16)) fr i).lf (i % 16) = m.lf (i % 16) := by
    unfold sealOf
    simp only
    rw [if_neg (by omega)]
  unfold sealR
  rw [if_pos hon, Int.toNat_natCast, hat, if_pos ht]
  show ({ sealOf m (16 * (i / 16)) fr i with lf := setAt (sealOf m (16 * (i / 16)) fr i).lf (i % 16) { m.lf (i % 16) with wr := false } } : Mp) = _
  have : setAt (sealOf m (16 * (i / 16)) fr i).lf (i % 16) { m.lf (i % 16) with wr := false } = (sealOf m (16 * (i / 16)) fr (i + 1)).lf := by
    funext k
    by_cases hk : k = i % 16
    · subst hk
      rw [setAt_same]
      unfold sealOf
      simp only
      rw [if_pos ⟨⟨by omega, by omega⟩, ht, hf⟩]
    · rw [setAt_other _ _ _ _ hk]
      unfold sealOf
      simp only
      have e : (k < 16 ∧ 16 * (i / 16) + k < i + 1) ↔ (k < 16 ∧ 16 * (i / 16) + k < i) := by omega
      by_cases hc : (k < 16 ∧ 16 * (i / 16) + k < i) ∧ (m.lf k).there = true ∧ (m.lf k).fr = fr
      · rw [if_pos hc, if_pos ⟨e.2 hc.1, hc.2⟩]
      · rw [if_neg hc, if_neg (fun c => hc ⟨e.1 c.1, c.2⟩)]
  rw [this]
  rfl
theorem Hs.ext' {a b : Hs} (h1 : a.s = b.s) (h2 : ∀ j, a.g j = b.g j) : a = b := by
  cases a
  cases b
  simp only at h1 h2
  rw [h1, funext h2]
theorem sealTo_none (h : Hs) (fr : Int) {i : Nat} (hx : h.g (i / 16) = none) : hSealTo h fr (i + 1) = hSealTo h fr i := by
  refine Hs.ext' rfl (fun j => ?_)
  show (h.g j).map _ = (h.g j).map _
  by_cases e : j = i / 16
  · rw [e, hx]; rfl
  · cases h.g j with
    | none => rfl
    | some z =>
      simp only [Option.map_some]
      rw [sealOf_next _ _ e]
theorem sealTo_skip (h : Hs) (fr : Int) {i : Nat} (hx : h.g (i / 16) = some x) (hn : ¬ ((x.m.lf (i % 16)).there = true ∧ (x.m.lf (i % 16)).fr = fr)) : hSealTo h fr (i + 1) = hSealTo h fr i := by
  refine Hs.ext' rfl (fun j => ?_)
  show (h.g j).map _ = (h.g j).map _
  by_cases e : j = i / 16
  · subst e
    rw [hx]
    simp only [Option.map_some]
    rw [sealOf_skip _ _ hn]
  · cases h.g j with
    | none => rfl
    | some z =>
      simp only [Option.map_some]
      rw [sealOf_next _ _ e]
theorem sealTo_step (h : Hs) (fr : Int) {i : Nat} (hx : h.g (i / 16) = some x) (ht : (x.m.lf (i % 16)).there = true) (hf : (x.m.lf (i % 16)).fr = fr) :
    (hSealTo h fr i).put (i / 16) (gSeal h.s { x with m := sealOf x.m (16 * (i / 16)) fr i } ((i % 16 : Nat) : Int)).2 = hSealTo h fr (i + 1) := by
  refine Hs.ext' rfl (fun j => ?_)
  by_cases e : j = i / 16
  · subst e
    rw [put_at, sealTo_at h fr (i + 1) hx]
    show some ({ x with m := (sealR (sealOf x.m (16 * (i / 16)) fr i) ((i % 16 : Nat) : Int)).2 } : Gs) = _
    rw [sealOf_step _ _ ht hf]
  · show setAt (hSealTo h fr i).g (i / 16) _ j = _
    rw [setAt_other _ _ _ _ e]
    show (h.g j).map _ = (h.g j).map _
    cases h.g j with
    | none => rfl
    | some z =>
      simp only [Option.map_some]
      rw [sealOf_next _ _ e]
theorem HInv.seal1 (hi : HInv h W) (hx : h.g n = some x) (k : Int) : HInv (h.put n (gSeal h.s x k).2) W :=
  hi.put hx ((hi.ginv hx).seal k) (hi.gi n x hx).2.di rfl (Int.le_refl _)
theorem HInv.sealTo (hi : HInv h W) (fr : Int) : ∀ i, HInv (hSealTo h fr i) W
  | 0 => by rw [sealTo_zero]; exact hi
  | i + 1 => by
    have ih := hi.sealTo fr i
    cases hx : h.g (i / 16) with
    | none => rw [sealTo_none h fr hx]; exact ih
    | some x =>
      by_cases hc : (x.m.lf (i % 16)).there = true ∧ (x.m.lf (i % 16)).fr = fr
      · rw [← sealTo_step h fr hx hc.1 hc.2]
        exact ih.seal1 (sealTo_at h fr i hx) _
      · rw [sealTo_skip h fr hx hc]; exact ih
/-- A leaf of the row, whatever was sealed. -/
theorem sealTo_leaf (m : Mp) (base : Nat) (fr : Int) (i k : Nat) : ((sealOf m base fr i).lf k).there = (m.lf k).there ∧ ((sealOf m base fr i).lf k).fr = (m.lf k).fr := by
  unfold sealOf
  simp only
  split <;> exact ⟨rfl, rfl⟩
/-- The first hit. -/
theorem hFst_at {fr : Int} {k N : Nat} (hk : k < N) (hno : ∀ i, i < k → hHit h fr i = false) (hh : hHit h fr k = true) : hFst h fr 0 N = some k := by
  rcases hFst_spec h fr N 0 with ⟨j, e, _, b, c, d⟩ | ⟨_, d⟩
  · have : j = k := by
      rcases Nat.lt_trichotomy j k with h1 | h1 | h1
      · have := hno j h1; rw [c] at this; simp at this
      · exact h1
      · have := d k (by omega) h1; rw [hh] at this; simp at this
    rw [e, this]
  · have := d k (by omega) (by omega)
    rw [hh] at this; simp at this
theorem hFst_non {fr : Int} {N : Nat} (hno : ∀ i, i < N → hHit h fr i = false) : hFst h fr 0 N = none := by
  rcases hFst_spec h fr N 0 with ⟨j, _, _, b, c, _⟩ | ⟨e, _⟩
  · have := hno j (by omega); rw [c] at this; simp at this
  · exact e
theorem hHit_none {fr : Int} {k : Nat} (hx : h.g (k / 16) = none) : hHit h fr k = false := by
  unfold hHit rowL
  rw [hx]
  simp [gLf, lf0]
theorem row_some {k : Nat} (hx : h.g (k / 16) = some x) : rowL h k = x.m.lf (k % 16) := by
  unfold rowL
  rw [hx]
  rfl
end Go.Proofs.YtadpibcgjgcjhabGreatDoor
