/- A host's blocks of pages are plugged and unplugged, plainly; pages are given and wanted back; guests come and go. -/
import Derived.Test.YtadpibcgjgcjhabGreatDoorHoH
namespace Go.Proofs.YtadpibcgjgcjhabGreatDoor
open Go.RowKit
variable {h : Hs} {t t' : Nat → Nat → Int} {F : Nat → Option Fl} {W W' : Int} {n : Nat} {x y : Gs} {f f' : Fl} {s' : Pl}

/-- As HF, but for what is promised and for the blocks. -/
structure HG (h : Hs) (t : Nat → Nat → Int) (F : Nat → Option Fl) (W : Int) : Prop where
  hq : HQ h t W
  non : ∀ i, h.g i = none ↔ F i = none
  fl : ∀ i x f, h.g i = some x → F i = some f → FR i x t f
theorem HF.hg (hf : HF h t F W) : HG h t F W := ⟨hf.hr.hq, hf.non, hf.fl⟩
theorem HG.turn (hg : HG h t F W) (hx : h.g n = some x) (hq : F n = some f) {k : Nat} (hk : k < 16) {z : Int} (z0 : 0 ≤ z) (z2 : z ≤ 2) (hz : z = 1 → x.m.st k ≠ 1) :
    HG (h.put n (gTurn h.s x k z)) (setAt t (16 * n + k) fun _ => 0) (setAt F n (some (fTurn f k z))) W := by
  obtain ⟨h1, _, _⟩ := hg.hq.turn hx hk z0 z2 hz
  have hv := (hg.fl n x f hx hq).turn h.s hk z
  refine ⟨h1, fun i => ?_, fun i y q hy hq => ?_⟩
  · by_cases e : i = n
    · subst e; rw [put_at, setAt_same]; simp
    · rw [setAt_other _ _ _ _ e]
      show setAt h.g n _ i = none ↔ _
      rw [setAt_other _ _ _ _ e]
      exact hg.non i
  · by_cases e : i = n
    · subst e; rw [put_at] at hy; rw [setAt_same] at hq; cases hy; cases hq; exact hv
    · have hy' : h.g i = some y := by rw [← hy]; exact (setAt_other _ _ _ _ e).symm
      rw [setAt_other _ _ _ _ e] at hq
      exact (hg.fl i y q hy' hq).other (fun p hp => setAt_other _ _ _ _ (by omega))
/-- The first pages of a block turn. -/
def turnTo (s : Pl) (x : Gs) (b : Nat) (z : Int) : Nat → Pl × Gs
  | 0 => (s, x)
  | j + 1 => gTurn (turnTo s x b z j).1 (turnTo s x b z j).2 (4 * b + j) z
def fTurnTo (f : Fl) (b : Nat) (z : Int) : Nat → Fl
  | 0 => f
  | j + 1 => fTurn (fTurnTo f b z j) (4 * b + j) z
def zeroTo (t : Nat → Nat → Int) (p : Nat) : Nat → Nat → Nat → Int
  | 0 => t
  | j + 1 => setAt (zeroTo t p j) (p + j) fun _ => 0
theorem turnTo_st (s : Pl) (x : Gs) (b : Nat) (z : Int) (i : Nat) : ∀ j, (turnTo s x b z j).2.m.st i = if 4 * b ≤ i ∧ i < 4 * b + j then z else x.m.st i
  | 0 => by rw [if_neg (by omega)]; rfl
  | j + 1 => by
    have := turnTo_st s x b z i j
    show setAt (turnTo s x b z j).2.m.st (4 * b + j) z i = _
    by_cases e : i = 4 * b + j
    · subst e; rw [setAt_same, if_pos (by omega)]
    · rw [setAt_other _ _ _ _ e, this]
      by_cases e2 : 4 * b ≤ i ∧ i < 4 * b + j
      · rw [if_pos e2, if_pos (by omega)]
      · rw [if_neg e2, if_neg (by omega)]
theorem turnTo_root (s : Pl) (x : Gs) (b : Nat) (z : Int) : ∀ j, (turnTo s x b z j).1.n = s.n
  | 0 => rfl
  | j + 1 => by
    have := turnTo_root s x b z j
    show (turnP _ _ _ _).n = _
    rw [turnP_n, this]
theorem HG.turns (hg : HG h t F W) (hx : h.g n = some x) (hq : F n = some f) {b : Nat} (hb : b < 4) {z : Int} (z0 : 0 ≤ z) (z2 : z ≤ 2) (hz : z = 1 → ∀ j, j < 4 → x.m.st (4 * b + j) ≠ 1) : ∀ j, j ≤ 4 →
    HG (h.put n (turnTo h.s x b z j)) (zeroTo t (16 * n + 4 * b) j) (setAt F n (some (fTurnTo f b z j))) W ∧ (z = 1 → pln (rowS (h.put n (turnTo h.s x b z j))) 64 = pln (rowS h) 64 + j) ∧ (z ≠ 1 → pln (rowS (h.put n (turnTo h.s x b z j))) 64 ≤ pln (rowS h) 64)
  | 0, _ => by
    have e : h.put n (turnTo h.s x b z 0) = h := Hs.put_self hx
    rw [e]
    refine ⟨?_, fun _ => rfl, fun _ => Nat.le_refl _⟩
    rw [show setAt F n (some (fTurnTo f b z 0)) = F from setAt_self _ _ _ hq]
    exact hg
  | j + 1, hj => by
    obtain ⟨h1, h2, h3⟩ := hg.turns hx hq hb z0 z2 hz j (by omega)
    have hn := (hg.hq.inv.gi n x hx).1
    have hst := turnTo_st h.s x b z (4 * b + j) j
    rw [if_neg (by omega)] at hst
    have hzz : z = 1 → (turnTo h.s x b z j).2.m.st (4 * b + j) ≠ 1 := fun e => by rw [hst]; exact hz e j (by omega)
    have h4 := h1.turn (k := 4 * b + j) (put_at _ _ _) (setAt_same _ _ _) (by omega) z0 z2 hzz
    obtain ⟨_, h5, _⟩ := h1.hq.turn (k := 4 * b + j) (put_at _ _ _) (by omega) z0 z2 hzz
    rw [put_put] at h4 h5
    have e1 : setAt (setAt F n (some (fTurnTo f b z j))) n (some (fTurn (fTurnTo f b z j) (4 * b + j) z)) = setAt F n (some (fTurnTo f b z (j + 1))) := by
      funext i
      by_cases e : i = n
      · subst e; rw [setAt_same, setAt_same]; rfl
      · rw [setAt_other _ _ _ _ e, setAt_other _ _ _ _ e, setAt_other _ _ _ _ e]
    have e2 : setAt (zeroTo t (16 * n + 4 * b) j) (16 * n + (4 * b + j)) (fun _ => 0) = zeroTo t (16 * n + 4 * b) (j + 1) := by
      rw [show 16 * n + (4 * b + j) = 16 * n + 4 * b + j by omega]; rfl
    rw [e1, e2] at h4
    have h6 := pln_set (rowS (h.put n (turnTo h.s x b z j))) (16 * n + (4 * b + j)) z 64 (by omega)
    have h7 : rowS (h.put n (turnTo h.s x b z j)) (16 * n + (4 * b + j)) = x.m.st (4 * b + j) := by rw [rowS_at (put_at _ _ _) (by omega)]; exact hst
    rw [h7] at h6
    have h8 : h.put n (turnTo h.s x b z (j + 1)) = h.put n (gTurn (h.put n (turnTo h.s x b z j)).s (turnTo h.s x b z j).2 (4 * b + j) z) := rfl
    refine ⟨h4, fun e => ?_, fun e => ?_⟩
    · rw [h8, h5]
      have := h2 e
      rw [if_neg (hz e j (by omega)), if_pos e] at h6
      omega
    · rw [h8, h5]
      have := h3 e
      rw [if_neg e] at h6
      omega
/-- A whole block has turned. -/
theorem HF.block (hf : HF h t F W) (hx : h.g n = some x) (hq : F n = some f) {b : Nat} (hb : b < 4) {z : Int} (z0 : 0 ≤ z) (z1 : z ≤ 1) (hz : z = 1 → x.m.st (4 * b) = 0 ∧ pln (rowS h) 64 + 4 ≤ h.s.n) :
    HF (h.put n (turnTo h.s x b z 4)) (zeroTo t (16 * n + 4 * b) 4) (setAt F n (some (fTurnTo f b z 4))) W := by
  have hblk := hf.blk n x hx
  obtain ⟨h1, h2, h3⟩ := hf.hg.turns hx hq hb z0 (by omega) (fun e j hj => by
    have := (hblk b j hb hj).1 (hz e).1
    omega) 4 (Nat.le_refl _)
  have hs : (h.put n (turnTo h.s x b z 4)).s.n = h.s.n := turnTo_root _ _ _ _ _
  refine ⟨⟨h1.hq.inv, h1.hq.ri, ?_⟩, fun i y hy => ?_, h1.non, h1.fl⟩
  · rw [hs]
    by_cases e : z = 1
    · have := h2 e; have := (hz e).2; omega
    · have := h3 e; have := hf.hr.le; omega
  · by_cases e : i = n
    · subst e
      rw [put_at] at hy
      cases hy
      intro b' j hb' hj
      rw [turnTo_st, turnTo_st]
      by_cases e2 : b' = b
      · subst e2
        rw [if_pos (by omega), if_pos (by omega)]
      · rw [if_neg (by omega), if_neg (by omega)]
        exact hblk b' j hb' hj
    · have hy' : h.g i = some y := by rw [← hy]; exact (setAt_other _ _ _ _ e).symm
      exact hf.blk i y hy'
/-- One page turns, and is not Absent ahead of it or behind it. -/
theorem HF.page (hf : HF h t F W) (hx : h.g n = some x) (hq : F n = some f) {k : Nat} (hk : k < 16) {z : Int} (z0 : 1 ≤ z) (z2 : z ≤ 2) (hs : x.m.st k ≠ 0) (hz : z = 1 → x.m.st k ≠ 1 ∧ pln (rowS h) 64 + 1 ≤ h.s.n) :
    HF (h.put n (gTurn h.s x k z)) (setAt t (16 * n + k) fun _ => 0) (setAt F n (some (fTurn f k z))) W := by
  have h1 := hf.hg.turn hx hq hk (by omega) z2 (fun e => (hz e).1)
  obtain ⟨_, h2, h3⟩ := hf.hr.hq.turn hx hk (by omega) z2 (fun e => (hz e).1)
  have hn := (hf.hr.inv.gi n x hx).1
  have h4 := pln_set (rowS h) (16 * n + k) z 64 (by omega)
  refine ⟨⟨h1.hq.inv, h1.hq.ri, ?_⟩, fun i y hy => ?_, h1.non, h1.fl⟩
  · rw [h2, h3]
    have := hf.hr.le
    by_cases e : z = 1
    · have h5 := (hz e).2
      rw [if_pos e] at h4
      omega
    · rw [if_neg e] at h4
      omega
  · by_cases e : i = n
    · subst e
      rw [put_at] at hy
      cases hy
      have hblk := hf.blk i x hx
      intro b j hb hj
      show setAt x.m.st k z (4 * b) = 0 ↔ setAt x.m.st k z (4 * b + j) = 0
      have key : ∀ i, setAt x.m.st k z i = 0 ↔ x.m.st i = 0 := fun i => by
        by_cases e : i = k
        · subst e
          rw [setAt_same]
          constructor
          · intro e2; omega
          · intro e2; exact absurd e2 hs
        · rw [setAt_other _ _ _ _ e]
      rw [key, key]
      exact hblk b j hb hj
    · have hy' : h.g i = some y := by rw [← hy]; exact (setAt_other _ _ _ _ e).symm
      exact hf.blk i y hy'
end Go.Proofs.YtadpibcgjgcjhabGreatDoor
