/- A host's blocks of pages are plugged and unplugged, plainly; pages are given and wanted back; guests come and go. -/
import Derived.Test.YtadpibcgjgcjhabGreatDoorPart09
namespace Go.Proofs.YtadpibcgjgcjhabGreatDoor
open Go.RowKit
variable {h : Hs} {t t' : Nat → Nat → Int} {F : Nat → Option Fl} {W W' : Int} {n : Nat} {x y : Gs} {f f' : Fl} {s' : Pl}

/-- As HF, but for what is promised and for the blocks. -/
structure HG (h : Hs) (t : Nat → Nat → Int) (F : Nat → Option Fl) (W : Int) : Prop where
  hq : HQ h t W
  non : ∀ i, h.g i = none ↔ F i = none
  fl : ∀ i x f, h.g i = some x → F i = some f → FR i x t f
theorem HF.hg (hf : HF h t F W) : HG h t F W := ⟨hf.hr.hq, hf.non, hf.fl⟩
theorem HG.turn (hg : HG h t F W) (hx : h.g n = some x) (hq : F n = some f) {k : Nat} (hk : k < 16) {z : Int} (z0 : 0 ≤ z) (z2 : z ≤ 2) (hz : z = 1 → x.m.st k ≠ 1) :
    HG (h.put n (gTurn h.s x k z)) (setAt t (16 * n + k) fun _ => 0) (setAt F n (some (fTurn f k z))) W := by
  obtain ⟨h1, _, _⟩ := hg.hq.turn hx hk z0 z2 hz
  have hv := (hg.fl n x f hx hq).turn h.s hk z
  refine ⟨h1, fun i => ?_, fun i y q hy hq => ?_⟩
  · by_cases e : i = n
    · subst e; rw [put_at, setAt_same]; simp
    · rw [setAt_other _ _ _ _ e]
      show setAt h.g n _ i = none ↔ _
      rw [setAt_other _ _ _ _ e]
      exact hg.non i
  · by_cases e : i = n
    · subst e; rw [put_at] at hy; rw [setAt_same] at hq; cases hy; cases hq; exact hv
    · have hy' : h.g i = some y := by rw [← hy]; exact (setAt_other _ _ _ _ e).symm
      rw [setAt_other _ _ _ _ e] at hq
      exact (hg.fl i y q hy' hq).other (fun p hp => setAt_other _ _ _ _ (by omega))
/-- The first pages of a block turn. -/
def turnTo (s : Pl) (x : Gs) (b : Nat) (z : Int) : Nat → Pl × Gs
  | 0 => (s, x)
  | j + 1 => gTurn (turnTo s x b z j).1 (turnTo s x b z j).2 (4 * b + j) z
def fTurnTo (f : Fl) (b : Nat) (z : Int) : Nat → Fl
  | 0 => f
  | j + 1 => fTurn (fTurnTo f b z j) (4 * b + j) z
def zeroTo (t : Nat → Nat → Int) (p : Nat) : Nat → Nat → Nat → Int
  | 0 => t
  | j + 1 => setAt (zeroTo t p j) (p + j) fun _ => 0
theorem turnTo_st (s : Pl) (x : Gs) (b : Nat) (z : Int) (i : Nat) : ∀ j, (turnTo s x b z j).2.m.st i = if 4 * b ≤ i ∧ i < 4 * b + j then z else x.m.st i
  | 0 => by rw [if_neg (by omega)]; rfl
  | j + 1 => by
    have := turnTo_st s x b z i j
    show setAt (turnTo s x b z j).2.m.st (4 * b + j) z i = _
    by_cases e : i = 4 * b + j
    · subst e; rw [setAt_same, if_pos (by omega)]
    · rw [setAt_other _ _ _ _ e, this]
      by_cases e2 : 4 * b ≤ i ∧ i < 4 * b + j
      · rw [if_pos e2, if_pos (by omega)]
      · rw [if_neg e2, if_neg (by omega)]
theorem turnTo_root (s : Pl) (x : Gs) (b : Nat) (z : Int) : ∀ j, (turnTo s x b z j).1.n = s.n
  | 0 => rfl
  | j + 1 => by
    have := turnTo_root s x b z j
    show (turnP _ _ _ _).n = _
    rw [turnP_n, this]
theorem HG.turns (hg : HG h t F W) (hx : h.g n = some x) (hq : F n = some f) {b : Nat} (hb : b < 4) {z : Int} (z0 : 0 ≤ z) (z2 : z ≤ 2) (hz : z = 1 → ∀ j, j < 4 → x.m.st (4 * b + j) ≠ 1) : ∀ j, j ≤ 4 →
    HG (h.put n (turnTo h.s x b z j)) (zeroTo t (16 * n + 4 * b) j) (setAt F n (some (fTurnTo f b z j))) W ∧ (z = 1 → pln (rowS (h.put n (turnTo h.s x b z j))) 64 = pln (rowS h) 64 + j) ∧ (z ≠ 1 → pln (rowS (h.put n (turnTo h.s x b z j))) 64 ≤ pln (rowS h) 64)
  | 0, _ => by
    have e : h.put n (turnTo h.s x b z 0) = h := Hs.put_self hx
    rw [e]
    refine ⟨?_, fun _ => rfl, fun _ => Nat.le_refl _⟩
    rw [show setAt F n (some (fTurnTo f b z 0)) = F from setAt_self _ _ _ hq]
    exact hg
  | j + 1, hj => by
    obtain ⟨h1, h2, h3⟩ := hg.turns hx hq hb z0 z2 hz j (by omega)
    have hn := (hg.hq.inv.gi n x hx).1
    have hst := turnTo_st h.s x b z (4 * b + j) j
    rw [if_neg (by omega)] at hst
    have hzz : z = 1 → (turnTo h.s x b z j).2.m.st (4 * b + j) ≠ 1 := fun e => by rw [hst]; exact hz e j (by omega)
    have h4 := h1.turn (k := 4 * b + j) (put_at _ _ _) (setAt_same _ _ _) (by omega) z0 z2 hzz
    obtain ⟨_, h5, _⟩ := h1.hq.turn (k := 4 * b + j) (put_at _ _ _) (by omega) z0 z2 hzz
    rw [put_put] at h4 h5
    have e1 : setAt (setAt F n (some (fTurnTo f b z j))) n (some (fTurn (fTurnTo f b z j) (4 * b + j) z)) = setAt F n (some (fTurnTo f b z (j + 1))) := by
      funext i
      by_cases e : i = n
      · subst e; rw [setAt_same, setAt_same]; rfl
      · rw [setAt_other _ _ _ _ e, setAt_other _ _ _ _ e, setAt_other _ _ _ _ e]
    have e2 : setAt (zeroTo t (16 * n + 4 * b) j) (16 * n + (4 * b + j)) (fun _ => 0) = zeroTo t (16 * n + 4 * b) (j + 1) := by
      rw [show 16 * n + (4 * b + j) = 16 * n + 4 * b + j by omega]; rfl
    rw [e1, e2] at h4
    have h6 := pln_set (rowS (h.put n (turnTo h.s x b z j))) (16 * n + (4 * b + j)) z 64 (by omega)
    have h7 : rowS (h.put n (turnTo h.s x b z j)) (16 * n + (4 * b + j)) = x.m.st (4 * b + j) := by rw [rowS_at (put_at _ _ _) (by omega)]; exact hst
    rw [h7] at h6
    have h8 : h.put n (turnTo h.s x b z (j + 1)) = h.put n (gTurn (h.put n (turnTo h.s x b z j)).s (turnTo h.s x b z j).2 (4 * b + j) z) := rfl
    refine ⟨h4, fun e => ?_, fun e => ?_⟩
    · rw [h8, h5]
      have := h2 e
      rw [if_neg (hz e j (by omega)), if_pos e] at h6
      omega
    · rw [h8, h5]
      have := h3 e
      rw [if_neg e] at h6
      omega
/-- A whole block has turned. -/
theorem HF.block (hf : HF h t F W) (hx : h.g n = some x) (hq : F n = some f) {b : Nat} (hb : b < 4) {z : Int} (z0 : 0 ≤ z) (z1 : z ≤ 1) (hz : z = 1 → x.m.st (4 * b) = 0 ∧ pln (rowS h) 64 + 4 ≤ h.s.n) :
    HF (h.put n (turnTo h.s x b z 4)) (zeroTo t (16 * n + 4 * b) 4) (setAt F n (some (fTurnTo f b z 4))) W := by
  have hblk := hf.blk n x hx
  obtain ⟨h1, h2, h3⟩ := hf.hg.turns hx hq hb z0 (by omega) (fun e j hj => by
    have := (hblk b j hb hj).1 (hz e).1
    omega) 4 (Nat.le_refl _)
  have hs : (h.put n (turnTo h.s x b z 4)).s.n = h.s.n := turnTo_root _ _ _ _ _
  refine ⟨⟨h1.hq.inv, h1.hq.ri, ?_⟩, fun i y hy => ?_, h1.non, h1.fl⟩
  · rw [hs]
    by_cases e : z = 1
    · have := h2 e; have := (hz e).2; omega
    · have := h3 e; have := hf.hr.le; omega
  · by_cases e : i = n
    · subst e
      rw [put_at] at hy
      cases hy
      intro b' j hb' hj
      rw [turnTo_st, turnTo_st]
      by_cases e2 : b' = b
      · subst e2
        rw [if_pos (by omega), if_pos (by omega)]
      · rw [if_neg (by omega), if_neg (by omega)]
        exact hblk b' j hb' hj
    · have hy' : h.g i = some y := by rw [← hy]; exact (setAt_other _ _ _ _ e).symm
      exact hf.blk i y hy'
/-- One page turns, and is not Absent ahead of it or behind it. -/
theorem HF.page (hf : HF h t F W) (hx : h.g n = some x) (hq : F n = some f) {k : Nat} (hk : k < 16) {z : Int} (z0 : 1 ≤ z) (z2 : z ≤ 2) (hs : x.m.st k ≠ 0) (hz : z = 1 → x.m.st k ≠ 1 ∧ pln (rowS h) 64 + 1 ≤ h.s.n) :
    HF (h.put n (gTurn h.s x k z)) (setAt t (16 * n + k) fun _ => 0) (setAt F n (some (fTurn f k z))) W := by
  have h1 := hf.hg.turn hx hq hk (by omega) z2 (fun e => (hz e).1)
  obtain ⟨_, h2, h3⟩ := hf.hr.hq.turn hx hk (by omega) z2 (fun e => (hz e).1)
  have hn := (hf.hr.inv.gi n x hx).1
  have h4 := pln_set (rowS h) (16 * n + k) z 64 (by omega)
  refine ⟨⟨h1.hq.inv, h1.hq.ri, ?_⟩, fun i y hy => ?_, h1.non, h1.fl⟩
  · rw [h2, h3]
    have := hf.hr.le
    by_cases e : z = 1
    · have h5 := (hz e).2
      rw [if_pos e] at h4
      omega
    · rw [if_neg e] at h4
      omega
  · by_cases e : i = n
    · subst e
      rw [put_at] at hy
      cases hy
      have hblk := hf.blk i x hx
      intro b j hb hj
      show setAt x.m.st k z (4 * b) = 0 ↔ setAt x.m.st k z (4 * b + j) = 0
      have key : ∀ i, setAt x.m.st k z i = 0 ↔ x.m.st i = 0 := fun i => by
        by_cases e : i = k
        · subst e
          rw [setAt_same]
          constructor
          · intro e2; omega
          · intro e2; exact absurd e2 hs
        · rw [setAt_other _ _ _ _ e]
      rw [key, key]
      exact hblk b j hb hj
    · have hy' : h.g i = some y := by rw [← hy]; exact (setAt_other _ _ _ _ e).symm
      exact hf.blk i y hy'
end Go.Proofs.YtadpibcgjgcjhabGreatDoor
/- Guests come and go, plainly; the document's loops over pages are turns. -/
namespace Go.Proofs.YtadpibcgjgcjhabGreatDoor
open Go.RowKit
variable {h : Hs} {t t' : Nat → Nat → Int} {F : Nat → Option Fl} {W W' : Int} {n : Nat} {x y : Gs} {f f' : Fl} {s' : Pl}

theorem gPlug_yes (s : Pl) (x : Gs) {k : Nat} (hk : k < 16) (h0 : x.m.st k = 0) : gPlug s x (k : Int) = (0, gTurn s x k 1) := by
  have ho : onB (k : Int) = true := (onB_iff _).2 ⟨by omega, by omega⟩
  unfold gPlug gMap plugR
  simp only [ho, if_true, Int.toNat_natCast, h0]
  rfl
theorem gUnplug_yes (s : Pl) (x : Gs) {k : Nat} (hk : k < 16) (h0 : x.m.st k ≠ 0) : gUnplug s x (k : Int) = (0, gTurn s x k 0) := by
  have ho : onB (k : Int) = true := (onB_iff _).2 ⟨by omega, by omega⟩
  unfold gUnplug gMap unplugR
  simp only [ho, if_true, Int.toNat_natCast, h0, if_false]
  rfl
theorem gUnplug_no (s : Pl) (x : Gs) {k : Nat} (hk : k < 16) (h0 : x.m.st k = 0) : gUnplug s x (k : Int) = (2, s, x) := by
  have ho : onB (k : Int) = true := (onB_iff _).2 ⟨by omega, by omega⟩
  unfold gUnplug gMap unplugR
  simp only [ho, if_true, Int.toNat_natCast, h0]
/-- Plug's loop. -/
def gPlugs (s : Pl) (x : Gs) (b : Nat) : Nat → Pl × Gs
  | 0 => (s, x)
  | j + 1 => (gPlug (gPlugs s x b j).1 (gPlugs s x b j).2 ((4 * b + j : Nat) : Int)).2
/-- Unplug's loop: it ends at an error. -/
def gUnplugs (s : Pl) (x : Gs) (b : Nat) : Nat → Int × Pl × Gs
  | 0 => (0, s, x)
  | j + 1 => if 0 < (gUnplugs s x b j).1 then gUnplugs s x b j else gUnplug (gUnplugs s x b j).2.1 (gUnplugs s x b j).2.2 ((4 * b + j : Nat) : Int)
/-- Remove's loop. -/
def gClear (s : Pl) (x : Gs) : Nat → Pl × Gs
  | 0 => (s, x)
  | j + 1 => (gUnplug (gClear s x j).1 (gClear s x j).2 ((j : Nat) : Int)).2
theorem gPlugs_is (s : Pl) (x : Gs) {b : Nat} (hb : b < 4) (h0 : ∀ j, j < 4 → x.m.st (4 * b + j) = 0) : ∀ j, j ≤ 4 → gPlugs s x b j = turnTo s x b 1 j
  | 0, _ => rfl
  | j + 1, hj => by
    have ih := gPlugs_is s x hb h0 j (by omega)
    have hst := turnTo_st s x b 1 (4 * b + j) j
    rw [if_neg (by omega), h0 j (by omega)] at hst
    show (gPlug (gPlugs s x b j).1 (gPlugs s x b j).2 ((4 * b + j : Nat) : Int)).2 = gTurn _ _ _ _
    rw [ih, gPlug_yes _ _ (by omega) hst]
theorem gUnplugs_is (s : Pl) (x : Gs) {b : Nat} (hb : b < 4) (h0 : ∀ j, j < 4 → x.m.st (4 * b + j) ≠ 0) : ∀ j, j ≤ 4 → gUnplugs s x b j = (0, turnTo s x b 0 j)
  | 0, _ => rfl
  | j + 1, hj => by
    have ih := gUnplugs_is s x hb h0 j (by omega)
    have hst := turnTo_st s x b 0 (4 * b + j) j
    rw [if_neg (by omega)] at hst
    show (if 0 < (gUnplugs s x b j).1 then gUnplugs s x b j else gUnplug (gUnplugs s x b j).2.1 (gUnplugs s x b j).2.2 ((4 * b + j : Nat) : Int)) = (0, gTurn _ _ _ _)
    rw [ih, if_neg (by omega), gUnplug_yes _ _ (by omega) (by rw [hst]; exact h0 j (by omega))]
theorem gUnplugs_no (s : Pl) (x : Gs) {b : Nat} (hb : b < 4) (h0 : x.m.st (4 * b) = 0) : ∀ j, gUnplugs s x b (j + 1) = (2, s, x)
  | 0 => by
    show (if 0 < (0 : Int) then _ else gUnplug s x ((4 * b + 0 : Nat) : Int)) = _
    rw [if_neg (by omega), Nat.add_zero, gUnplug_no _ _ (by omega) h0]
  | j + 1 => by
    have ih := gUnplugs_no s x hb h0 j
    show (if 0 < (gUnplugs s x b (j + 1)).1 then gUnplugs s x b (j + 1) else _) = _
    rw [ih, if_pos (by simp)]
theorem gClear_st (s : Pl) (x : Gs) (i : Nat) : ∀ j, j ≤ 16 → (gClear s x j).2.m.st i = if i < j then 0 else x.m.st i
  | 0, _ => by rw [if_neg (by omega)]; rfl
  | j + 1, hj => by
    have ih := gClear_st s x i j (by omega)
    show (gUnplug (gClear s x j).1 (gClear s x j).2 ((j : Nat) : Int)).2.2.m.st i = _
    by_cases h0 : (gClear s x j).2.m.st j = 0
    · rw [gUnplug_no _ _ (by omega) h0]
      simp only
      by_cases e : i = j
      · subst e; rw [h0, if_pos (by omega)]
      · rw [ih]
        by_cases e2 : i < j
        · rw [if_pos e2, if_pos (by omega)]
        · rw [if_neg e2, if_neg (by omega)]
    · rw [gUnplug_yes _ _ (by omega) h0]
      show setAt (gClear s x j).2.m.st j 0 i = _
      by_cases e : i = j
      · subst e; rw [setAt_same, if_pos (by omega)]
      · rw [setAt_other _ _ _ _ e, ih]
        by_cases e2 : i < j
        · rw [if_pos e2, if_pos (by omega)]
        · rw [if_neg e2, if_neg (by omega)]
theorem gClear_n (s : Pl) (x : Gs) : ∀ j, (gClear s x j).1.n = s.n
  | 0 => rfl
  | j + 1 => by
    have ih := gClear_n s x j
    show (unplugR _ _ _).2.1.n = _
    rw [unplug_n, ih]
/-- All pages of a guest are unplugged. -/
theorem HQ.clear (hq : HQ h t W) (hx : h.g n = some x) : ∀ j, j ≤ 16 → ∃ t', HQ (h.put n (gClear h.s x j)) t' W ∧ (∀ p, p / 16 ≠ n → t' p = t p) ∧ pln (rowS (h.put n (gClear h.s x j))) 64 ≤ pln (rowS h) 64
  | 0, _ => by
    refine ⟨t, ?_, fun _ _ => rfl, ?_⟩
    · rw [show h.put n (gClear h.s x 0) = h from Hs.put_self hx]; exact hq
    · rw [show h.put n (gClear h.s x 0) = h from Hs.put_self hx]; exact Nat.le_refl _
  | j + 1, hj => by
    obtain ⟨t1, h1, h2, h3⟩ := hq.clear hx j (by omega)
    have hn := (hq.inv.gi n x hx).1
    have e0 : h.put n (gClear h.s x (j + 1)) = h.put n (gUnplug (gClear h.s x j).1 (gClear h.s x j).2 ((j : Nat) : Int)).2 := rfl
    by_cases h0 : (gClear h.s x j).2.m.st j = 0
    · rw [e0, gUnplug_no _ _ (by omega) h0]
      exact ⟨t1, h1, h2, h3⟩
    · rw [e0, gUnplug_yes _ _ (by omega) h0]
      obtain ⟨a1, a2, a3⟩ := h1.turn (k := j) (z := 0) (put_at _ _ _) (by omega) (by omega) (by omega) (fun e => by omega)
      rw [put_put] at a1 a2
      refine ⟨_, a1, fun p hp => by rw [setAt_other _ _ _ _ (by omega)]; exact h2 p hp, ?_⟩
      have h4 := pln_set (rowS (h.put n (gClear h.s x j))) (16 * n + j) 0 64 (by omega)
      rw [if_neg (show ¬ ((0 : Int) = 1) by omega)] at h4
      have h5 : rowS (h.put n (gTurn (gClear h.s x j).1 (gClear h.s x j).2 j 0)) = _ := a2
      rw [h5]
      omega
def hOff (s : Pl) (h : Hs) (n : Nat) : Hs := ⟨s, setAt h.g n none⟩
theorem HF.remove (hf : HF h t F W) (hx : h.g n = some x) : ∃ t', HF (hOff (gClear h.s x 16).1 h n) t' (setAt F n none) W := by
  obtain ⟨t', h1, h2, h3⟩ := hf.hr.hq.clear hx 16 (Nat.le_refl _)
  have hn := (hf.hr.inv.gi n x hx).1
  have ok := (h1.inv.gi n _ (put_at _ _ _)).2
  have hz : ∀ k, k < 16 → (gClear h.s x 16).2.m.lf k = lf0 := fun k hk => by
    refine ok.pg.zero hk ?_
    have := gClear_st h.s x k 16 (Nat.le_refl _)
    rw [if_pos hk] at this
    rw [this]; omega
  have hrow : rowL (hOff (gClear h.s x 16).1 h n) = rowL (h.put n (gClear h.s x 16)) := by
    funext i
    rw [rowL_put]
    unfold rowL hOff
    simp only
    by_cases e : i / 16 = n
    · rw [if_pos e, e, setAt_same, hz _ (by omega)]; rfl
    · rw [if_neg e, setAt_other _ _ _ _ e]
  have hrowS : rowS (hOff (gClear h.s x 16).1 h n) = rowS (h.put n (gClear h.s x 16)) := by
    funext i
    rw [rowS_put]
    unfold rowS hOff
    simp only
    by_cases e : i / 16 = n
    · have := gClear_st h.s x (i % 16) 16 (Nat.le_refl _)
      rw [if_pos (by omega)] at this
      rw [if_pos e, e, setAt_same, this]; rfl
    · rw [if_neg e, setAt_other _ _ _ _ e]
  have hne : ∀ i y, (hOff (gClear h.s x 16).1 h n).g i = some y → i ≠ n ∧ h.g i = some y := fun i y hy => by
    have hy : setAt h.g n none i = some y := hy
    by_cases e : i = n
    · subst e; rw [setAt_same] at hy; cases hy
    · rw [setAt_other _ _ _ _ e] at hy; exact ⟨e, hy⟩
  refine ⟨t', ⟨⟨⟨?_, h1.inv.byt, fun i y hy => hf.hr.inv.gi i y (hne i y hy).2⟩, ?_, ?_⟩, fun i y hy => hf.blk i y (hne i y hy).2, fun i => ?_, fun i y q hy hq => ?_⟩⟩
  · have := h1.inv.cn
    rw [← hrow] at this
    exact this
  · have := h1.ri
    rw [← hrow] at this
    exact this
  · rw [hrowS]
    show _ ≤ (gClear h.s x 16).1.n
    rw [gClear_n]
    have := hf.hr.le
    omega
  · show setAt h.g n none i = none ↔ _
    by_cases e : i = n
    · subst e; rw [setAt_same, setAt_same]; simp
    · rw [setAt_other _ _ _ _ e, setAt_other _ _ _ _ e]; exact hf.non i
  · obtain ⟨e, hy'⟩ := hne i y hy
    rw [setAt_other _ _ _ _ e] at hq
    exact (hf.fl i y q hy' hq).other (fun p hp => h2 p (by omega))
theorem HF.add (hf : HF h t F W) (hn : n < 4) (hx : h.g n = none) (hW : 0 ≤ W) : HF ⟨h.s, setAt h.g n (some gs0)⟩ t (setAt F n (some fl0)) W := by
  have hrow : rowL ⟨h.s, setAt h.g n (some gs0)⟩ = rowL h := by
    funext i
    unfold rowL
    simp only
    by_cases e : i / 16 = n
    · rw [e, setAt_same, hx]; rfl
    · rw [setAt_other _ _ _ _ e]
  have hrowS : rowS ⟨h.s, setAt h.g n (some gs0)⟩ = rowS h := by
    funext i
    unfold rowS
    simp only
    by_cases e : i / 16 = n
    · rw [e, setAt_same, hx]; rfl
    · rw [setAt_other _ _ _ _ e]
  have hne : ∀ i y, setAt h.g n (some gs0) i = some y → (i = n ∧ y = gs0) ∨ (i ≠ n ∧ h.g i = some y) := fun i y hy => by
    by_cases e : i = n
    · subst e; rw [setAt_same] at hy; cases hy; exact Or.inl ⟨rfl, rfl⟩
    · rw [setAt_other _ _ _ _ e] at hy; exact Or.inr ⟨e, hy⟩
  refine ⟨⟨⟨by rw [hrow]; exact hf.hr.inv.cn, hf.hr.inv.byt, fun i y hy => ?_⟩, by rw [hrow]; exact hf.hr.ri, by rw [hrowS]; exact hf.hr.le⟩, fun i y hy => ?_, fun i => ?_, fun i y q hy hq => ?_⟩
  · rcases hne i y hy with ⟨rfl, rfl⟩ | ⟨_, hy'⟩
    · exact ⟨hn, Pgs.start, by show 0 ≤ 4; omega, dist_nil, by show (0 : Int) ≤ 0; omega, hW, by show (-1 : Int) ≤ -1; omega, by show (-1 : Int) ≤ 15; omega, fun y hy => by simp [gs0] at hy⟩
    · exact hf.hr.inv.gi i y hy'
  · rcases hne i y hy with ⟨rfl, rfl⟩ | ⟨_, hy'⟩
    · intro b j _ _; exact ⟨fun _ => rfl, fun _ => rfl⟩
    · exact hf.blk i y hy'
  · show setAt h.g n (some gs0) i = none ↔ _
    by_cases e : i = n
    · subst e; rw [setAt_same, setAt_same]; simp
    · rw [setAt_other _ _ _ _ e, setAt_other _ _ _ _ e]; exact hf.non i
  · rcases hne i y hy with ⟨rfl, rfl⟩ | ⟨e, hy'⟩
    · rw [setAt_same] at hq
      cases hq
      refine ⟨fun k _ => rfl, fun k j hk hj => ?_, rfl, rfl⟩
      show (0 : Int) = _
      have : (rowL h (16 * i + k)).there = false := by
        unfold rowL
        rw [show (16 * i + k) / 16 = i by omega, hx]; rfl
      exact (hf.hr.ri.out (16 * i + k) (by omega) this j hj).symm
    · rw [setAt_other _ _ _ _ e] at hq
      exact hf.fl i y q hy' hq
end Go.Proofs.YtadpibcgjgcjhabGreatDoor
/- A page is scanned, plainly (E4). -/
namespace Go.Proofs.YtadpibcgjgcjhabGreatDoor
open Go.RowKit
variable {h : Hs} {t t' : Nat → Nat → Int} {F : Nat → Option Fl} {W W' : Int} {n : Nat} {x y : Gs} {f f' : Fl} {s' : Pl}

/-- A page ahead that has the same bytes as a frame. -/
def hHit (h : Hs) (fr : Int) (k : Nat) : Bool := (rowL h k).there && h.s.same (rowL h k).fr fr
def hFst (h : Hs) (fr : Int) : Nat → Nat → Option Nat
  | _, 0 => none
  | k, m + 1 => if hHit h fr k = true then some k else hFst h fr (k + 1) m
theorem hFst_spec (h : Hs) (fr : Int) : ∀ m k, (∃ j, hFst h fr k m = some j ∧ k ≤ j ∧ j < k + m ∧ hHit h fr j = true ∧ ∀ i, k ≤ i → i < j → hHit h fr i = false) ∨ (hFst h fr k m = none ∧ ∀ i, k ≤ i → i < k + m → hHit h fr i = false)
  | 0, k => Or.inr ⟨rfl, fun i h1 h2 => by omega⟩
  | m + 1, k => by
    unfold hFst
    by_cases hh : hHit h fr k = true
    · rw [if_pos hh]
      exact Or.inl ⟨k, rfl, by omega, by omega, hh, fun i h1 h2 => by omega⟩
    · have hf : hHit h fr k = false := by simpa using hh
      rw [if_neg hh]
      rcases hFst_spec h fr m (k + 1) with ⟨j, e, a, b, c, d⟩ | ⟨e, d⟩
      · refine Or.inl ⟨j, e, by omega, by omega, c, fun i h1 h2 => ?_⟩
        by_cases e2 : i = k
        · subst e2; exact hf
        · exact d i (by omega) h2
      · refine Or.inr ⟨e, fun i h1 h2 => ?_⟩
        by_cases e2 : i = k
        · subst e2; exact hf
        · exact d i (by omega) (by omega)
/-- All pages of a frame are sealed, up to a place in the row. -/
def sealOf (m : Mp) (base : Nat) (fr : Int) (i : Nat) : Mp := { m with lf := fun k => if (k < 16 ∧ base + k < i) ∧ (m.lf k).there = true ∧ (m.lf k).fr = fr then { m.lf k with wr := false } else m.lf k }
def hSealTo (h : Hs) (fr : Int) (i : Nat) : Hs := ⟨h.s, fun j => (h.g j).map fun x => { x with m := sealOf x.m (16 * j) fr i }⟩
theorem sealTo_row (h : Hs) (fr : Int) (i k : Nat) : rowL (hSealTo h fr i) k = if k < i ∧ (rowL h k).there = true ∧ (rowL h k).fr = fr then { rowL h k with wr := false } else rowL h k := by
  unfold rowL hSealTo
  simp only
  cases hg : h.g (k / 16) with
  | none => simp [gLf, lf0]
  | some x =>
    simp only [Option.map_some, gLf, sealOf]
    have e1 : 16 * (k / 16) + k % 16 = k := by omega
    have e2 : k % 16 < 16 := by omega
    simp only [e1, e2, true_and]
    by_cases hc : k < i ∧ (x.m.lf (k % 16)).there = true ∧ (x.m.lf (k % 16)).fr = fr
    · exact (if_pos hc).trans (if_pos hc).symm
    · exact (if_neg hc).trans (if_neg hc).symm
theorem sealTo_rowS (h : Hs) (fr : Int) (i : Nat) : rowS (hSealTo h fr i) = rowS h := by
  funext k
  unfold rowS hSealTo
  simp only
  cases hg : h.g (k / 16) with
  | none => rfl
  | some x => rfl
theorem sealTo_keep (h : Hs) (fr : Int) (i k : Nat) : (rowL (hSealTo h fr i) k).there = (rowL h k).there ∧ (rowL (hSealTo h fr i) k).fr = (rowL h k).fr ∧ ((rowL (hSealTo h fr i) k).wr = true → (rowL h k).wr = true) := by
  rw [sealTo_row]
  split
  · exact ⟨rfl, rfl, fun e => by simp at e⟩
  · exact ⟨rfl, rfl, fun e => e⟩
theorem cntTo_kind {L M : Nat → Lf} (f : Int) : ∀ k, (∀ i, i < k → (L i).there = (M i).there ∧ (L i).fr = (M i).fr) → cntTo L f k = cntTo M f k
  | 0, _ => rfl
  | k + 1, h => by
    obtain ⟨a, b⟩ := h k (by omega)
    rw [cntTo_succ, cntTo_succ, cntTo_kind f k (fun i hi => h i (by omega))]
    unfold inIn
    rw [a, b]
theorem Pgs.sealed {m : Mp} (h : Pgs m) (base : Nat) (fr : Int) (i : Nat) : Pgs (sealOf m base fr i) := by
  intro k hk
  refine ⟨(h k hk).1, fun hc => ?_⟩
  unfold sealOf at hc ⊢
  simp only at hc ⊢
  split
  · next e =>
    rw [if_pos e] at hc
    exfalso
    rcases hc with hc | hc
    · exact hc (h.plain hk e.2.1)
    · rw [e.2.1] at hc; simp at hc
  · next e =>
    rw [if_neg e] at hc
    exact (h k hk).2 hc
theorem sealTo_g (h : Hs) (fr : Int) (i : Nat) {j : Nat} {y : Gs} (hy : (hSealTo h fr i).g j = some y) : ∃ x, h.g j = some x ∧ y = { x with m := sealOf x.m (16 * j) fr i } := by
  have hy : (h.g j).map (fun x => ({ x with m := sealOf x.m (16 * j) fr i } : Gs)) = some y := hy
  cases hx : h.g j with
  | none => rw [hx] at hy; simp at hy
  | some x => rw [hx] at hy; simp at hy; exact ⟨x, rfl, hy.symm⟩
theorem sealTo_at (h : Hs) (fr : Int) (i : Nat) {j : Nat} {x : Gs} (hx : h.g j = some x) : (hSealTo h fr i).g j = some { x with m := sealOf x.m (16 * j) fr i } := by
  show (h.g j).map _ = _
  rw [hx]; rfl
theorem HF.seal (hf : HF h t F W) (fr : Int) (i : Nat) : HF (hSealTo h fr i) t F W := by
  have hk := sealTo_keep h fr i
  refine ⟨⟨⟨⟨fun q hq => ?_, fun k hk64 ht => ?_⟩, hf.hr.inv.byt, fun j y hy => ?_⟩, ⟨fun k hk64 ht hw => ?_, fun k hk64 ht => ?_, fun k hk64 ht => ?_⟩, ?_⟩, fun j y hy => ?_, fun j => ?_, fun j y q hy hq => ?_⟩
  · rw [cntTo_kind (M := rowL h) q 64 (fun k _ => ⟨(hk k).1, (hk k).2.1⟩)]
    exact hf.hr.inv.cn.cnt q hq
  · rw [(hk k).1] at ht
    rw [(hk k).2.1]
    exact hf.hr.inv.cn.rng k hk64 ht
  · obtain ⟨x, hx, rfl⟩ := sealTo_g h fr i hy
    obtain ⟨a, b⟩ := hf.hr.inv.gi j x hx
    exact ⟨a, { b with pg := b.pg.sealed _ _ _ }⟩
  · rw [(hk k).1] at ht
    rw [(hk k).2.1]
    exact hf.hr.ri.one k hk64 ht ((hk k).2.2 hw)
  · rw [(hk k).1] at ht
    exact hf.hr.ri.out k hk64 ht
  · rw [(hk k).1] at ht
    rw [(hk k).2.1]
    exact hf.hr.ri.byt k hk64 ht
  · rw [sealTo_rowS]; exact hf.hr.le
  · obtain ⟨x, hx, rfl⟩ := sealTo_g h fr i hy
    exact hf.blk j x hx
  · rw [← hf.non j]
    show (h.g j).map _ = none ↔ _
    cases h.g j <;> simp
  · obtain ⟨x, hx, rfl⟩ := sealTo_g h fr i hy
    have := hf.fl j x q hx hq
    exact ⟨this.st, this.b, this.root, this.c⟩
/-- Frames of pages that are there: the same bytes. -/
theorem HF.same_iff (hf : HF h t F W) {i j : Nat} (hi : i < 64) (hj : j < 64) (ti : (rowL h i).there = true) (tj : (rowL h j).there = true) : h.s.same (rowL h i).fr (rowL h j).fr = true ↔ ∀ b, b < 16 → t i b = t j b := by
  have ui := hf.hr.inv.cn.used hi ti
  have uj := hf.hr.inv.cn.used hj tj
  unfold Pl.same
  simp only [Bool.and_eq_true, List.all_eq_true, List.mem_range, beq_iff_eq, ui, uj, true_and]
  constructor
  · intro hb b h16
    rw [← hf.hr.ri.byt i hi ti b h16, ← hf.hr.ri.byt j hj tj b h16]
    exact hb b h16
  · intro hb b h16
    rw [hf.hr.ri.byt i hi ti b h16, hf.hr.ri.byt j hj tj b h16]
    exact hb b h16
/-- A page is scanned. -/
def hScan (h : Hs) (n p : Int) : (Bool × Int) × Hs :=
  if 0 < hWho h n then ((false, hWho h n), h)
  else if onB p = true then
    (if ((hAt h n).m.lf p.toNat).there = true then
      (match hFst h ((hAt h n).m.lf p.toNat).fr 0 (16 * n.toNat + p.toNat) with
      | none => ((false, 0), h)
      | some k => if (rowL h k).fr = ((hAt h n).m.lf p.toNat).fr then ((false, 0), h)
        else ((true, (gJoin h.s (hAt (hSealTo h (rowL h k).fr 64) n) p (rowL h k).fr).1), (hSealTo h (rowL h k).fr 64).put n.toNat (gJoin h.s (hAt (hSealTo h (rowL h k).fr 64) n) p (rowL h k).fr).2))
    else ((false, 0), h))
  else ((false, 1), h)
/-- A page joins another's frame. -/
theorem HF.join (hf : HF h t F W) (hx : h.g n = some x) {p k : Nat} (hp : p < 16) (ht : (x.m.lf p).there = true) (hs : h.s.same (rowL h k).fr (x.m.lf p).fr = true) (hne : (rowL h k).fr ≠ (x.m.lf p).fr) :
    (gJoin h.s { x with m := sealOf x.m (16 * n) (rowL h k).fr 64 } p (rowL h k).fr).1 = 0 ∧
    HF ((hSealTo h (rowL h k).fr 64).put n (gJoin h.s { x with m := sealOf x.m (16 * n) (rowL h k).fr 64 } p (rowL h k).fr).2) t F W ∧
    rowL ((hSealTo h (rowL h k).fr 64).put n (gJoin h.s { x with m := sealOf x.m (16 * n) (rowL h k).fr 64 } p (rowL h k).fr).2) = setAt (rowL (hSealTo h (rowL h k).fr 64)) (16 * n + p) ⟨true, false, (rowL h k).fr⟩ := by
  obtain ⟨hn, _⟩ := hf.hr.inv.gi n x hx
  have h1 := hf.seal (rowL h k).fr 64
  have hx1 := sealTo_at h (rowL h k).fr 64 hx
  have hlfp : (sealOf x.m (16 * n) (rowL h k).fr 64).lf p = x.m.lf p := by
    unfold sealOf
    simp only
    rw [if_neg]
    rintro ⟨_, _, e⟩
    exact hne e.symm
  have hLp : rowL (hSealTo h (rowL h k).fr 64) (16 * n + p) = x.m.lf p := (rowL_at hx1 hp).trans hlfp
  have ho : onB (p : Int) = true := (onB_iff _).2 ⟨by omega, by omega⟩
  have hsym : h.s.same (x.m.lf p).fr (rowL h k).fr = true := by
    unfold Pl.same at hs ⊢
    simp only [Bool.and_eq_true, List.all_eq_true, List.mem_range, beq_iff_eq] at hs ⊢
    exact ⟨⟨hs.1.2, hs.1.1⟩, fun b hb => (hs.2 b hb).symm⟩
  have hj : joinR h.s (sealOf x.m (16 * n) (rowL h k).fr 64) p (rowL h k).fr = (0, ((h.s.share (rowL h k).fr 1).2.share (x.m.lf p).fr (-1)).2, { sealOf x.m (16 * n) (rowL h k).fr 64 with lf := setAt (sealOf x.m (16 * n) (rowL h k).fr 64).lf p ⟨true, false, (rowL h k).fr⟩ }) := by
    unfold joinR
    rw [if_pos ho]
    simp only [Int.toNat_natCast, hlfp, ht, hsym]
    rw [if_pos (by simp; exact fun e => hne e.symm)]
  have hgj : gJoin h.s { x with m := sealOf x.m (16 * n) (rowL h k).fr 64 } p (rowL h k).fr = (0, ((h.s.share (rowL h k).fr 1).2.share (x.m.lf p).fr (-1)).2, { x with m := { sealOf x.m (16 * n) (rowL h k).fr 64 with lf := setAt (sealOf x.m (16 * n) (rowL h k).fr 64).lf p ⟨true, false, (rowL h k).fr⟩ } }) := by
    unfold gJoin gMap
    simp only
    rw [hj]
  have hrow : rowL ((hSealTo h (rowL h k).fr 64).put n (gJoin h.s { x with m := sealOf x.m (16 * n) (rowL h k).fr 64 } p (rowL h k).fr).2) = setAt (rowL (hSealTo h (rowL h k).fr 64)) (16 * n + p) ⟨true, false, (rowL h k).fr⟩ := by
    rw [hgj]
    exact row_one hx1 hp rfl
  have hgi := (h1.hr.inv.ginv hx1).join p (rowL h k).fr
  have hri := h1.hr.ri.join h1.hr.inv.cn (p := 16 * n + p) (f := (rowL h k).fr) (by omega) (by rw [hLp]; exact ht) (by rw [hLp]; exact fun e => hne e.symm) (by rw [hLp]; exact hsym) (fun i hi ti ei => by
    have hk2 := sealTo_keep h (rowL h k).fr 64 i
    rw [hk2.1] at ti
    rw [hk2.2.1] at ei
    rw [sealTo_row, if_pos ⟨hi, ti, ei⟩])
  rw [hLp] at hri
  refine ⟨by rw [hgj], ⟨⟨?_, ?_, ?_⟩, fun i y hy => ?_, fun i => ?_, fun i y q hy hq => ?_⟩, hrow⟩
  · exact h1.hr.inv.put hx1 hgi (h1.hr.inv.gi n _ hx1).2.di (join_n _ _ _ _) (Int.le_refl _)
  · rw [hrow]
    show RInv (gJoin h.s { x with m := sealOf x.m (16 * n) (rowL h k).fr 64 } p (rowL h k).fr).2.1 _ _
    rw [hgj]
    exact hri
  · rw [rowS_same (y := (gJoin h.s { x with m := sealOf x.m (16 * n) (rowL h k).fr 64 } p (rowL h k).fr).2.2) hx1 (by rw [hgj])]
    show _ ≤ (gJoin h.s { x with m := sealOf x.m (16 * n) (rowL h k).fr 64 } p (rowL h k).fr).2.1.n
    have : (gJoin h.s { x with m := sealOf x.m (16 * n) (rowL h k).fr 64 } p (rowL h k).fr).2.1.n = h.s.n := join_n _ _ _ _
    rw [this]
    exact h1.hr.le
  · by_cases e : i = n
    · subst e
      rw [put_at] at hy
      cases hy
      rw [hgj]
      exact blk_same (h1.blk i _ hx1) rfl
    · have hy' : (hSealTo h (rowL h k).fr 64).g i = some y := by rw [← hy]; exact (setAt_other _ _ _ _ e).symm
      exact h1.blk i y hy'
  · by_cases e : i = n
    · subst e
      rw [put_at]
      have := h1.non i
      rw [hx1] at this
      constructor
      · intro e; cases e
      · intro e; have := this.2 e; cases this
    · rw [← h1.non i]
      show setAt (hSealTo h (rowL h k).fr 64).g n _ i = none ↔ _
      rw [setAt_other _ _ _ _ e]
  · by_cases e : i = n
    · subst e
      rw [put_at] at hy
      cases hy
      rw [hgj]
      have := h1.fl i _ q hx1 hq
      exact ⟨this.st, this.b, this.root, this.c⟩
    · have hy' : (hSealTo h (rowL h k).fr 64).g i = some y := by rw [← hy]; exact (setAt_other _ _ _ _ e).symm
      exact h1.fl i y q hy' hq
/-- The pages that stand ahead of a place: those with the same bytes are in one frame. -/
def Mg (h : Hs) (t : Nat → Nat → Int) (K : Nat) : Prop := ∀ i j, i < K → j < K → (rowL h i).there = true → (rowL h j).there = true → (∀ b, b < 16 → t i b = t j b) → (rowL h i).fr = (rowL h j).fr
/-- What a scan of a guest's page does. -/
theorem HF.scan (hf : HF h t F W) (hx : h.g n = some x) {p : Nat} (hp : p < 16) :
    HF (hScan h n p).2 t F W ∧ (hScan h n p).1.2 = 0 ∧ (∀ k, k ≠ 16 * n + p → (rowL (hScan h n p).2 k).there = (rowL h k).there ∧ (rowL (hScan h n p).2 k).fr = (rowL h k).fr) ∧ (rowL (hScan h n p).2 (16 * n + p)).there = (rowL h (16 * n + p)).there ∧
    (Mg h t (16 * n + p) → Mg (hScan h n p).2 t (16 * n + p + 1)) ∧ (Mg h t 64 → hScan h n p = ((false, 0), h)) ∧ (hScan h n p).2.s.n = h.s.n ∧ (∀ i, (hScan h n p).2.g i = none ↔ h.g i = none) ∧ rowS (hScan h n p).2 = rowS h := by
  obtain ⟨hn, _⟩ := hf.hr.inv.gi n x hx
  obtain ⟨w0, w1⟩ := hWho_some hx hn
  have ho : onB (p : Int) = true := (onB_iff _).2 ⟨by omega, by omega⟩
  have hL := rowL_at hx hp
  have same : ∀ r, hScan h n p = (r, h) → r = (false, 0) → (Mg h t (16 * n + p) → Mg h t (16 * n + p + 1)) →
      HF (hScan h n p).2 t F W ∧ (hScan h n p).1.2 = 0 ∧ (∀ k, k ≠ 16 * n + p → (rowL (hScan h n p).2 k).there = (rowL h k).there ∧ (rowL (hScan h n p).2 k).fr = (rowL h k).fr) ∧ (rowL (hScan h n p).2 (16 * n + p)).there = (rowL h (16 * n + p)).there ∧
      (Mg h t (16 * n + p) → Mg (hScan h n p).2 t (16 * n + p + 1)) ∧ (Mg h t 64 → hScan h n p = ((false, 0), h)) ∧ (hScan h n p).2.s.n = h.s.n ∧ (∀ i, (hScan h n p).2.g i = none ↔ h.g i = none) ∧ rowS (hScan h n p).2 = rowS h := by
    intro r e er hm
    rw [e, er]
    exact ⟨hf, rfl, fun _ _ => ⟨rfl, rfl⟩, rfl, hm, fun _ => rfl, rfl, fun _ => Iff.rfl, rfl⟩
  have hdef : hScan h n p = if (x.m.lf p).there = true then (match hFst h (x.m.lf p).fr 0 (16 * n + p) with
      | none => ((false, 0), h)
      | some k => if (rowL h k).fr = (x.m.lf p).fr then ((false, 0), h) else ((true, (gJoin h.s (hAt (hSealTo h (rowL h k).fr 64) n) p (rowL h k).fr).1), (hSealTo h (rowL h k).fr 64).put n (gJoin h.s (hAt (hSealTo h (rowL h k).fr 64) n) p (rowL h k).fr).2)) else ((false, 0), h) := by
    unfold hScan
    rw [w0, if_neg (by omega), if_pos ho, w1]
    simp only [Int.toNat_natCast]
  cases ht : (x.m.lf p).there with
  | false =>
    refine same (false, 0) (by rw [hdef, ht]; simp) rfl (fun hm i j hi hj ti tj hb => ?_)
    have ei : i ≠ 16 * n + p := fun e => by rw [e, hL, ht] at ti; simp at ti
    have ej : j ≠ 16 * n + p := fun e => by rw [e, hL, ht] at tj; simp at tj
    exact hm i j (by omega) (by omega) ti tj hb
  | true =>
    rw [ht, if_pos rfl] at hdef
    rcases hFst_spec h (x.m.lf p).fr (16 * n + p) 0 with ⟨k, e, _, hk, hhit, hbef⟩ | ⟨e, hbef⟩
    · rw [e] at hdef
      simp only at hdef
      unfold hHit at hhit
      simp only [Bool.and_eq_true] at hhit
      have hk64 : k < 64 := by omega
      have hsb := (hf.same_iff hk64 (show 16 * n + p < 64 by omega) hhit.1 (by rw [hL]; exact ht)).1 (by rw [hL]; exact hhit.2)
      by_cases hfr : (rowL h k).fr = (x.m.lf p).fr
      · rw [if_pos hfr] at hdef
        refine same (false, 0) hdef rfl (fun hm i j hi hj ti tj hb => ?_)
        by_cases ei : i = 16 * n + p
        · by_cases ej : j = 16 * n + p
          · rw [ei, ej]
          · rw [ei, hL, ← hfr]
            exact hm k j (by omega) (by omega) hhit.1 tj (fun b h16 => by rw [hsb b h16, ← ei]; exact hb b h16)
        · by_cases ej : j = 16 * n + p
          · rw [ej, hL, ← hfr]
            exact hm i k (by omega) (by omega) ti hhit.1 (fun b h16 => by rw [hb b h16, ej]; exact (hsb b h16).symm)
          · exact hm i j (by omega) (by omega) ti tj hb
      · rw [if_neg hfr] at hdef
        have hat : hAt (hSealTo h (rowL h k).fr 64) n = { x with m := sealOf x.m (16 * n) (rowL h k).fr 64 } := (hWho_some (sealTo_at h (rowL h k).fr 64 hx) hn).2
        rw [hat] at hdef
        obtain ⟨j0, j1, j2⟩ := hf.join hx hp ht hhit.2 hfr
        rw [hdef]
        have hkeep := sealTo_keep h (rowL h k).fr 64
        have hoth : ∀ i, i ≠ 16 * n + p → (rowL ((hSealTo h (rowL h k).fr 64).put n (gJoin h.s { x with m := sealOf x.m (16 * n) (rowL h k).fr 64 } p (rowL h k).fr).2) i).there = (rowL h i).there ∧ (rowL ((hSealTo h (rowL h k).fr 64).put n (gJoin h.s { x with m := sealOf x.m (16 * n) (rowL h k).fr 64 } p (rowL h k).fr).2) i).fr = (rowL h i).fr := fun i hi => by
          rw [j2, setAt_other _ _ _ _ hi]
          exact ⟨(hkeep i).1, (hkeep i).2.1⟩
        have hat2 : rowL ((hSealTo h (rowL h k).fr 64).put n (gJoin h.s { x with m := sealOf x.m (16 * n) (rowL h k).fr 64 } p (rowL h k).fr).2) (16 * n + p) = ⟨true, false, (rowL h k).fr⟩ := by rw [j2, setAt_same]
        refine ⟨j1, j0, hoth, by rw [hat2, hL, ht], fun hm i j hi hj ti tj hb => ?_, fun hm => ?_, join_n _ _ _ _, fun i => ?_, ?_⟩
        · by_cases ei : i = 16 * n + p
          · by_cases ej : j = 16 * n + p
            · rw [ei, ej]
            · rw [(hoth j ej).1] at tj
              rw [ei, hat2, (hoth j ej).2]
              exact hm k j (by omega) (by omega) hhit.1 tj (fun b h16 => by rw [hsb b h16, ← ei]; exact hb b h16)
          · rw [(hoth i ei).1] at ti
            by_cases ej : j = 16 * n + p
            · rw [ej, hat2, (hoth i ei).2]
              exact hm i k (by omega) (by omega) ti hhit.1 (fun b h16 => by rw [hb b h16, ej]; exact (hsb b h16).symm)
            · rw [(hoth j ej).1] at tj
              rw [(hoth i ei).2, (hoth j ej).2]
              exact hm i j (by omega) (by omega) ti tj hb
        · exact absurd ((hm k (16 * n + p) hk64 (by omega) hhit.1 (by rw [hL]; exact ht) hsb).trans (by rw [hL])) hfr
        · have h2 : (hSealTo h (rowL h k).fr 64).g i = none ↔ h.g i = none := by
            show (h.g i).map _ = none ↔ _
            cases h.g i <;> simp
          by_cases ei : i = n
          · subst ei
            rw [put_at, hx]
            simp
          · rw [← h2]
            show setAt (hSealTo h (rowL h k).fr 64).g n _ i = none ↔ _
            rw [setAt_other _ _ _ _ ei]
        · rw [rowS_same (sealTo_at h (rowL h k).fr 64 hx) (by
            show (joinR _ _ _ _).2.2.st = _
            unfold joinR
            repeat' split
            all_goals rfl), sealTo_rowS]
    · rw [e] at hdef
      simp only at hdef
      refine same (false, 0) hdef rfl (fun hm i j hi hj ti tj hb => ?_)
      have hno : ∀ q, q < 16 * n + p → (rowL h q).there = true → (∀ b, b < 16 → t q b = t (16 * n + p) b) → False := fun q hq tq hb => by
        have := hbef q (by omega) (by omega)
        unfold hHit at this
        rw [tq, Bool.true_and] at this
        have h2 := (hf.same_iff (show q < 64 by omega) (show 16 * n + p < 64 by omega) tq (by rw [hL]; exact ht)).2 hb
        rw [hL, this] at h2
        cases h2
      by_cases ei : i = 16 * n + p
      · by_cases ej : j = 16 * n + p
        · rw [ei, ej]
        · exact (hno j (by omega) tj (fun b h16 => by rw [← ei]; exact (hb b h16).symm)).elim
      · by_cases ej : j = 16 * n + p
        · exact (hno i (by omega) ti (fun b h16 => by rw [← ej]; exact hb b h16)).elim
        · exact hm i j (by omega) (by omega) ti tj hb
end Go.Proofs.YtadpibcgjgcjhabGreatDoor
/- All pages are scanned, plainly (E4); what is left. -/
namespace Go.Proofs.YtadpibcgjgcjhabGreatDoor
open Go.RowKit
variable {h : Hs} {t t' : Nat → Nat → Int} {F : Nat → Option Fl} {W W' : Int} {n : Nat} {x y : Gs} {f f' : Fl} {s' : Pl}

/-- The first pages are scanned: how many joined. -/
def hScanTo (h : Hs) : Nat → Int × Hs
  | 0 => (0, h)
  | K + 1 => ((hScanTo h K).1 + (if (hScan (hScanTo h K).2 ((K / 16 : Nat) : Int) ((K % 16 : Nat) : Int)).1.1 = true then 1 else 0), (hScan (hScanTo h K).2 ((K / 16 : Nat) : Int) ((K % 16 : Nat) : Int)).2)
theorem scan_none {K : Nat} (hK : K < 64) (hx : h.g (K / 16) = none) : hScan h ((K / 16 : Nat) : Int) ((K % 16 : Nat) : Int) = ((false, 2), h) := by
  have hw : hWho h ((K / 16 : Nat) : Int) = 2 := by
    unfold hWho
    rw [if_neg (by omega), Int.toNat_natCast, hx]
  unfold hScan
  rw [hw, if_pos (by omega)]
theorem HF.scans (hf : HF h t F W) : ∀ K, K ≤ 64 → HF (hScanTo h K).2 t F W ∧ Mg (hScanTo h K).2 t K ∧ (hScanTo h K).2.s.n = h.s.n ∧ (∀ i, (hScanTo h K).2.g i = none ↔ h.g i = none) ∧ rowS (hScanTo h K).2 = rowS h ∧ 0 ≤ (hScanTo h K).1 ∧ (hScanTo h K).1 ≤ K ∧ ∀ k, (rowL (hScanTo h K).2 k).there = (rowL h k).there
  | 0, _ => ⟨hf, fun i _ hi => absurd hi (by omega), rfl, fun _ => Iff.rfl, rfl, Int.le_refl _, by show (0 : Int) ≤ 0; omega, fun _ => rfl⟩
  | K + 1, hK => by
    obtain ⟨h1, h2, h3, h4, h5, h6, h7, h8⟩ := hf.scans K (by omega)
    have hc : (hScanTo h (K + 1)).2 = (hScan (hScanTo h K).2 ((K / 16 : Nat) : Int) ((K % 16 : Nat) : Int)).2 := rfl
    have hcnt : (hScanTo h (K + 1)).1 = (hScanTo h K).1 + (if (hScan (hScanTo h K).2 ((K / 16 : Nat) : Int) ((K % 16 : Nat) : Int)).1.1 = true then 1 else 0) := rfl
    have hb : 0 ≤ (hScanTo h (K + 1)).1 ∧ (hScanTo h (K + 1)).1 ≤ ((K + 1 : Nat) : Int) := by
      rw [hcnt]
      split <;> omega
    cases hx : (hScanTo h K).2.g (K / 16) with
    | none =>
      rw [scan_none (by omega) hx] at hc
      rw [hc]
      refine ⟨h1, fun i j hi hj ti tj hbb => ?_, h3, h4, h5, hb.1, hb.2, h8⟩
      have no : (rowL (hScanTo h K).2 K).there = false := by unfold rowL; rw [hx]; rfl
      have ei : i ≠ K := fun e => by rw [e, no] at ti; simp at ti
      have ej : j ≠ K := fun e => by rw [e, no] at tj; simp at tj
      exact h2 i j (by omega) (by omega) ti tj hbb
    | some x =>
      obtain ⟨a1, _, a2, a3, a4, _, a5, a6, a7⟩ := h1.scan hx (p := K % 16) (by omega)
      have eK : 16 * (K / 16) + K % 16 = K := by omega
      rw [eK] at a2 a3 a4
      rw [hc]
      refine ⟨a1, a4 h2, a5.trans h3, fun i => (a6 i).trans (h4 i), a7.trans h5, hb.1, hb.2, fun k => ?_⟩
      by_cases e : k = K
      · rw [e, a3]; exact h8 K
      · rw [(a2 k e).1]; exact h8 k
end Go.Proofs.YtadpibcgjgcjhabGreatDoor
/- A host's acts on pages and guests, plainly (E1, E2), and what its guests see of them. -/
namespace Go.Proofs.YtadpibcgjgcjhabGreatDoor
open Go.RowKit
variable {h : Hs} {t t' : Nat → Nat → Int} {F : Nat → Option Fl} {W W' : Int} {x y : Gs} {f f' : Fl} {s' : Pl}

def hPlug (h : Hs) (n b : Int) : Int × Hs :=
  if 0 < hWho h n then (hWho h n, h)
  else if b < 0 ∨ 3 < b then (1, h)
  else if (hAt h n).m.st (4 * b.toNat) ≠ 0 then (4, h)
  else if h.s.n < pln (rowS h) 64 + 4 then (7, h)
  else (0, h.put n.toNat (gPlugs h.s (hAt h n) b.toNat 4))
def hUnplug (h : Hs) (n b : Int) : Int × Hs :=
  if 0 < hWho h n then (hWho h n, h)
  else if b < 0 ∨ 3 < b then (1, h)
  else ((gUnplugs h.s (hAt h n) b.toNat 4).1, h.put n.toNat (gUnplugs h.s (hAt h n) b.toNat 4).2)
def hGive (h : Hs) (n p : Int) (back : Bool) : Int × Hs :=
  if 0 < hWho h n then (hWho h n, h)
  else if (back && onB p) = true ∧ (hAt h n).m.st p.toNat = 2 ∧ pln (rowS h) 64 = h.s.n then (7, h)
  else ((gGive h.s (hAt h n) p back).1, h.put n.toNat (gGive h.s (hAt h n) p back).2)
def hRemove (h : Hs) (n : Int) : Int × Hs :=
  if 0 < hWho h n then (hWho h n, h) else (0, hOff (gClear h.s (hAt h n) 16).1 h n.toNat)
theorem HF.plug (hf : HF h t F W) (n b : Int) : ∃ t', HF (hPlug h n b).2 t' (if (hPlug h n b).1 = 0 then setAt F n.toNat ((F n.toNat).map fun f => fTurnTo f b.toNat 1 4) else F) W ∧ ((hPlug h n b).1 = 0 → hWho h n = 0 ∧ 0 ≤ b ∧ b ≤ 3) ∧ 0 ≤ (hPlug h n b).1 ∧ (hPlug h n b).1 ≠ 3 := by
  have hle := hWho_le (h := h) n
  have hw2 : hWho h n ≠ 3 := by unfold hWho; split; (· omega); (· split <;> omega)
  unfold hPlug
  split
  · next h0 => exact ⟨t, by rw [if_neg (by simp only; omega)]; exact hf, fun e => by simp only at e; omega, by simp only; omega, hw2⟩
  · next h0 =>
    obtain ⟨k, x, rfl, hk, hx, hat⟩ := hWho_zero (show hWho h n = 0 by omega)
    obtain ⟨f, hq, hv⟩ := hf.view hx
    rw [hat]
    split
    · exact ⟨t, by rw [if_neg (by simp)]; exact hf, fun e => by simp at e, by simp, by simp⟩
    · next hb =>
      split
      · exact ⟨t, by rw [if_neg (by simp)]; exact hf, fun e => by simp at e, by simp, by simp⟩
      · next hs =>
        split
        · exact ⟨t, by rw [if_neg (by simp)]; exact hf, fun e => by simp at e, by simp, by simp⟩
        · next hp =>
          have hs0 : x.m.st (4 * b.toNat) = 0 := by simpa using hs
          have hb4 : b.toNat < 4 := by omega
          have hall : ∀ j, j < 4 → x.m.st (4 * b.toNat + j) = 0 := fun j hj => (hf.blk k x hx b.toNat j hb4 hj).1 hs0
          rw [gPlugs_is _ _ hb4 hall 4 (Nat.le_refl _), Int.toNat_natCast, hq]
          refine ⟨zeroTo t (16 * k + 4 * b.toNat) 4, ?_, fun _ => ⟨by omega, by omega, by omega⟩, by simp, by simp⟩
          simp only [if_true, Option.map_some]
          exact hf.block hx hq hb4 (by omega) (by omega) (fun _ => ⟨hs0, by omega⟩)
theorem HF.unplug (hf : HF h t F W) (n b : Int) : ∃ t', HF (hUnplug h n b).2 t' (if (hUnplug h n b).1 = 0 then setAt F n.toNat ((F n.toNat).map fun f => fTurnTo f b.toNat 0 4) else F) W ∧ ((hUnplug h n b).1 = 0 → hWho h n = 0 ∧ 0 ≤ b ∧ b ≤ 3) ∧ 0 ≤ (hUnplug h n b).1 ∧ (hUnplug h n b).1 ≠ 3 := by
  have hle := hWho_le (h := h) n
  have hw2 : hWho h n ≠ 3 := by unfold hWho; split; (· omega); (· split <;> omega)
  unfold hUnplug
  split
  · next h0 => exact ⟨t, by rw [if_neg (by simp only; omega)]; exact hf, fun e => by simp only at e; omega, by simp only; omega, hw2⟩
  · next h0 =>
    obtain ⟨k, x, rfl, hk, hx, hat⟩ := hWho_zero (show hWho h n = 0 by omega)
    obtain ⟨f, hq, hv⟩ := hf.view hx
    rw [hat]
    split
    · exact ⟨t, by rw [if_neg (by simp)]; exact hf, fun e => by simp at e, by simp, by simp⟩
    · next hb =>
      have hb4 : b.toNat < 4 := by omega
      by_cases hs0 : x.m.st (4 * b.toNat) = 0
      · rw [gUnplugs_no _ _ hb4 hs0 3, Int.toNat_natCast]
        refine ⟨t, ?_, fun e => by simp at e, by simp, by simp⟩
        rw [if_neg (by simp)]
        simp only
        rw [Hs.put_self hx]
        exact hf
      · have hall : ∀ j, j < 4 → x.m.st (4 * b.toNat + j) ≠ 0 := fun j hj e => hs0 ((hf.blk k x hx b.toNat j hb4 hj).2 e)
        rw [gUnplugs_is _ _ hb4 hall 4 (Nat.le_refl _), Int.toNat_natCast, hq]
        refine ⟨zeroTo t (16 * k + 4 * b.toNat) 4, ?_, fun _ => ⟨by omega, by omega, by omega⟩, by simp, by simp⟩
        simp only [if_true, Option.map_some]
        exact hf.block hx hq hb4 (by omega) (by omega) (fun e => by omega)
theorem gGive_yes (s : Pl) (x : Gs) {k : Nat} (hk : k < 16) (h1 : x.m.st k = 1) : gGive s x (k : Int) false = (0, gTurn s x k 2) := by
  have ho : onB (k : Int) = true := (onB_iff _).2 ⟨by omega, by omega⟩
  unfold gGive gMap giveR
  simp only [ho, if_true, Int.toNat_natCast, h1, Bool.false_eq_true, if_false]
  rfl
theorem gBack_yes (s : Pl) (x : Gs) {k : Nat} (hk : k < 16) (h1 : x.m.st k = 2) : gGive s x (k : Int) true = (0, gTurn s x k 1) := by
  have ho : onB (k : Int) = true := (onB_iff _).2 ⟨by omega, by omega⟩
  unfold gGive gMap giveR
  simp only [ho, if_true, Int.toNat_natCast, h1]
  rfl
theorem gGive_no (s : Pl) (x : Gs) (p : Int) (back : Bool) (he : onB p = false ∨ x.m.st p.toNat ≠ (if back then 2 else 1)) : ∃ e, gGive s x p back = (e, s, x) ∧ (e = 1 ∨ e = 8) := by
  unfold gGive gMap giveR
  cases ho : onB p with
  | false => exact ⟨1, rfl, Or.inl rfl⟩
  | true =>
    rw [ho] at he
    rcases he with he | he
    · simp at he
    · cases back with
      | true => simp only [if_true] at he ⊢; rw [if_neg he]; exact ⟨8, rfl, Or.inr rfl⟩
      | false => simp only [Bool.false_eq_true, if_false] at he ⊢; simp only [if_true]; rw [if_neg he]; exact ⟨8, rfl, Or.inr rfl⟩
theorem HF.give (hf : HF h t F W) (n p : Int) (back : Bool) : ∃ t', HF (hGive h n p back).2 t' (if (hGive h n p back).1 = 0 then setAt F n.toNat ((F n.toNat).map fun f => fTurn f p.toNat (if back then 1 else 2)) else F) W ∧ ((hGive h n p back).1 = 0 → hWho h n = 0 ∧ 0 ≤ p ∧ p < 16) ∧ 0 ≤ (hGive h n p back).1 ∧ (hGive h n p back).1 ≠ 3 := by
  have hle := hWho_le (h := h) n
  have hw2 : hWho h n ≠ 3 := by unfold hWho; split; (· omega); (· split <;> omega)
  unfold hGive
  split
  · next h0 => exact ⟨t, by rw [if_neg (by simp only; omega)]; exact hf, fun e => by simp only at e; omega, by simp only; omega, hw2⟩
  · next h0 =>
    obtain ⟨k, x, rfl, hk, hx, hat⟩ := hWho_zero (show hWho h n = 0 by omega)
    obtain ⟨f, hq, hv⟩ := hf.view hx
    rw [hat]
    split
    · exact ⟨t, by rw [if_neg (by simp)]; exact hf, fun e => by simp at e, by simp, by simp⟩
    · next hc =>
      by_cases he : onB p = false ∨ x.m.st p.toNat ≠ (if back then 2 else 1)
      · obtain ⟨e, h1, h2⟩ := gGive_no h.s x p back he
        rw [h1, Int.toNat_natCast]
        refine ⟨t, ?_, fun e => by simp only at e; omega, by simp only; omega, by simp only; omega⟩
        rw [if_neg (by simp only; omega)]
        simp only
        rw [Hs.put_self hx]
        exact hf
      · have ho : onB p = true := by
          cases ho : onB p with
          | true => rfl
          | false => exact absurd (Or.inl ho) he
        have hst : x.m.st p.toNat = if back then 2 else 1 := by
          by_cases e : x.m.st p.toNat = if back then 2 else 1
          · exact e
          · exact absurd (Or.inr e) he
        obtain ⟨p0, p1⟩ := (onB_iff p).1 ho
        obtain ⟨q, rfl⟩ := Int.eq_ofNat_of_zero_le p0
        rw [Int.toNat_natCast] at hst
        have hq16 : q < 16 := by omega
        cases back with
        | true =>
          simp only [if_true] at hst
          rw [gBack_yes _ _ hq16 hst, Int.toNat_natCast, Int.toNat_natCast, hq]
          refine ⟨setAt t (16 * k + q) fun _ => 0, ?_, fun _ => ⟨by omega, by omega, by omega⟩, by simp, by simp⟩
          simp only [if_true, Option.map_some]
          refine hf.page hx hq hq16 (by omega) (by omega) (by omega) (fun _ => ⟨by omega, ?_⟩)
          have := hf.hr.le
          have hne : pln (rowS h) 64 ≠ h.s.n := fun e => hc ⟨by simp [ho], by rw [Int.toNat_natCast]; exact hst, e⟩
          omega
        | false =>
          simp only [Bool.false_eq_true, if_false] at hst
          rw [gGive_yes _ _ hq16 hst, Int.toNat_natCast, Int.toNat_natCast, hq]
          refine ⟨setAt t (16 * k + q) fun _ => 0, ?_, fun _ => ⟨by omega, by omega, by omega⟩, by simp, by simp⟩
          simp only [if_true, Option.map_some, Bool.false_eq_true, if_false]
          exact hf.page hx hq hq16 (by omega) (by omega) (by omega) (fun e => by omega)
theorem HF.rem (hf : HF h t F W) (n : Int) : ∃ t', HF (hRemove h n).2 t' (if (hRemove h n).1 = 0 then setAt F n.toNat none else F) W ∧ ((hRemove h n).1 = 0 → hWho h n = 0) ∧ 0 ≤ (hRemove h n).1 := by
  have hle := hWho_le (h := h) n
  unfold hRemove
  split
  · next h0 => exact ⟨t, by rw [if_neg (by simp only; omega)]; exact hf, fun e => by simp only at e; omega, by simp only; omega⟩
  · next h0 =>
    obtain ⟨k, x, rfl, hk, hx, hat⟩ := hWho_zero (show hWho h n = 0 by omega)
    rw [hat, Int.toNat_natCast]
    obtain ⟨t', h1⟩ := hf.remove hx
    exact ⟨t', by simp only [if_true]; exact h1, fun _ => by omega, by simp⟩
theorem HF.hadd (hf : HF h t F W) (hW : 0 ≤ W) : HF (hAdd h).2 t (if (hAdd h).1.2 = 0 then setAt F (hAdd h).1.1.toNat (some fl0) else F) W ∧ ((hAdd h).1.2 = 0 → 0 ≤ (hAdd h).1.1 ∧ (hAdd h).1.1 ≤ 3 ∧ F (hAdd h).1.1.toNat = none) ∧ 0 ≤ (hAdd h).1.2 := by
  unfold hAdd
  have key : ∀ i, hFree h = some i → i < 4 ∧ h.g i = none := by
    intro i
    unfold hFree
    repeat' split
    all_goals intro e
    all_goals first | (cases e; done) | (cases e; refine ⟨by omega, ?_⟩; assumption)
  cases hfr : hFree h with
  | none => exact ⟨by simp only; rw [if_neg (by omega)]; exact hf, fun e => by simp at e, by simp⟩
  | some i =>
    obtain ⟨h1, h2⟩ := key i hfr
    refine ⟨?_, fun _ => ⟨by simp, by simp only; omega, by simp only [Int.toNat_natCast]; exact (hf.non i).1 h2⟩, by simp⟩
    simp only [if_true, Int.toNat_natCast]
    exact hf.add h1 h2 hW
end Go.Proofs.YtadpibcgjgcjhabGreatDoor
/- What a host answers hangs on its pages' states and, of a guest's loads and stores, on its flat memory (E5). -/
namespace Go.Proofs.YtadpibcgjgcjhabGreatDoor
open Go.RowKit
variable {h : Hs} {t : Nat → Nat → Int} {F F' : Nat → Option Fl} {W : Int} {x : Gs} {f : Fl}

def fWho (F : Nat → Option Fl) (n : Int) : Int := if n < 0 ∨ 3 < n then 1 else match F n.toNat with
  | none => 2
  | some _ => 0
def fSt (o : Option Fl) (j : Nat) : Int := match o with
  | some f => f.st j
  | none => 0
def rowF (F : Nat → Option Fl) (k : Nat) : Int := fSt (F (k / 16)) (k % 16)
theorem pln_congr {S T : Nat → Int} : ∀ K, (∀ k, k < K → S k = T k) → pln S K = pln T K
  | 0, _ => rfl
  | K + 1, h => by simp only [pln]; rw [pln_congr K (fun k hk => h k (by omega)), h K (by omega)]
theorem HF.who (hf : HF h t F W) (n : Int) : hWho h n = fWho F n := by
  unfold hWho fWho
  split
  · rfl
  · have := hf.non n.toNat
    cases hx : h.g n.toNat with
    | none => rw [this.1 hx]
    | some x =>
      cases hq : F n.toNat with
      | none => have := this.2 hq; rw [hx] at this; cases this
      | some f => rfl
theorem HF.rowF (hf : HF h t F W) (k : Nat) : rowS h k = rowF F k := by
  unfold rowS Go.Proofs.YtadpibcgjgcjhabGreatDoor.rowF gSt fSt
  have hn := hf.non (k / 16)
  cases hx : h.g (k / 16) with
  | none => rw [hn.1 hx]
  | some x =>
    cases hq : F (k / 16) with
    | none => have := hn.2 hq; rw [hx] at this; cases this
    | some f => exact ((hf.fl _ x f hx hq).st (k % 16) (by omega)).symm
theorem HF.prom (hf : HF h t F W) : pln (rowS h) 64 = pln (Go.Proofs.YtadpibcgjgcjhabGreatDoor.rowF F) 64 := pln_congr 64 (fun k _ => hf.rowF k)
/-- What Plug answers. -/
def cPlug (F : Nat → Option Fl) (N : Nat) (n b : Int) : Int :=
  if 0 < fWho F n then fWho F n else if b < 0 ∨ 3 < b then 1 else if fSt (F n.toNat) (4 * b.toNat) ≠ 0 then 4 else if N < pln (rowF F) 64 + 4 then 7 else 0
def cUnplug (F : Nat → Option Fl) (n b : Int) : Int :=
  if 0 < fWho F n then fWho F n else if b < 0 ∨ 3 < b then 1 else if fSt (F n.toNat) (4 * b.toNat) = 0 then 2 else 0
def cGive (F : Nat → Option Fl) (N : Nat) (n p : Int) (back : Bool) : Int :=
  if 0 < fWho F n then fWho F n else if onB p = true then (if back = true then (if fSt (F n.toNat) p.toNat = 2 then (if pln (rowF F) 64 = N then 7 else 0) else 8) else (if fSt (F n.toNat) p.toNat = 1 then 0 else 8)) else 1
def cAdd (F : Nat → Option Fl) : Int × Int := if (F 0).isNone then (0, 0) else if (F 1).isNone then (1, 0) else if (F 2).isNone then (2, 0) else if (F 3).isNone then (3, 0) else (0, 4)
theorem HF.st_at (hf : HF h t F W) {n : Int} (hw : ¬ 0 < hWho h n) {j : Nat} (hj : j < 16) : (hAt h n).m.st j = fSt (F n.toNat) j := by
  obtain ⟨k, x, rfl, hk, hx, hat⟩ := hWho_zero (show hWho h n = 0 by have := hWho_le (h := h) n; omega)
  obtain ⟨f, hq, hv⟩ := hf.view hx
  rw [hat, Int.toNat_natCast, hq]
  exact (hv.st j hj).symm
theorem HF.cplug (hf : HF h t F W) (n b : Int) : (hPlug h n b).1 = cPlug F h.s.n n b := by
  unfold hPlug cPlug
  rw [← hf.who, ← hf.prom]
  by_cases h0 : 0 < hWho h n
  · rw [if_pos h0, if_pos h0]
  · rw [if_neg h0, if_neg h0]
    by_cases hb : b < 0 ∨ 3 < b
    · rw [if_pos hb, if_pos hb]
    · rw [if_neg hb, if_neg hb, hf.st_at h0 (by omega)]
      repeat' split
      all_goals rfl
theorem HF.cunplug (hf : HF h t F W) (n b : Int) : (hUnplug h n b).1 = cUnplug F n b := by
  unfold hUnplug cUnplug
  rw [← hf.who]
  by_cases h0 : 0 < hWho h n
  · rw [if_pos h0, if_pos h0]
  · rw [if_neg h0, if_neg h0]
    by_cases hb : b < 0 ∨ 3 < b
    · rw [if_pos hb, if_pos hb]
    · rw [if_neg hb, if_neg hb]
      have hst := hf.st_at h0 (show 4 * b.toNat < 16 by omega)
      obtain ⟨k, x, rfl, hk, hx, hat⟩ := hWho_zero (show hWho h n = 0 by have := hWho_le (h := h) n; omega)
      rw [hat] at hst ⊢
      rw [← hst]
      have hb4 : b.toNat < 4 := by omega
      by_cases hs0 : x.m.st (4 * b.toNat) = 0
      · rw [if_pos hs0, gUnplugs_no _ _ hb4 hs0 3]
      · have hall : ∀ j, j < 4 → x.m.st (4 * b.toNat + j) ≠ 0 := fun j hj e => hs0 ((hf.blk k x hx b.toNat j hb4 hj).2 e)
        rw [if_neg hs0, gUnplugs_is _ _ hb4 hall 4 (Nat.le_refl _)]
theorem HF.cgive (hf : HF h t F W) (n p : Int) (back : Bool) : (hGive h n p back).1 = cGive F h.s.n n p back := by
  unfold hGive cGive
  rw [← hf.who, ← hf.prom]
  by_cases h0 : 0 < hWho h n
  · rw [if_pos h0, if_pos h0]
  · rw [if_neg h0, if_neg h0]
    by_cases ho : onB p = true
    · have hp := (onB_iff p).1 ho
      rw [if_pos ho, ← hf.st_at h0 (show p.toNat < 16 by omega)]
      obtain ⟨q, rfl⟩ := Int.eq_ofNat_of_zero_le hp.1
      have hq16 : q < 16 := by omega
      cases back with
      | true =>
        simp only [ho, Bool.and_self, true_and, if_true, Int.toNat_natCast]
        by_cases h2 : (hAt h n).m.st q = 2
        · by_cases h3 : pln (rowS h) 64 = h.s.n
          · rw [if_pos ⟨h2, h3⟩, if_pos h2, if_pos h3]
          · rw [if_neg (fun c => h3 c.2), if_pos h2, if_neg h3, gBack_yes _ _ hq16 h2]
        · rw [if_neg (fun c => h2 c.1), if_neg h2]
          unfold gGive gMap giveR
          simp only [ho, if_true, Int.toNat_natCast]
          rw [if_neg h2]
      | false =>
        simp only [Bool.false_and, Bool.false_eq_true, false_and, if_false, Int.toNat_natCast]
        by_cases h1 : (hAt h n).m.st q = 1
        · rw [if_pos h1, gGive_yes _ _ hq16 h1]
        · rw [if_neg h1]
          unfold gGive gMap giveR
          simp only [ho, if_true, Int.toNat_natCast, Bool.false_eq_true, if_false]
          rw [if_neg h1]
    · have ho' : onB p = false := by simpa using ho
      rw [if_neg ho, if_neg (fun c => by rw [ho'] at c; simp at c)]
      unfold gGive gMap giveR
      simp only [ho', Bool.false_eq_true, if_false]
theorem HF.cadd (hf : HF h t F W) : (hAdd h).1 = cAdd F := by
  unfold hAdd hFree cAdd
  have e : ∀ i, (h.g i = none) ↔ ((F i).isNone = true) := fun i => by rw [hf.non i, Option.isNone_iff_eq_none]
  by_cases h0 : h.g 0 = none
  · rw [if_pos h0, if_pos ((e 0).1 h0)]; rfl
  · rw [if_neg h0, if_neg (fun c => h0 ((e 0).2 c))]
    by_cases h1 : h.g 1 = none
    · rw [if_pos h1, if_pos ((e 1).1 h1)]; rfl
    · rw [if_neg h1, if_neg (fun c => h1 ((e 1).2 c))]
      by_cases h2 : h.g 2 = none
      · rw [if_pos h2, if_pos ((e 2).1 h2)]; rfl
      · rw [if_neg h2, if_neg (fun c => h2 ((e 2).2 c))]
        by_cases h3 : h.g 3 = none
        · rw [if_pos h3, if_pos ((e 3).1 h3)]; rfl
        · rw [if_neg h3, if_neg (fun c => h3 ((e 3).2 c))]
/-- Two hosts whose pages have the same states. -/
def Alk (F F' : Nat → Option Fl) : Prop := ∀ i, (F i = none ↔ F' i = none) ∧ ∀ f f', F i = some f → F' i = some f' → f.st = f'.st
end Go.Proofs.YtadpibcgjgcjhabGreatDoor
