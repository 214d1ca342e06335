/- Guests come and go, plainly; the document's loops over pages are turns. -/
import Derived.Test.YtadpibcgjgcjhabGreatDoorHoI
namespace Go.Proofs.YtadpibcgjgcjhabGreatDoor
open Go.RowKit
variable {h : Hs} {t t' : Nat → Nat → Int} {F : Nat → Option Fl} {W W' : Int} {n : Nat} {x y : Gs} {f f' : Fl} {s' : Pl}

theorem gPlug_yes (s : Pl) (x : Gs) {k : Nat} (hk : k < 16) (h0 : x.m.st k = 0) : gPlug s x (k : Int) = (0, gTurn s x k 1) := by
  have ho : onB (k : Int) = true := (onB_iff _).2 ⟨by omega, by omega⟩
  unfold gPlug gMap plugR
  simp only [ho, if_true, Int.toNat_natCast, h0]
  rfl
theorem gUnplug_yes (s : Pl) (x : Gs) {k : Nat} (hk : k < 16) (h0 : x.m.st k ≠ 0) : gUnplug s x (k : Int) = (0, gTurn s x k 0) := by
  have ho : onB (k : Int) = true := (onB_iff _).2 ⟨by omega, by omega⟩
  unfold gUnplug gMap unplugR
  simp only [ho, if_true, Int.toNat_natCast, h0, if_false]
  rfl
theorem gUnplug_no (s : Pl) (x : Gs) {k : Nat} (hk : k < 16) (h0 : x.m.st k = 0) : gUnplug s x (k : Int) = (2, s, x) := by
  have ho : onB (k : Int) = true := (onB_iff _).2 ⟨by omega, by omega⟩
  unfold gUnplug gMap unplugR
  simp only [ho, if_true, Int.toNat_natCast, h0]
/-- Plug's loop. -/
def gPlugs (s : Pl) (x : Gs) (b : Nat) : Nat → Pl × Gs
  | 0 => (s, x)
  | j + 1 => (gPlug (gPlugs s x b j).1 (gPlugs s x b j).2 ((4 * b + j : Nat) : Int)).2
/-- Unplug's loop: it ends at an error. -/
def gUnplugs (s : Pl) (x : Gs) (b : Nat) : Nat → Int × Pl × Gs
  | 0 => (0, s, x)
  | j + 1 => if 0 < (gUnplugs s x b j).1 then gUnplugs s x b j else gUnplug (gUnplugs s x b j).2.1 (gUnplugs s x b j).2.2 ((4 * b + j : Nat) : Int)
/-- Remove's loop. -/
def gClear (s : Pl) (x : Gs) : Nat → Pl × Gs
  | 0 => (s, x)
  | j + 1 => (gUnplug (gClear s x j).1 (gClear s x j).2 ((j : Nat) : Int)).2
theorem gPlugs_is (s : Pl) (x : Gs) {b : Nat} (hb : b < 4) (h0 : ∀ j, j < 4 → x.m.st (4 * b + j) = 0) : ∀ j, j ≤ 4 → gPlugs s x b j = turnTo s x b 1 j
  | 0, _ => rfl
  | j + 1, hj => by
    have ih := gPlugs_is s x hb h0 j (by omega)
    have hst := turnTo_st s x b 1 (4 * b + j) j
    rw [if_neg (by omega), h0 j (by omega)] at hst
    show (gPlug (gPlugs s x b j).1 (gPlugs s x b j).2 ((4 * b + j : Nat) : Int)).2 = gTurn _ _ _ _
    rw [ih, gPlug_yes _ _ (by omega) hst]
theorem gUnplugs_is (s : Pl) (x : Gs) {b : Nat} (hb : b < 4) (h0 : ∀ j, j < 4 → x.m.st (4 * b + j) ≠ 0) : ∀ j, j ≤ 4 → gUnplugs s x b j = (0, turnTo s x b 0 j)
  | 0, _ => rfl
  | j + 1, hj => by
    have ih := gUnplugs_is s x hb h0 j (by omega)
    have hst := turnTo_st s x b 0 (4 * b + j) j
    rw [if_neg (by omega)] at hst
    show (if 0 < (gUnplugs s x b j).1 then gUnplugs s x b j else gUnplug (gUnplugs s x b j).2.1 (gUnplugs s x b j).2.2 ((4 * b + j : Nat) : Int)) = (0, gTurn _ _ _ _)
    rw [ih, if_neg (by omega), gUnplug_yes _ _ (by omega) (by rw [hst]; exact h0 j (by omega))]
theorem gUnplugs_no (s : Pl) (x : Gs) {b : Nat} (hb : b < 4) (h0 : x.m.st (4 * b) = 0) : ∀ j, gUnplugs s x b (j + 1) = (2, s, x)
  | 0 => by
    show (if 0 < (0 : Int) then _ else gUnplug s x ((4 * b + 0 : Nat) : Int)) = _
    rw [if_neg (by omega), Nat.add_zero, gUnplug_no _ _ (by omega) h0]
  | j + 1 => by
    have ih := gUnplugs_no s x hb h0 j
    show (if 0 < (gUnplugs s x b (j + 1)).1 then gUnplugs s x b (j + 1) else _) = _
    rw [ih, if_pos (by simp)]
theorem gClear_st (s : Pl) (x : Gs) (i : Nat) : ∀ j, j ≤ 16 → (gClear s x j).2.m.st i = if i < j then 0 else x.m.st i
  | 0, _ => by rw [if_neg (by omega)]; rfl
  | j + 1, hj => by
    have ih := gClear_st s x i j (by omega)
    show (gUnplug (gClear s x j).1 (gClear s x j).2 ((j : Nat) : Int)).2.2.m.st i = _
    by_cases h0 : (gClear s x j).2.m.st j = 0
    · rw [gUnplug_no _ _ (by omega) h0]
      simp only
      by_cases e : i = j
      · subst e; rw [h0, if_pos (by omega)]
      · rw [ih]
        by_cases e2 : i < j
        · rw [if_pos e2, if_pos (by omega)]
        · rw [if_neg e2, if_neg (by omega)]
    · rw [gUnplug_yes _ _ (by omega) h0]
      show setAt (gClear s x j).2.m.st j 0 i = _
      by_cases e : i = j
      · subst e; rw [setAt_same, if_pos (by omega)]
      · rw [setAt_other _ _ _ _ e, ih]
        by_cases e2 : i < j
        · rw [if_pos e2, if_pos (by omega)]
        · rw [if_neg e2, if_neg (by omega)]
theorem gClear_n (s : Pl) (x : Gs) : ∀ j, (gClear s x j).1.n = s.n
  | 0 => rfl
  | j + 1 => by
    have ih := gClear_n s x j
    show (unplugR _ _ _).2.1.n = _
    rw [unplug_n, ih]
/-- All pages of a guest are unplugged. -/
theorem HQ.clear (hq : HQ h t W) (hx : h.g n = some x) : ∀ j, j ≤ 16 → ∃ t', HQ (h.put n (gClear h.s x j)) t' W ∧ (∀ p, p / 16 ≠ n → t' p = t p) ∧ pln (rowS (h.put n (gClear h.s x j))) 64 ≤ pln (rowS h) 64
  | 0, _ => by
    refine ⟨t, ?_, fun _ _ => rfl, ?_⟩
    · rw [show h.put n (gClear h.s x 0) = h from Hs.put_self hx]; exact hq
    · rw [show h.put n (gClear h.s x 0) = h from Hs.put_self hx]; exact Nat.le_refl _
  | j + 1, hj => by
    obtain ⟨t1, h1, h2, h3⟩ := hq.clear hx j (by omega)
    have hn := (hq.inv.gi n x hx).1
    have e0 : h.put n (gClear h.s x (j + 1)) = h.put n (gUnplug (gClear h.s x j).1 (gClear h.s x j).2 ((j : Nat) : Int)).2 := rfl
    by_cases h0 : (gClear h.s x j).2.m.st j = 0
    · rw [e0, gUnplug_no _ _ (by omega) h0]
      exact ⟨t1, h1, h2, h3⟩
    · rw [e0, gUnplug_yes _ _ (by omega) h0]
      obtain ⟨a1, a2, a3⟩ := h1.turn (k := j) (z := 0) (put_at _ _ _) (by omega) (by omega) (by omega) (fun e => by omega)
      rw [put_put] at a1 a2
      refine ⟨_, a1, fun p hp => by rw [setAt_other _ _ _ _ (by omega)]; exact h2 p hp, ?_⟩
      have h4 := pln_set (rowS (h.put n (gClear h.s x j))) (16 * n + j) 0 64 (by omega)
      rw [if_neg (show ¬ ((0 : Int) = 1) by omega)] at h4
      have h5 : rowS (h.put n (gTurn (gClear h.s x j).1 (gClear h.s x j).2 j 0)) = _ := a2
      rw [h5]
      omega
def hOff (s : Pl) (h : Hs) (n : Nat) : Hs := ⟨s, setAt h.g n none⟩
theorem HF.remove (hf : HF h t F W) (hx : h.g n = some x) : ∃ t', HF (hOff (gClear h.s x 16).1 h n) t' (setAt F n none) W := by
  obtain ⟨t', h1, h2, h3⟩ := hf.hr.hq.clear hx 16 (Nat.le_refl _)
  have hn := (hf.hr.inv.gi n x hx).1
  have ok := (h1.inv.gi n _ (put_at _ _ _)).2
  have hz : ∀ k, k < 16 → (gClear h.s x 16).2.m.lf k = lf0 := fun k hk => by
    refine ok.pg.zero hk ?_
    have := gClear_st h.s x k 16 (Nat.le_refl _)
    rw [if_pos hk] at this
    rw [this]; omega
  have hrow : rowL (hOff (gClear h.s x 16).1 h n) = rowL (h.put n (gClear h.s x 16)) := by
    funext i
    rw [rowL_put]
    unfold rowL hOff
    simp only
    by_cases e : i / 16 = n
    · rw [if_pos e, e, setAt_same, hz _ (by omega)]; rfl
    · rw [if_neg e, setAt_other _ _ _ _ e]
  have hrowS : rowS (hOff (gClear h.s x 16).1 h n) = rowS (h.put n (gClear h.s x 16)) := by
    funext i
    rw [rowS_put]
    unfold rowS hOff
    simp only
    by_cases e : i / 16 = n
    · have := gClear_st h.s x (i % 16) 16 (Nat.le_refl _)
      rw [if_pos (by omega)] at this
      rw [if_pos e, e, setAt_same, this]; rfl
    · rw [if_neg e, setAt_other _ _ _ _ e]
  have hne : ∀ i y, (hOff (gClear h.s x 16).1 h n).g i = some y → i ≠ n ∧ h.g i = some y := fun i y hy => by
    have hy : setAt h.g n none i = some y := hy
    by_cases e : i = n
    · subst e; rw [setAt_same] at hy; cases hy
    · rw [setAt_other _ _ _ _ e] at hy; exact ⟨e, hy⟩
  refine ⟨t', ⟨⟨⟨?_, h1.inv.byt, fun i y hy => hf.hr.inv.gi i y (hne i y hy).2⟩, ?_, ?_⟩, fun i y hy => hf.blk i y (hne i y hy).2, fun i => ?_, fun i y q hy hq => ?_⟩⟩
  · have := h1.inv.cn
    rw [← hrow] at this
    exact this
  · have := h1.ri
    rw [← hrow] at this
    exact this
  · rw [hrowS]
    show _ ≤ (gClear h.s x 16).1.n
    rw [gClear_n]
    have := hf.hr.le
    omega
  · show setAt h.g n none i = none ↔ _
    by_cases e : i = n
    · subst e; rw [setAt_same, setAt_same]; simp
    · rw [setAt_other _ _ _ _ e, setAt_other _ _ _ _ e]; exact hf.non i
  · obtain ⟨e, hy'⟩ := hne i y hy
    rw [setAt_other _ _ _ _ e] at hq
    exact (hf.fl i y q hy' hq).other (fun p hp => h2 p (by omega))
theorem HF.add (hf : HF h t F W) (hn : n < 4) (hx : h.g n = none) (hW : 0 ≤ W) : HF ⟨h.s, setAt h.g n (some gs0)⟩ t (setAt F n (some fl0)) W := by
  have hrow : rowL ⟨h.s, setAt h.g n (some gs0)⟩ = rowL h := by
    funext i
    unfold rowL
    simp only
    by_cases e : i / 16 = n
    · rw [e, setAt_same, hx]; rfl
    · rw [setAt_other _ _ _ _ e]
  have hrowS : rowS ⟨h.s, setAt h.g n (some gs0)⟩ = rowS h := by
    funext i
    unfold rowS
    simp only
    by_cases e : i / 16 = n
    · rw [e, setAt_same, hx]; rfl
    · rw [setAt_other _ _ _ _ e]
  have hne : ∀ i y, setAt h.g n (some gs0) i = some y → (i = n ∧ y = gs0) ∨ (i ≠ n ∧ h.g i = some y) := fun i y hy => by
    by_cases e : i = n
    · subst e; rw [setAt_same] at hy; cases hy; exact Or.inl ⟨rfl, rfl⟩
    · rw [setAt_other _ _ _ _ e] at hy; exact Or.inr ⟨e, hy⟩
  refine ⟨⟨⟨by rw [hrow]; exact hf.hr.inv.cn, hf.hr.inv.byt, fun i y hy => ?_⟩, by rw [hrow]; exact hf.hr.ri, by rw [hrowS]; exact hf.hr.le⟩, fun i y hy => ?_, fun i => ?_, fun i y q hy hq => ?_⟩
  · rcases hne i y hy with ⟨rfl, rfl⟩ | ⟨_, hy'⟩
    · exact ⟨hn, Pgs.start, by show 0 ≤ 4; omega, dist_nil, by show (0 : Int) ≤ 0; omega, hW, by show (-1 : Int) ≤ -1; omega, by show (-1 : Int) ≤ 15; omega, fun y hy => by simp [gs0] at hy⟩
    · exact hf.hr.inv.gi i y hy'
  · rcases hne i y hy with ⟨rfl, rfl⟩ | ⟨_, hy'⟩
    · intro b j _ _; exact ⟨fun _ => rfl, fun _ => rfl⟩
    · exact hf.blk i y hy'
  · show setAt h.g n (some gs0) i = none ↔ _
    by_cases e : i = n
    · subst e; rw [setAt_same, setAt_same]; simp
    · rw [setAt_other _ _ _ _ e, setAt_other _ _ _ _ e]; exact hf.non i
  · rcases hne i y hy with ⟨rfl, rfl⟩ | ⟨e, hy'⟩
    · rw [setAt_same] at hq
      cases hq
      refine ⟨fun k _ => rfl, fun k j hk hj => ?_, rfl, rfl⟩
      show (0 : Int) = _
      have : (rowL h (16 * i + k)).there = false := by
        unfold rowL
        rw [show (16 * i + k) / 16 = i by omega, hx]; rfl
      exact (hf.hr.ri.out (16 * i + k) (by omega) this j hj).symm
    · rw [setAt_other _ _ _ _ e] at hq
      exact hf.fl i y q hy' hq
end Go.Proofs.YtadpibcgjgcjhabGreatDoor
