/- Loads and stores of a guest of a host, plainly: what a flat memory tells; other guests' bytes are as they were. -/
import Derived.Test.YtadpibcgjgcjhabGreatDoorHoE
namespace Go.Proofs.YtadpibcgjgcjhabGreatDoor
open Go.RowKit
variable {h : Hs} {t : Nat → Nat → Int} {W W' : Int} {n : Nat} {x : Gs} {f : Fl}

theorem load_ok (hr : HR h t W) (hx : h.g n = some x) (hf : FR n x t f) (addr : Int) :
    (gLoad h.s x addr).1 = (fLoad f addr).1 ∧ HR (h.put n (gLoad h.s x addr).2) t (W + 1) ∧ FR n (gLoad h.s x addr).2.2 t (fLoad f addr).2 := by
  have hn := (hr.inv.gi n x hx).1
  have ha := at_ok hr hx hf addr false
  unfold gLoad fLoad
  rw [← ha.code]
  by_cases h0 : 0 < (gAt h.s x addr false).1.2
  · rw [if_pos h0, if_pos h0]
    exact ⟨rfl, ha.hr, ha.fr⟩
  · rw [if_neg h0, if_neg h0]
    have hc : 0 ≤ (gAt h.s x addr false).1.2 := by
      rw [ha.code]
      unfold fAt fStep
      have := pgCode_le
      repeat' split
      all_goals first | exact this _ | simp
    obtain ⟨⟨p0, p1⟩, u1, u2, _⟩ := ha.page (by omega)
    refine ⟨?_, ha.hr, ha.fr⟩
    have hb := ha.hr.ri.byt (16 * n + (fAt f addr false).1.1.toNat) (by omega)
    rw [rowL_at (put_at _ _ _) (by omega)] at hb
    have hb := hb u1 (addr % 16).toNat (by omega)
    rw [u2] at hb
    have := ha.fr.b (fAt f addr false).1.1.toNat (addr % 16).toNat (by omega) (by omega)
    simp only
    rw [this]
    exact congrArg (fun z => (z, (0 : Int))) hb
theorem store_ok (hr : HR h t W) (hx : h.g n = some x) (hf : FR n x t f) (addr v : Int) (v0 : 0 ≤ v) (v1 : v ≤ 255) :
    (gStore h.s x addr v).1 = (fStore f addr v).1 ∧ ∃ t', HR (h.put n (gStore h.s x addr v).2) t' (W + 1) ∧ FR n (gStore h.s x addr v).2.2 t' (fStore f addr v).2 ∧ ∀ p, p / 16 ≠ n → t' p = t p := by
  have hn := (hr.inv.gi n x hx).1
  have hx4 := hr.inv.gi n x hx
  have ha := at_ok hr hx hf addr true
  have hgs := (hr.inv.ginv hx).store addr v v0 v1
  have hds := store_dist (s := h.s) hx4.2.di hx4.2.len addr v
  revert hgs hds
  unfold gStore fStore
  intro hgs hds
  rw [← ha.code]
  by_cases h0 : 0 < (gAt h.s x addr true).1.2
  · rw [if_pos h0, if_pos h0]
    exact ⟨rfl, t, ha.hr, ha.fr, fun _ _ => rfl⟩
  · rw [if_neg h0] at hgs hds
    rw [if_neg h0, if_neg h0]
    have hc : 0 ≤ (gAt h.s x addr true).1.2 := by
      rw [ha.code]
      unfold fAt fStep
      have := pgCode_le
      repeat' split
      all_goals first | exact this _ | simp
    obtain ⟨⟨p0, p1⟩, u1, u2, u3⟩ := ha.page (by omega)
    have hp64 : 16 * n + (fAt f addr true).1.1.toNat < 64 := by omega
    have hL := rowL_at (put_at h n (gAt h.s x addr true).2) (show (fAt f addr true).1.1.toNat < 16 by omega)
    have ht : (rowL (h.put n (gAt h.s x addr true).2) (16 * n + (fAt f addr true).1.1.toNat)).there = true := by rw [hL]; exact u1
    have hw : (rowL (h.put n (gAt h.s x addr true).2) (16 * n + (fAt f addr true).1.1.toNat)).wr = true := by rw [hL]; exact u3 rfl
    have hone := ha.hr.ri.one _ hp64 ht hw
    have hus := ha.hr.inv.cn.used hp64 ht
    have hfr : (rowL (h.put n (gAt h.s x addr true).2) (16 * n + (fAt f addr true).1.1.toNat)).fr = (gAt h.s x addr true).1.1 := by rw [hL]; exact u2
    rw [hfr] at hone hus
    have hus : (gAt h.s x addr true).2.1.used (gAt h.s x addr true).1.1 = true := hus
    have hset : (gAt h.s x addr true).2.1.set (gAt h.s x addr true).1.1 (addr % 16) v = (0, { (gAt h.s x addr true).2.1 with byt := setAt (gAt h.s x addr true).2.1.byt (gAt h.s x addr true).1.1.toNat (setAt ((gAt h.s x addr true).2.1.byt (gAt h.s x addr true).1.1.toNat) (addr % 16).toNat v) }) := by
      unfold Pl.set
      rw [if_neg (by omega), if_pos hus, if_neg (by
        have : (gAt h.s x addr true).2.1.refs (gAt h.s x addr true).1.1.toNat = 1 := hone
        omega)]
    have hri := ha.hr.ri.set (i := (addr % 16).toNat) (v := v) ha.hr.inv.cn hp64 ht hw
    rw [hfr] at hri
    rw [hset] at hgs hds ⊢
    refine ⟨rfl, setAt t (16 * n + (fAt f addr true).1.1.toNat) (setAt (t (16 * n + (fAt f addr true).1.1.toNat)) (addr % 16).toNat v), ⟨?_, ?_, ?_⟩, ⟨?_, ?_, ?_, ?_⟩, ?_⟩
    · have := ha.hr.inv.put (n := n) (x := (gAt h.s x addr true).2.2) (s' := { (gAt h.s x addr true).2.1 with byt := setAt (gAt h.s x addr true).2.1.byt (gAt h.s x addr true).1.1.toNat (setAt ((gAt h.s x addr true).2.1.byt (gAt h.s x addr true).1.1.toNat) (addr % 16).toNat v) }) (x' := (gAt h.s x addr true).2.2) (put_at _ _ _) (W' := W + 1) (by rw [oth_put]; exact hgs) hds rfl (Int.le_refl _)
      rw [put_put] at this
      exact this
    · have e : rowL (h.put n ({ (gAt h.s x addr true).2.1 with byt := setAt (gAt h.s x addr true).2.1.byt (gAt h.s x addr true).1.1.toNat (setAt ((gAt h.s x addr true).2.1.byt (gAt h.s x addr true).1.1.toNat) (addr % 16).toNat v) }, (gAt h.s x addr true).2.2)) = rowL (h.put n (gAt h.s x addr true).2) := by
        funext i
        rw [rowL_put, rowL_put]
      rw [e]
      exact hri
    · have e : rowS (h.put n ({ (gAt h.s x addr true).2.1 with byt := setAt (gAt h.s x addr true).2.1.byt (gAt h.s x addr true).1.1.toNat (setAt ((gAt h.s x addr true).2.1.byt (gAt h.s x addr true).1.1.toNat) (addr % 16).toNat v) }, (gAt h.s x addr true).2.2)) = rowS (h.put n (gAt h.s x addr true).2) := by
        funext i
        rw [rowS_put, rowS_put]
      rw [e]
      exact ha.hr.le
    · exact ha.fr.st
    · intro k i hk hi
      by_cases e : k = (fAt f addr true).1.1.toNat
      · subst e
        simp only [setAt_same]
        by_cases e2 : i = (addr % 16).toNat
        · subst e2; rw [setAt_same, setAt_same]
        · rw [setAt_other _ _ _ _ e2, setAt_other _ _ _ _ e2]
          exact ha.fr.b _ i hk hi
      · simp only
        rw [setAt_other _ _ _ _ e, setAt_other _ _ _ _ (by omega)]
        exact ha.fr.b k i hk hi
    · exact ha.fr.root
    · exact ha.fr.c
    · intro p hp
      exact setAt_other _ _ _ _ (by omega)
end Go.Proofs.YtadpibcgjgcjhabGreatDoor
