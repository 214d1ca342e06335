/- The document's answer for chapter 4: SetRoot, ForgetAll, Cached. -/
import Derived.Test.YtadpibcgjgcjhabGreatDoorGuM
namespace Go.Proofs.YtadpibcgjgcjhabGreatDoor
open Go.ChangeShapes Go.WideShapes Go.ChangeAt Go.RowKit
set_option maxRecDepth 100000
attribute [local go_sem ↓] Go.wp_at_zero Go.wp_at_succ

theorem gRoot_any (w : World) (bg bm base : Nat) (v : Value) (g : Gs) (n : Int) (h : RGu w bg bm base v g) :
    Calls Tryz.prog 46 #[.pointer (some ⟨bg, 0, none⟩), .int .i64 n] w fun e w' => e = .returned (.int .i64 (gRoot g n).1) ∧ RGu w' bg bm base v (gRoot g n).2 ∧ Upd (fun k => k = bg) w w' := by
  have c66 := h.c66
  have fz := h.mp.fz 66
  by_cases h1 : n < -1
  · have d1 : decide (n < -1) = true := by simp; exact h1
    have hg : gRoot g n = (1, g) := by unfold gRoot; rw [if_pos (Or.inl h1)]
    rw [hg]
    go_enter Tryz.func46, Tryz.ntmps46
    go_wp2_with fail
    go_ret
    exact ⟨rfl, h, Upd.refl _ _⟩
  · have d1 : decide (n < -1) = false := by simp; omega
    by_cases h2 : 15 < n
    · have d2 : decide (15 < n) = true := by simp; exact h2
      have hg : gRoot g n = (1, g) := by unfold gRoot; rw [if_pos (Or.inr h2)]
      rw [hg]
      go_enter Tryz.func46, Tryz.ntmps46
      go_wp2_with fail
      go_ret
      exact ⟨rfl, h, Upd.refl _ _⟩
    · have d2 : decide (15 < n) = false := by simp; omega
      have hg : gRoot g n = (0, { g with root := n }) := by unfold gRoot; rw [if_neg (by omega)]
      rw [hg]
      have HS : Hid _ := h.setRoot n
      clear h
      go_enter Tryz.func46, Tryz.ntmps46
      go_wp2_with fail
      go_ret
      exact ⟨rfl, HS.out, Upd.one _ _ _ _⟩
theorem gForgetAll_any (w : World) (bg bm base : Nat) (v : Value) (g : Gs) (n : Int) (h : RGu w bg bm base v g) (hbm : bm < w.heap.size) (hb : base ≤ w.heap.size) (hl : g.c.length ≤ 4) :
    Calls Tryz.prog 48 #[.pointer (some ⟨bg, 0, none⟩), .int .i64 n] w fun e w' => ∃ v', e = .returned (.int .i64 (gForgetAll g n).1) ∧ RGu w' bg bm base v' (gForgetAll g n).2 ∧ Upd (fun k => k = bg) w w' ∧ Fr w v v' := by
  have c65 := h.c65
  have HH : Hid _ := h
  have hlt := h.mp.lt
  clear h
  cases ho : onB n with
  | false =>
    have hg : gForgetAll g n = (1, g) := by simp [gForgetAll, ho]
    rw [hg]
    go_enter Tryz.func48, Tryz.ntmps48
    go_wp2_with fail
    refine (on_any w n).mono ?_
    rintro e w1 ⟨rfl, hw1⟩
    subst hw1
    rw [ho]
    go_wp2_with fail
    go_ret
    exact ⟨v, rfl, HH.out, Upd.refl _ _, Fr.refl _ _⟩
  | true =>
    have hg : gForgetAll g n = (0, { g with c := keepTo (fun i => (atE g.c i).root != n) g.c g.c.length }) := by simp [gForgetAll, ho]
    rw [hg]
    go_enter Tryz.func48, Tryz.ntmps48
    go_wp2_with fail
    refine (on_any w n).mono ?_
    rintro e w1 ⟨rfl, hw1⟩
    subst hw1
    rw [ho]
    go_wp2_with fail
    refine (cForget_any w1 base v g.c n HH.out.sl (by omega)).mono ?_
    rintro e w2 ⟨v2, rfl, hs2, hu2⟩
    obtain ⟨a2, cap2, rfl, _⟩ := hs2.form
    have h2 := HH.out.upd hu2 (fun f => f) (fun _ _ f => f)
    have d65 := h2.c65
    have fz := h2.mp.fz 65
    have HS : Hid _ := h2.setC hs2 hb hlt hbm
    have HFR : Hid (Fr w1 v _) := Fr.of hs2 (Nat.le_refl _)
    have HU : Hid _ := hu2
    clear hs2 hu2 h2 c65
    generalize (keepTo (fun i => (atE g.c i).root != n) g.c g.c.length).length = kl at *
    go_wp2_with fail
    go_ret
    exact ⟨_, rfl, HS.out, (HU.out.wide (T := fun k => k = bg) (fun _ f => f.elim)).trans (Upd.one _ _ _ _) (fun _ _ e => e), HFR.out⟩
end Go.Proofs.YtadpibcgjgcjhabGreatDoor
