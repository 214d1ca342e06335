/- The document's answer for chapter 4: ForgetOne. -/
import Derived.Test.YtadpibcgjgcjhabGreatDoorGuD
namespace Go.Proofs.YtadpibcgjgcjhabGreatDoor
open Go.ChangeShapes Go.WideShapes Go.ChangeAt Go.RowKit
set_option maxRecDepth 100000
attribute [local go_sem ↓] Go.wp_at_zero Go.wp_at_succ

set_option maxHeartbeats 4000000 in
theorem gForget_any (w : World) (bg bm base : Nat) (v : Value) (g : Gs) (addr : Int) (h : RGu w bg bm base v g) (hbm : bm < w.heap.size) (hb : base ≤ w.heap.size) (hl : g.c.length ≤ 4) :
    Calls Tryz.prog 47 #[.pointer (some ⟨bg, 0, none⟩), .int .i64 addr] w fun e w' => e = .returned (.int .i64 (gForget g addr).1) ∧ (∃ v', RGu w' bg bm base v' (gForget g addr).2 ∧ Fr w v v') ∧ Upd (fun k => k = bg) w w' := by
  by_cases ho : addr < 0 ∨ 255 < addr
  · have e : gForget g addr = (1, g) := by unfold gForget; rw [if_pos ho]
    rw [e]
    by_cases h1 : addr < 0
    · have d1 : decide (addr < 0) = true := by simp; exact h1
      go_enter Tryz.func47, Tryz.ntmps47
      go_wp2_with fail
      go_ret
      exact ⟨rfl, ⟨v, h, Fr.refl _ _⟩, Upd.refl _ _⟩
    · have d1 : decide (addr < 0) = false := by simp; omega
      have d2 : decide (255 < addr) = true := by simp; omega
      go_enter Tryz.func47, Tryz.ntmps47
      go_wp2_with fail
      go_ret
      exact ⟨rfl, ⟨v, h, Fr.refl _ _⟩, Upd.refl _ _⟩
  · obtain ⟨k, rfl⟩ := Int.eq_ofNat_of_zero_le (show 0 ≤ addr by omega)
    have hg : gForget g (k : Int) = (0, { g with c := keepTo (fun i => (i : Int) != fndI g.c g.root ((k : Int) / 16)) g.c g.c.length }) := by unfold gForget; rw [if_neg ho]
    rw [hg]
    have d1 : decide ((k : Int) < 0) = false := by simp
    have d2 : decide ((255 : Int) < (k : Int)) = false := by simp; omega
    have hwr : IntKind.i64.wrap ((k : Int) / 16) = (k : Int) / 16 := by rw [IntKind.wrap_i64]; omega
    have c65 := h.c65
    have c66 := h.c66
    have hlt := h.mp.lt
    have hud := (Upd.refl (fun _ => False) w).drew
    have HGd : Hid (RGu w.drew bg bm base v g) := h.upd hud (fun f => f) (fun _ _ f => f)
    have HUd : Hid _ := hud
    have HB : Hid _ := hb
    clear h hud hg hb
    go_enter Tryz.func47, Tryz.ntmps47
    go_wp2_with fail
    go_region_with (first
      | (go_at_call 71; refine (cFind_any _ base v g.c g.root _ HGd.out.sl (by omega)).mono ?_; rintro e w1 ⟨rfl, hw1⟩; subst hw1)
      | (go_at_call 70; refine (cWithout_any _ base v g.c _ HGd.out.sl (by omega)).mono ?_; rintro e w2 ⟨v2, rfl, hs2, hu2⟩; obtain ⟨a2, cap2, rfl, _⟩ := hs2.form; have HG2 : Hid _ := HGd.out.upd hu2 (fun f => f) (fun _ _ f => f); have d65 := HG2.out.c65; have fz := HG2.out.mp.fz 65; have HS2 : Hid _ := hs2; have HU2 : Hid _ := hu2; clear hs2 hu2))
    all_goals
      have hz : w.drew.heap.size = w.heap.size := rfl
      have HR : Hid _ := HG2.out.setC HS2.out (by have := HB.out; omega) (by omega) (by omega)
      have HV : Hid _ := ((HUd.out.trans HU2.out (fun _ _ f => f)).wide (T := fun k => k = bg) (fun _ f => f.elim)).trans (Upd.one _ bg 65 (.slice a2 (keepTo (fun i => (i : Int) != fndI g.c g.root ((k : Int) / 16)) g.c g.c.length).length cap2)) (fun _ _ e => e)
      have HFR : Hid (Fr w v _) := Fr.of HS2.out (Nat.le_of_eq hz.symm)
      clear HG2 HS2 HU2 c65 c66 d65 fz HUd HGd hz
      go_wp2_with fail
      go_ret
      exact ⟨rfl, ⟨_, HR.out, HFR.out⟩, HV.out⟩
end Go.Proofs.YtadpibcgjgcjhabGreatDoor
