/- Fill of the document's answer; Same of package frames. -/
import Derived.Test.YtehdddmpjimfhaaEq
namespace Go.Proofs.Ytehdddmpjimfhaa
open Go.ChangeShapes Go.WideShapes Go.ChangeAt Go.RowKit
set_option maxRecDepth 100000
attribute [local go_sem ↓] Go.wp_at_zero Go.wp_at_succ

theorem rFill_no (w : World) (bm : Nat) (f g : Int) (s : Pl) (h : RefAt w bm s) (hu : (s.used f && s.used g) = false) :
    Calls Try.prog 23 #[.pointer (some ⟨bm, 0, none⟩), .int .i64 f, .int .i64 g] w fun e w' => e = .returned (.int .i64 2) ∧ w' = w := by
  cases hf : s.used f with
  | false =>
    go_enter Try.func23, Try.ntmps23
    go_wp2_with fail
    refine (rUsed_is _ _ _ _ h hf).mono ?_
    rintro e w' ⟨rfl, rfl⟩
    go_wp2_with fail
    refine (rUsed_any _ _ _ _ h).mono ?_
    rintro e w' ⟨rfl, rfl⟩
    go_wp2_with fail
    go_ret
    exact ⟨rfl, rfl⟩
  | true =>
    have hg : s.used g = false := by simpa [hf] using hu
    go_enter Try.func23, Try.ntmps23
    go_wp2_with fail
    refine (rUsed_is _ _ _ _ h hf).mono ?_
    rintro e w' ⟨rfl, rfl⟩
    go_wp2_with fail
    refine (rUsed_is _ _ _ _ h hg).mono ?_
    rintro e w' ⟨rfl, rfl⟩
    go_wp2_with fail
    go_ret
    exact ⟨rfl, rfl⟩
theorem rFill_held (w : World) (bm : Nat) (f g : Int) (s : Pl) (h : RefAt w bm s) (hf : s.used f = true) (hg : s.used g = true) (hr : 1 < s.refs f.toNat) :
    Calls Try.prog 23 #[.pointer (some ⟨bm, 0, none⟩), .int .i64 f, .int .i64 g] w fun e w' => e = .returned (.int .i64 4) ∧ w' = w := by
  obtain ⟨f0, f1, _⟩ := (s.used_iff f).1 hf
  have hl := h.le
  have f2 : f < 64 := by omega
  have c1 := h.refs f.toNat (by omega)
  go_enter Try.func23, Try.ntmps23
  go_wp2_with fail
  refine (rUsed_is _ _ _ _ h hf).mono ?_
  rintro e w' ⟨rfl, rfl⟩
  go_wp2_with fail
  refine (rUsed_is _ _ _ _ h hg).mono ?_
  rintro e w' ⟨rfl, rfl⟩
  go_wp2_with fail
  go_ret
  exact ⟨rfl, rfl⟩
theorem keep_same {w : World} {b o : Nat} {cs : List Value} (ht : w.there b o 16) (hl : cs.length = 16) :
    (w.setCells b o cs).rangeAt b o cs ∧ (w.setCells b o cs).there b o 16 :=
  ⟨World.rangeAt_setCells_same w b o cs (by rw [hl]; exact ht), World.there_setCells ht b o cs⟩
theorem rFill_yes (w : World) (bm : Nat) (f g : Int) (s : Pl) (h : RefAt w bm s) (hf : s.used f = true) (hg : s.used g = true) (hr : s.refs f.toNat ≤ 1) :
    Calls Try.prog 23 #[.pointer (some ⟨bm, 0, none⟩), .int .i64 f, .int .i64 g] w fun e w' => e = .returned (.int .i64 0) ∧ w' = w.drew.setCells bm (1 + f.toNat * 16) (rowOf (s.byt g.toNat)) := by
  obtain ⟨f0, f1, _⟩ := (s.used_iff f).1 hf
  obtain ⟨g0, g1, _⟩ := (s.used_iff g).1 hg
  have hl := h.le
  have f2 : f < 64 := by omega
  have g2 : g < 64 := by omega
  have c1 := h.refs f.toNat (by omega)
  have hrg := h.range (f := g.toNat) (by omega)
  have ht := h.there (f := f.toNat) (by omega)
  have e1 := rowOf_length (s.byt g.toNat)
  have e2 := rowOf_one (s.byt g.toNat)
  revert hrg e1 e2
  generalize rowOf (s.byt g.toNat) = cs
  intro hrg e1 e2
  have hi : (Try.prog.info? 32).map (·.size) = some cs.length := by rw [e1]; exact info32
  have hu := Try.underlying32
  by_cases hfg : f.toNat = g.toNat
  · rw [hfg] at ht ⊢
    have hfg' : f = g := by omega
    subst hfg'
    clear hfg
    go_enter Try.func23, Try.ntmps23
    go_wp2_with fail
    refine (rUsed_is _ _ _ _ h hf).mono ?_
    rintro e w' ⟨rfl, rfl⟩
    go_wp2_with fail
    refine (rUsed_is _ _ _ _ h hg).mono ?_
    rintro e w' ⟨rfl, rfl⟩
    go_wp2_with fail
    go_region_held3 (fun w' => w'.rangeAt bm (1 + f.toNat * 16) cs ∧ w'.there bm (1 + f.toNat * 16) 16) (first | exact ⟨hrg, ht⟩ | exact keep_same ht e1) (fail)
    go_wp2_with fail
    go_ret
    exact ⟨rfl, rfl⟩
  · go_enter Try.func23, Try.ntmps23
    go_wp2_with fail
    refine (rUsed_is _ _ _ _ h hf).mono ?_
    rintro e w' ⟨rfl, rfl⟩
    go_wp2_with fail
    refine (rUsed_is _ _ _ _ h hg).mono ?_
    rintro e w' ⟨rfl, rfl⟩
    go_wp2_with fail
    go_region_held3 (fun w' => w'.rangeAt bm (1 + g.toNat * 16) cs ∧ w'.there bm (1 + f.toNat * 16) 16) (go_keep_ranges) (fail)
    go_wp2_with fail
    go_ret
    exact ⟨rfl, rfl⟩
theorem rFill_any (w : World) (bm : Nat) (f g : Int) (s : Pl) (h : RefAt w bm s) :
    Calls Try.prog 23 #[.pointer (some ⟨bm, 0, none⟩), .int .i64 f, .int .i64 g] w fun e w' => e = .returned (.int .i64 (s.fill f g).1) ∧ RefAt w' bm (s.fill f g).2 ∧ Upd (fun k => k = bm) w w' := by
  cases hu : (s.used f && s.used g) with
  | false =>
    refine (rFill_no w bm f g s h hu).mono ?_
    rintro e w' ⟨rfl, rfl⟩
    simp only [Pl.fill, hu, Bool.false_eq_true, if_false]
    exact ⟨trivial, h, Upd.refl _ _⟩
  | true =>
    have hu' := hu
    simp only [Bool.and_eq_true] at hu'
    obtain ⟨f0, f1, _⟩ := (s.used_iff f).1 hu'.1
    by_cases hr : 1 < s.refs f.toNat
    · refine (rFill_held w bm f g s h hu'.1 hu'.2 hr).mono ?_
      rintro e w' ⟨rfl, rfl⟩
      simp only [Pl.fill, hu, if_true, hr]
      exact ⟨trivial, h, Upd.refl _ _⟩
    · refine (rFill_yes w bm f g s h hu'.1 hu'.2 (by omega)).mono ?_
      rintro e w' ⟨rfl, rfl⟩
      simp only [Pl.fill, hu, if_true, hr, if_false]
      exact ⟨trivial, (h.upd (S := fun _ => False) (Upd.refl _ _).drew (fun f => f)).setRow (f := f.toNat) (by omega) _, (Upd.refl _ _).drew.trans (Upd.row _ _ _ _) (fun _ _ e => e)⟩
end Go.Proofs.Ytehdddmpjimfhaa
