/- The document's answer for chapter 2: Touch, whatever the page. -/
import Derived.Test.YtadpibcgjgcjhabGreatDoorMapV
namespace Go.Proofs.YtadpibcgjgcjhabGreatDoor
open Go.ChangeShapes Go.WideShapes Go.ChangeAt Go.RowKit
set_option maxRecDepth 100000

/-- Each page that is in a frame is in a used one. -/
def LfOk (s : Pl) (m : Mp) : Prop := ∀ k, k < 16 → (m.lf k).there = true → 0 ≤ (m.lf k).fr ∧ (m.lf k).fr < s.n ∧ s.refs (m.lf k).fr.toNat ≠ 0

theorem take_some {s : Pl} {j : Nat} (h : firstFrom s.refs 0 s.n = some j) : s.take = ((j : Int), 0, { s with refs := setAt s.refs j 1, byt := setAt s.byt j fun _ => 0 }) := by
  unfold Pl.take; rw [h]
theorem take_none {s : Pl} (h : firstFrom s.refs 0 s.n = none) : s.take = (0, 3, s) := by
  unfold Pl.take; rw [h]

theorem rTouch_any (w : World) (bx bm : Nat) (n : Int) (wt : Bool) (m : Mp) (s : Pl) (h : RMap w bx bm m) (hr : RefAt w bm s) (hne : bx ≠ bm) (hm : ∀ k, k < s.n → s.refs k ≤ 999999) (hi : LfOk s m) :
    Calls Tryz.prog 98 #[.pointer (some ⟨bx, 0, none⟩), .int .i64 n, .bool wt] w fun e w' => e = .returned (.tuple #[.int .i64 (touchR s m n wt).1.1, .bool (touchR s m n wt).1.2.1, .int .i64 (touchR s m n wt).1.2.2]) ∧
      RefAt w' bm (touchR s m n wt).2.1 ∧ RMap w' bx bm (touchR s m n wt).2.2 ∧ Upd (fun k => k = bm ∨ k = bx) w w' := by
  cases ho : onB n with
  | false =>
    refine (touch_out w bx n wt ho).mono ?_
    rintro e w' ⟨rfl, rfl⟩
    simp only [touchR, ho, Bool.false_eq_true, if_false]
    exact ⟨trivial, hr, h, Upd.refl _ _⟩
  | true =>
    obtain ⟨n0, n1⟩ := (onB_iff n).1 ho
    obtain ⟨k, rfl⟩ := Int.eq_ofNat_of_zero_le n0
    have hk : k < 16 := by omega
    by_cases s0 : m.st k = 0
    · refine (touch_absent w bx bm k wt m h hk s0).mono ?_
      rintro e w' ⟨rfl, rfl⟩
      simp only [touchR, ho, if_true, Int.toNat_natCast, s0]
      exact ⟨trivial, hr, h, Upd.refl _ _⟩
    · by_cases s2 : m.st k = 2
      · refine (touch_gone w bx bm k wt m h hk s2).mono ?_
        rintro e w' ⟨rfl, rfl⟩
        simp only [touchR, ho, if_true, Int.toNat_natCast, s2, show ¬ ((2 : Int) = 0) by omega, if_false]
        exact ⟨trivial, hr, h, Upd.refl _ _⟩
      · cases hkeep : ((m.lf k).there && (!wt || (m.lf k).wr)) with
        | true =>
          have hk' := hkeep
          simp only [Bool.and_eq_true] at hk'
          refine (touch_keep w bx bm k wt m h hk s0 s2 hk'.1 hk'.2).mono ?_
          rintro e w' ⟨rfl, hu⟩
          simp only [touchR, ho, if_true, Int.toNat_natCast, s0, s2, if_false, hkeep]
          exact ⟨trivial, hr.upd hu (fun f => f), h.upd hu (fun f => f), hu.wide (fun _ f => f.elim)⟩
        | false =>
          cases hone : ((m.lf k).there && (s.refs (m.lf k).fr.toNat == 1)) with
          | true =>
            have ho' := hone
            simp only [Bool.and_eq_true, beq_iff_eq] at ho'
            have hw := hkeep
            rw [ho'.1] at hw
            simp only [Bool.true_and, Bool.or_eq_false_iff, Bool.not_eq_false'] at hw
            obtain ⟨hw1, hw2⟩ := hw
            subst hw1
            obtain ⟨f0, f1, _⟩ := hi k hk ho'.1
            refine (touch_own w bx bm k m s h hr hne hk s0 s2 ho'.1 hw2 f0 f1 ho'.2).mono ?_
            rintro e w' ⟨rfl, hx, hu⟩
            simp only [touchR, ho, if_true, Int.toNat_natCast, s0, s2, if_false, hkeep, hone, Bool.false_eq_true]
            exact ⟨trivial, hr.upd hu (Ne.symm hne), hx, hu.wide (fun _ e => Or.inr e)⟩
          | false =>
            have way : (m.lf k).there = false ∨ ((m.lf k).there = true ∧ wt = true ∧ (m.lf k).wr = false ∧ 0 ≤ (m.lf k).fr ∧ (m.lf k).fr < s.n ∧ s.refs (m.lf k).fr.toNat ≠ 1) := by
              cases ht : (m.lf k).there with
              | false => exact Or.inl rfl
              | true =>
                rw [ht] at hkeep hone
                simp only [Bool.true_and, Bool.or_eq_false_iff, Bool.not_eq_false'] at hkeep
                obtain ⟨f0, f1, _⟩ := hi k hk ht
                exact Or.inr ⟨rfl, hkeep.1, hkeep.2, f0, f1, by simpa using hone⟩
            have hs := firstFrom_spec s.refs s.n 0
            revert hs
            cases hff : firstFrom s.refs 0 s.n with
            | none =>
              intro hs
              refine (touch_full w bx bm k wt m s h hr hk s0 s2 way (fun i hi => hs i (by omega) (by omega))).mono ?_
              rintro e w' ⟨rfl, hu⟩
              simp only [touchR, ho, if_true, Int.toNat_natCast, s0, s2, if_false, hkeep, hone, Bool.false_eq_true, take_none hff, show ¬ ((3 : Int) = 0) by omega]
              exact ⟨trivial, hr.upd hu (fun f => f), h.upd hu (fun f => f), hu.wide (fun _ f => f.elim)⟩
            | some j =>
              rintro ⟨_, j1, j2, j3⟩
              rcases way with ht | ⟨ht, rfl, hw, f0, f1, h1⟩
              · refine (touch_new w bx bm k j wt m s h hr hne hk s0 s2 ht (by omega) j2 (fun i hi => j3 i (by omega) hi)).mono ?_
                rintro e w' ⟨rfl, a1, a2, a3⟩
                simp only [touchR, ho, if_true, Int.toNat_natCast, s0, s2, if_false, ht, Bool.false_and, Bool.false_eq_true, take_some hff]
                exact ⟨trivial, a1, a2, a3⟩
              · refine (touch_move w bx bm k j m s h hr hne hm hk s0 s2 ht hw f0 f1 h1 (hi k hk ht).2.2 (by omega) j2 (fun i hi => j3 i (by omega) hi)).mono ?_
                rintro e w' ⟨rfl, a1, a2, a3⟩
                have hkeep' := hkeep
                have hone' := hone
                rw [ht] at hkeep' hone'
                simp only [touchR, ho, if_true, Int.toNat_natCast, s0, s2, if_false, ht, hkeep', hone', Bool.false_eq_true, take_some hff]
                exact ⟨trivial, a1, a2, a3⟩
end Go.Proofs.YtadpibcgjgcjhabGreatDoor
