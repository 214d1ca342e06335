/- Same of package frames. -/
import Derived.Test.YtadpibcgjgcjhabGreatDoorEq
namespace Go.Proofs.YtadpibcgjgcjhabGreatDoor
open Go.ChangeShapes Go.WideShapes Go.ChangeAt Go.RowKit
set_option maxRecDepth 100000
attribute [local go_sem ↓] Go.wp_at_zero Go.wp_at_succ

/-- A whole row is read in a region that draws its order, the quiet walk's step. -/
theorem wpQuiet_loadRow {ops : Array Oper} {C : World → Prop} {Q : Act → Prop} {a : Act} {o : Oper} {rest : List Oper} (hw : Region.wanted o (yielded ops a.tmps) = true) (x : Operand) (ho : o.op = .load 44 x)
    (b off : Nat) (hx : a.eval x = .pointer (some ⟨b, off, none⟩)) (cs : List Value) (hc : ∀ w, C w → w.rangeAt b off cs) (hi : (Tryz.prog.info? 44).map (·.size) = some cs.length)
    (h : wpQuiet Tryz.prog ops C Q rest (a.put o.dst (.agg cs.toArray))) : wpQuiet Tryz.prog ops C Q (o :: rest) a := by
  unfold wpQuiet
  rw [if_pos hw]
  refine ⟨.agg cs.toArray, fun w hC => ?_, h⟩
  unfold Oper.quietAt execOp
  simp only [ho, hx, Instr.loadAt, Instr.sureAddr, Sem.run_bind, Sem.run_pure, Result.andThen_ok, run_loadVar_mid w b off 44 cs _ (hc w hC) Tryz.underlying44 rfl hi]
  exact ⟨rfl, rfl⟩
theorem same_no (w : World) (bp bf : Nat) (f g : Int) (s : Pl) (h : PoolAt w bp bf s) (hu : (s.used f && s.used g) = false) :
    Calls Tryz.prog 113 #[.pointer (some ⟨bp, 0, none⟩), .int .i64 f, .int .i64 g] w fun e w' => e = .returned (.bool false) ∧ ∃ m, w' = w.drewN m := by
  cases hf : s.used f with
  | false =>
    go_enter Tryz.func113, Tryz.ntmps113
    go_wp2_with fail
    refine (used_none _ _ _ _ _ h hf).mono ?_
    rintro e w' ⟨rfl, rfl⟩
    go_wp2_with fail
    refine (used_any _ _ _ _ _ h).mono ?_
    rintro e w' ⟨rfl, rfl⟩
    generalize (if s.used g then some (⟨bf, g.toNat * 17, none⟩ : Addr) else none) = pg
    go_wp2_with fail
    go_quiet (fail)
    go_wp2_with fail
    go_ret
    exact ⟨rfl, _, rfl⟩
  | true =>
    have hg : s.used g = false := by simpa [hf] using hu
    go_enter Tryz.func113, Tryz.ntmps113
    go_wp2_with fail
    refine (used_some _ _ _ _ _ h hf).mono ?_
    rintro e w' ⟨rfl, rfl⟩
    go_wp2_with fail
    refine (used_none _ _ _ _ _ h hg).mono ?_
    rintro e w' ⟨rfl, rfl⟩
    go_wp2_with fail
    go_quiet (fail)
    go_wp2_with fail
    go_ret
    exact ⟨rfl, _, rfl⟩
theorem same_yes (w : World) (bp bf : Nat) (f g : Int) (s : Pl) (h : PoolAt w bp bf s) (hf : s.used f = true) (hg : s.used g = true) :
    Calls Tryz.prog 113 #[.pointer (some ⟨bp, 0, none⟩), .int .i64 f, .int .i64 g] w fun e w' => e = .returned (.bool (sameTo (s.byt f.toNat) (s.byt g.toNat) 16)) ∧ ∃ m, w' = w.drewN m := by
  obtain ⟨f0, f1, _⟩ := (s.used_iff f).1 hf
  obtain ⟨g0, g1, _⟩ := (s.used_iff g).1 hg
  have hrf := h.range (f := f.toNat) (by omega)
  have hrg := h.range (f := g.toNat) (by omega)
  have e1 := rowOf_length (s.byt f.toNat)
  have e2 := rowOf_length (s.byt g.toNat)
  have he := eql_rows (s.byt f.toNat) (s.byt g.toNat)
  revert hrf hrg e1 e2 he
  generalize rowOf (s.byt f.toNat) = c1
  generalize rowOf (s.byt g.toNat) = c2
  generalize sameTo (s.byt f.toNat) (s.byt g.toNat) 16 = r
  intro hrf hrg e1 e2 he
  have i1 : (Tryz.prog.info? 44).map (·.size) = some c1.length := by rw [e1]; exact info32
  have i2 : (Tryz.prog.info? 44).map (·.size) = some c2.length := by rw [e2]; exact info32
  go_enter Tryz.func113, Tryz.ntmps113
  go_wp2_with fail
  refine (used_some _ _ _ _ _ h hf).mono ?_
  rintro e w' ⟨rfl, rfl⟩
  go_wp2_with fail
  refine (used_some _ _ _ _ _ h hg).mono ?_
  rintro e w' ⟨rfl, rfl⟩
  go_wp2_with fail
  refine wp_region_quiet_lit (by kernel_rfl) (by kernel_rfl) ?_
  repeat (first
    | (refine wpQuiet_loadRow (by rfl) _ (by rfl) bf (f.toNat * 17 + 1) (by rfl) c1 (by rintro _ ⟨n, rfl⟩; exact hrf) i1 ?_; simp only [Act.put, List.setIfInBounds_toArray, List.set_cons_zero, List.set_cons_succ])
    | (refine wpQuiet_loadRow (by rfl) _ (by rfl) bf (g.toNat * 17 + 1) (by rfl) c2 (by rintro _ ⟨n, rfl⟩; exact hrg) i2 ?_; simp only [Act.put, List.setIfInBounds_toArray, List.set_cons_zero, List.set_cons_succ])
    | go_big_quiet_step (fail))
  refine wpQuiet_nil ?_
  intro _ hw'
  obtain ⟨nq, hw''⟩ := hw'
  subst hw''
  go_wp2_with fail
  go_ret
  exact ⟨rfl, _, rfl⟩
theorem same_any (w : World) (bp bf : Nat) (f g : Int) (s : Pl) (h : PoolAt w bp bf s) :
    Calls Tryz.prog 113 #[.pointer (some ⟨bp, 0, none⟩), .int .i64 f, .int .i64 g] w fun e w' => e = .returned (.bool (s.same f g)) ∧ ∃ m, w' = w.drewN m := by
  cases hu : (s.used f && s.used g) with
  | false =>
    have e : s.same f g = false := by simp only [Pl.same, hu, Bool.false_and]
    rw [e]
    exact same_no w bp bf f g s h hu
  | true =>
    have e : s.same f g = sameTo (s.byt f.toNat) (s.byt g.toNat) 16 := by simp only [Pl.same, hu, Bool.true_and, sameTo]
    rw [e]
    simp only [Bool.and_eq_true] at hu
    exact same_yes w bp bf f g s h hu.1 hu.2
end Go.Proofs.YtadpibcgjgcjhabGreatDoor
