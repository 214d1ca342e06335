/- The law's own helpers: same, takes, asPool. -/
import Derived.Test.YtehdddmpjimfhaaCopy
import Derived.Deep.DeepCutAuto
import Derived.Deep.LoopGhost
import Derived.Deep.CutBlock
namespace Go.Proofs.Ytehdddmpjimfhaa
open Go.ChangeShapes Go.WideShapes Go.ChangeAt Go.RowKit
set_option maxRecDepth 100000

theorem assert61 (w : World) (v : Value) : (Instr.typeAssert (.iface 105 v) 27 105 true).run Try.prog w = .ok (.tuple #[v, .bool true]) w := by kernel_rfl
theorem sameE (k : Int) (w : World) (hk : 0 ≤ k) :
    Calls Try.prog 12 #[errV k, .int .i64 k] w fun e w' => e = .returned (.bool true) ∧ w' = w := by
  by_cases h0 : k = 0
  · subst h0
    rw [errV_zero]
    go_enter Try.func12, Try.ntmps12
    go_wp2
    go_ret
    exact ⟨rfl, rfl⟩
  · have e : errV k = .iface 105 (.int .i64 k) := by simp [errV, h0]
    rw [e]
    have h1 : 0 < k := by omega
    have h' : (k == k) = true := by simp
    have h2 := assert61 w (.int .i64 k)
    clear h0 e hk
    go_enter Try.func12, Try.ntmps12
    go_wp2
    go_ret
    exact ⟨rfl, rfl⟩
theorem PoolAt.drewN {w : World} {bp bf : Nat} {s : Pl} (h : PoolAt w bp bf s) (n : Nat) : PoolAt (w.drewN n) bp bf s := ⟨h.hd, h.refs, h.byt, h.fz, h.ne, h.le, h.nn⟩
theorem RefAt.drewN {w : World} {bm : Nat} {s : Pl} (h : RefAt w bm s) (n : Nat) : RefAt (w.drewN n) bm s := ⟨h.num, h.byt, h.refs, h.fz, h.le, h.nn⟩
theorem of_code (s : Pl) (f : Int) : 0 ≤ (s.of f).2.2 := by unfold Pl.of; split <;> simp
theorem sum_code (s : Pl) (f : Int) : 0 ≤ (s.sum f).2 := by unfold Pl.sum; split <;> simp
theorem get_code (s : Pl) (f i : Int) : 0 ≤ (s.get f i).2 := by
  unfold Pl.get
  split
  · simp
  · split <;> simp

theorem take3 (w : World) (bp bf : Nat) (h : PoolAt w bp bf (pl0 3)) :
    Calls Try.prog 13 #[.pointer (some ⟨bp, 0, none⟩)] w fun e w' => e = .returned (.tuple #[.int .i64 0, .nilIface]) ∧ PoolAt w' bp bf { pl0 3 with refs := setAt (pl0 3).refs 0 1, byt := setAt (pl0 3).byt 0 fun _ => 0 } ∧ Upd (fun k => k = bf) w w' := by
  refine (take_at w bp bf 0 (pl0 3) h (by decide) rfl (fun i hi => absurd hi (by omega))).mono ?_
  rintro e w' ⟨rfl, rfl⟩
  refine ⟨rfl, ?_, (Upd.row _ _ _ _).trans (Upd.one _ _ _ _) (fun _ _ e => e)⟩
  exact (h.setRow (f := 0) (by decide) (fun _ => 0)).setRef (f := 0) (by decide) (by omega)
theorem new3 (w : World) : Calls Try.prog 11 #[.int .i64 3] w fun e w' => e = .returned (.tuple #[.pointer (some ⟨w.heap.size + 1, 0, none⟩), .nilIface]) ∧ PoolAt w' (w.heap.size + 1) w.heap.size (pl0 3) ∧ Upd (fun _ => False) w w' ∧ w'.heap.size = w.heap.size + 2 :=
  new_any w 3 (by omega) (by omega)
theorem left2 (w : World) (bp bf : Nat) (h : PoolAt w bp bf { pl0 3 with refs := setAt (pl0 3).refs 0 1, byt := setAt (pl0 3).byt 0 fun _ => 0 }) :
    Calls Try.prog 28 #[.pointer (some ⟨bp, 0, none⟩)] w fun e w' => e = .returned (.int .i64 2) ∧ w' = w := left_any w bp bf _ h
theorem size3 (w : World) (bp bf : Nat) (h : PoolAt w bp bf { pl0 3 with refs := setAt (pl0 3).refs 0 1, byt := setAt (pl0 3).byt 0 fun _ => 0 }) :
    Calls Try.prog 57 #[.pointer (some ⟨bp, 0, none⟩)] w fun e w' => e = .returned (.int .i64 3) ∧ w' = w := size_any w bp bf _ h
theorem same0 (w : World) : Calls Try.prog 12 #[.nilIface, .int .i64 0] w fun e w' => e = .returned (.bool true) ∧ w' = w := by
  have := sameE 0 w (by omega)
  rwa [errV_zero] at this
theorem takes_any (w : World) : Calls Try.prog 9 #[] w fun e w' => e = .returned (.bool true) ∧ Upd (fun _ => False) w w' := by
  go_enter Try.func9, Try.ntmps9
  go_wp2_with fail
  refine (new3 _).mono ?_
  rintro e w1 ⟨rfl, hp, hu, hz⟩
  clear hz
  go_wp2_with fail
  refine (take3 _ _ _ hp).mono ?_
  rintro e w2 ⟨rfl, hp2, hu2⟩
  go_wp2_with fail
  refine (same0 _).mono ?_
  rintro e w3 ⟨rfl, rfl⟩
  go_wp2_with fail
  refine (left2 _ _ _ hp2).mono ?_
  rintro e w3 ⟨rfl, rfl⟩
  go_wp2_with fail
  refine (size3 _ _ _ hp2).mono ?_
  rintro e w3 ⟨rfl, rfl⟩
  go_wp2_with fail
  go_ret
  exact ⟨rfl, hu.trans hu2 (fun i hi e => by omega)⟩
end Go.Proofs.Ytehdddmpjimfhaa
