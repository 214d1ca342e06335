/- The law's own helpers: same. -/
import Derived.Test.YtadpibcgjgcjhabGreatDoorCopy
import Derived.Deep.DeepCutAuto
import Derived.Deep.LoopGhost
import Derived.Deep.CutBlock
namespace Go.Proofs.YtadpibcgjgcjhabGreatDoor
open Go.ChangeShapes Go.WideShapes Go.ChangeAt Go.RowKit
set_option maxRecDepth 100000

theorem assert61 (w : World) (v : Value) : (Instr.typeAssert (.iface 37 v) 25 37 true).run Tryz.prog w = .ok (.tuple #[v, .bool true]) w := by kernel_rfl
theorem sameE (k : Int) (w : World) (hk : 0 ≤ k) :
    Calls Tryz.prog 6 #[errV k, .int .i64 k] w fun e w' => e = .returned (.bool true) ∧ w' = w := by
  by_cases h0 : k = 0
  · subst h0
    rw [errV_zero]
    go_enter Tryz.func6, Tryz.ntmps6
    go_wp2
    go_ret
    exact ⟨rfl, rfl⟩
  · have e : errV k = .iface 37 (.int .i64 k) := by simp [errV, h0]
    rw [e]
    have h1 : 0 < k := by omega
    have h' : (k == k) = true := by simp
    have h2 := assert61 w (.int .i64 k)
    clear h0 e hk
    go_enter Tryz.func6, Tryz.ntmps6
    go_wp2
    go_ret
    exact ⟨rfl, rfl⟩
theorem PoolAt.drewN {w : World} {bp bf : Nat} {s : Pl} (h : PoolAt w bp bf s) (n : Nat) : PoolAt (w.drewN n) bp bf s := ⟨h.hd, h.refs, h.byt, h.fz, h.ne, h.le, h.nn⟩
theorem RefAt.drewN {w : World} {bm : Nat} {s : Pl} (h : RefAt w bm s) (n : Nat) : RefAt (w.drewN n) bm s := ⟨h.num, h.byt, h.refs, h.fz, h.le, h.nn⟩
theorem same0 (w : World) : Calls Tryz.prog 6 #[.nilIface, .int .i64 0] w fun e w' => e = .returned (.bool true) ∧ w' = w := by
  have := sameE 0 w (by omega)
  rwa [errV_zero] at this
end Go.Proofs.YtadpibcgjgcjhabGreatDoor
