/- Package host: each, Plug, Unplug, Back, Remove. -/
import Derived.Test.YtadpibcgjgcjhabGreatDoorHpD
namespace Go.Proofs.YtadpibcgjgcjhabGreatDoor
open Go.ChangeShapes Go.WideShapes Go.ChangeAt Go.RowKit
set_option maxRecDepth 100000
attribute [local go_sem ↓] Go.wp_at_zero Go.wp_at_succ
variable {w w' : World} {bh bp bf : Nat} {G G' : Nat → G3} {h h' : Hs} {x : Gs} {s' : Pl} {x' : Gs} {b : Mp} {W : Int}

/-- How a walk over a block's pages ends. -/
def EachP (P : Nat → World → Prop) (Q : Int → World → Prop) (j : Nat) (e : Ending) (w' : World) : Prop :=
  (e = .returned .nilIface ∧ P j w') ∨ ∃ c : Int, c ≠ 0 ∧ e = .returned (.iface 37 (.int .i64 c)) ∧ Q c w'
theorem each_any (w : World) (q f : Nat) (bd : Array Value) (P : Nat → World → Prop) (Q : Int → World → Prop) (hq : q < 100)
    (eg : ∀ args w, (callFunc f args).run Tryz.prog w = .ok (.enter f args) w)
    (hs : ∀ j wr, j < 4 → P j wr → Calls Tryz.prog f (bd.push (.int .i64 ((q : Int) + (j : Int))) ++ #[]) wr (EachP P Q (j + 1)))
    (h0 : P 0 w) : Calls Tryz.prog 122 #[.int .i64 (q : Int), .func (.func f) bd #[]] w (EachP P Q 4) := by
  have HS : Hid _ := hs
  have H0 : Hid _ := h0
  clear hs h0
  go_enter Tryz.func122, Tryz.ntmps122
  go_wp2_with fail
  go_loopg [7] 4 (fun g i wr => ∃ j : Nat, j + g = 4 ∧ i = .int .i64 j ∧ Hid (P j wr))
  case atStart => exact ⟨0, by omega, rfl, H0.out⟩
  case round =>
    obtain ⟨j, hj, rfl, HP⟩ := hrel
    have HJ : Hid _ := hj
    clear hj
    by_cases hlt : j < 4
    · have hw : IntKind.i64.wrap ((q : Int) + (j : Int)) = (q : Int) + (j : Int) := by rw [IntKind.wrap_i64]; omega
      have HC : Hid _ := HS.out j wr hlt HP.out
      go_wp2_with (go_at_fn f; refine Calls.mono HC.out ?_; rintro e w1 (⟨rfl, hp1⟩ | ⟨c, hc, rfl, hq1⟩))
      · go_roundg (4 - (j + 1))
        case rel => exact ⟨j + 1, by omega, by go_num, hp1⟩
        case measure => have := HJ.out; omega
      · go_ret
        exact Or.inr ⟨c, hc, rfl, hq1⟩
    · obtain rfl : j = 4 := by have := HJ.out; omega
      go_wp2_with fail
      go_ret
      exact Or.inl ⟨rfl, HP.out⟩
end Go.Proofs.YtadpibcgjgcjhabGreatDoor
