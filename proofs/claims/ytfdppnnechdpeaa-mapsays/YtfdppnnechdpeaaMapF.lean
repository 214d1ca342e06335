/- undercroftlaw.MapSays: long lists, numbers out of range, and all together. -/
import Derived.Test.YtfdppnnechdpeaaMapC
namespace Go.Proofs.Ytfdppnnechdpeaa.MSays
open Go.ChangeShapes Go.WideShapes Go.ChangeAt Go.RowKit
set_option maxRecDepth 100000

theorem long (W : World) (n : Int) (a : Option Addr) (len cap : Nat) (hl : 80 < len) :
    Calls Try.prog 5 #[.int .i64 n, .slice a len cap] W fun e w' => e = .returned (.bool true) ∧ Upd (fun _ => False) W w' := by
  go_enter Try.func5, Try.ntmps5
  go_wp2_with fail
  refine (maps_any _).mono ?_
  rintro e w0 ⟨rfl, hu0⟩
  go_wp2_with fail
  refine (light_no _ _ _ _ hl).mono ?_
  rintro e w1 ⟨rfl, rfl⟩
  go_wp2_with fail
  go_ret
  exact ⟨rfl, hu0⟩
theorem out (W : World) (n : Int) (a : Option Addr) (len cap : Nat) (hl : len ≤ 80) (hn : n < 1 ∨ 64 < n) :
    Calls Try.prog 5 #[.int .i64 n, .slice a len cap] W fun e w' => e = .returned (.bool true) ∧ Upd (fun _ => False) W w' := by
  go_enter Try.func5, Try.ntmps5
  go_wp2_with fail
  refine (maps_any _).mono ?_
  rintro e w0 ⟨rfl, hu0⟩
  go_wp2_with fail
  refine (light_yes _ _ _ _ hl).mono ?_
  rintro e w1 ⟨rfl, rfl⟩
  go_wp2_with fail
  refine (lvNil _).mono ?_
  rintro e w2 ⟨rfl, hu2⟩
  go_wp2_with fail
  refine (same2 _).mono ?_
  rintro e w2 ⟨rfl, rfl⟩
  have hU2 := hu0.trans hu2 (fun _ _ f => f)
  go_wp2_with fail
  refine (new_no _ _ hn).mono ?_
  rintro e w3 ⟨rfl, rfl⟩
  go_wp2_with fail
  go_ret
  exact ⟨rfl, hU2⟩
theorem walk (n : Int) (a : Option Addr) (len cap : Nat) (acts : Nat → Ac) (W : World) (h : ActsAt W a len acts) :
    Calls Try.prog 5 #[.int .i64 n, .slice a len cap] W fun e w' => e = .returned (.bool true) ∧ Below W.heap.size W w' := by
  by_cases hl : len ≤ 80
  · by_cases hn : n < 1 ∨ 64 < n
    · exact (out W n a len cap hl hn).mono fun _ _ ⟨he, hu⟩ => ⟨he, hu.below⟩
    · obtain ⟨m, rfl⟩ := Int.eq_ofNat_of_zero_le (show 0 ≤ n by omega)
      exact (map_walk W m a len cap acts (by omega) (by omega) hl h).mono fun _ _ ⟨he, hu⟩ => ⟨he, hu.below⟩
  · exact (long W n a len cap (by omega)).mono fun _ _ ⟨he, hu⟩ => ⟨he, hu.below⟩
end Go.Proofs.Ytfdppnnechdpeaa.MSays
