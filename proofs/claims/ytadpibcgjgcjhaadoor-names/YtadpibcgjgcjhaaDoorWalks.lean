/- The walks of package api's names: what each function of the law's road answers, for the calls that the law makes. -/
import Derived.Test.YtadpibcgjgcjhaaDoorRows
import Derived.WalkKit
import Derived.ProofKit
import Derived.OpenShut
import Derived.Deep.QuietTactic
import Derived.BigQuiet
namespace Go.Proofs.YtadpibcgjgcjhaaDoor
open Go.ChangeShapes Go.WideShapes Go.ChangeAt Go.RowKit

theorem assert23 (w : World) (v : Value) : (Instr.typeAssert (.iface 23 v) 27 23 true).run Tryd.prog w = .ok (.tuple #[v, .bool true]) w := by kernel_rfl

theorem same_yes (n : Int) (w : World) (h : 0 < n) :
    Calls Tryd.prog 4 #[.iface 23 (.int .i64 n), .int .i64 n] w fun e w' => e = .returned (.bool true) ∧ w' = w := by
  have h' : (n == n) = true := by simp
  have h2 := assert23 w (.int .i64 n)
  go_enter Tryd.func4, Tryd.ntmps4
  go_wp2
  go_ret
  exact ⟨rfl, rfl⟩

theorem error9 (w : World) :
    Calls Tryd.prog 6 #[.int .i64 9] w fun e w' => e = .returned (.string ⟨#[117, 110, 100, 101, 114, 99, 114, 111, 102, 116, 58, 32, 101, 114, 114, 111, 114, 32, 57]⟩) ∧ w' = w := by
  go_enter Tryd.func6, Tryd.ntmps6
  go_wp2
  go_ret
  exact ⟨rfl, rfl⟩

theorem sameNumbers_yes (b1 b2 n : Nat) (z : Nat → Int) (w : World) (hn : n ≤ 1000)
    (h1 : ∀ k, k < n → w.cell? ⟨b1, k, none⟩ = some (.int .i64 (z k))) (h2 : ∀ k, k < n → w.cell? ⟨b2, k, none⟩ = some (.int .i64 (z k))) :
    Calls Tryd.prog 5 #[.slice (some ⟨b1, 0, none⟩) n n, .slice (some ⟨b2, 0, none⟩) n n] w fun e w' => e = .returned (.bool true) ∧ ∃ m, w' = w.drewN m := by
  go_enter Tryd.func5, Tryd.ntmps5
  go_wp2
  go_loopw [5] (fun i w' => ∃ k : Nat, k ≤ n ∧ i = .int .i64 k ∧ ∃ m, w' = w.drewN m) (fun i _ => n - (intOf i).toNat)
  case atStart => exact ⟨0, Nat.zero_le _, rfl, 0, rfl⟩
  case round =>
    obtain ⟨k, hk, rfl, m, rfl⟩ := hrel
    by_cases hlt : k < n
    · have c1 := h1 k hlt
      have c2 := h2 k hlt
      have hb : (z k != z k) = false := by simp
      go_wp2
      go_quiet (fail)
      go_wp2
      go_roundw
      case rel => exact ⟨k + 1, by omega, by go_num, m + nq, rfl⟩
      case measure => simp [intOf]; omega
    · go_wp2
      go_ret
      exact ⟨rfl, m, rfl⟩

/-- The world behind the law's three lists. -/
theorem three (w W : World) (h : W = ((w.alloc (.cells #[.int .i64 16, .int .i64 16, .int .i64 4, .int .i64 64, .int .i64 4, .int .i64 4, .int .i64 255, .int .i64 120, .int .i64 200, .int .i64 128, .int .i64 64, .int .i64 15, .int .i64 0, .int .i64 1, .int .i64 2, .int .i64 0, .int .i64 1, .int .i64 2] 3)).alloc (.cells #[.int .i64 16, .int .i64 16, .int .i64 4, .int .i64 64, .int .i64 4, .int .i64 4, .int .i64 255, .int .i64 120, .int .i64 200, .int .i64 128, .int .i64 64, .int .i64 15, .int .i64 0, .int .i64 1, .int .i64 2, .int .i64 0, .int .i64 1, .int .i64 2] 3)).alloc (.cells #[.iface 23 (.int .i64 1), .iface 23 (.int .i64 2), .iface 23 (.int .i64 3), .iface 23 (.int .i64 4), .iface 23 (.int .i64 5), .iface 23 (.int .i64 6), .iface 23 (.int .i64 7), .iface 23 (.int .i64 8), .iface 23 (.int .i64 9)] 27)) :
    (∀ k, k < 18 → W.cell? ⟨w.heap.size, k, none⟩ = some (.int .i64 (([16, 16, 4, 64, 4, 4, 255, 120, 200, 128, 64, 15, 0, 1, 2, 0, 1, 2] : List Int).getD k 0))) ∧
    (∀ k, k < 18 → W.cell? ⟨w.heap.size + 1, k, none⟩ = some (.int .i64 (([16, 16, 4, 64, 4, 4, 255, 120, 200, 128, 64, 15, 0, 1, 2, 0, 1, 2] : List Int).getD k 0))) ∧
    (∀ k, k < 9 → W.cell? ⟨w.heap.size + 1 + 1, k, none⟩ = some (.iface 23 (.int .i64 ((k : Int) + 1)))) ∧ Grown w W := by
  subst h
  refine ⟨?_, ?_, ?_, (((Grown.refl _).alloc _ _).alloc _ _).alloc _ _⟩
  · intro k hk
    rcases k with _ | _ | _ | _ | _ | _ | _ | _ | _ | _ | _ | _ | _ | _ | _ | _ | _ | _ | k
    all_goals first | (simp [go_sem]; done) | omega
  · intro k hk
    rcases k with _ | _ | _ | _ | _ | _ | _ | _ | _ | _ | _ | _ | _ | _ | _ | _ | _ | _ | k
    all_goals first | (simp [go_sem]; done) | omega
  · intro k hk
    rcases k with _ | _ | _ | _ | _ | _ | _ | _ | _ | k
    all_goals first | (simp [go_sem]; done) | omega

theorem grown_drewN {w W : World} (h : Grown w W) (n : Nat) : Grown w (W.drewN n) := h

theorem names_walk (w : World) :
    Calls Tryd.prog 3 #[] w fun e w' => e = .returned (.bool true) ∧ Grown w w' := by
  go_enter Tryd.func3, Tryd.ntmps3
  go_wp2
  obtain ⟨W, hW⟩ : ∃ W, W = ((w.alloc (.cells #[.int .i64 16, .int .i64 16, .int .i64 4, .int .i64 64, .int .i64 4, .int .i64 4, .int .i64 255, .int .i64 120, .int .i64 200, .int .i64 128, .int .i64 64, .int .i64 15, .int .i64 0, .int .i64 1, .int .i64 2, .int .i64 0, .int .i64 1, .int .i64 2] 3)).alloc (.cells #[.int .i64 16, .int .i64 16, .int .i64 4, .int .i64 64, .int .i64 4, .int .i64 4, .int .i64 255, .int .i64 120, .int .i64 200, .int .i64 128, .int .i64 64, .int .i64 15, .int .i64 0, .int .i64 1, .int .i64 2, .int .i64 0, .int .i64 1, .int .i64 2] 3)).alloc (.cells #[.iface 23 (.int .i64 1), .iface 23 (.int .i64 2), .iface 23 (.int .i64 3), .iface 23 (.int .i64 4), .iface 23 (.int .i64 5), .iface 23 (.int .i64 6), .iface 23 (.int .i64 7), .iface 23 (.int .i64 8), .iface 23 (.int .i64 9)] 27) := ⟨_, rfl⟩
  rw [← hW]
  obtain ⟨h1, h2, h3, hg⟩ := three w W hW
  clear hW
  go_loop [4] (fun i => ∃ k : Nat, k ≤ 9 ∧ i = .int .i64 k) (fun i => 9 - (intOf i).toNat)
  case atStart => exact ⟨0, Nat.zero_le _, rfl⟩
  case round =>
    obtain ⟨k, hk, rfl⟩ := hrel
    by_cases hlt : k < 9
    · have c1 := h3 k hlt
      clear h1 h2 h3
      go_wp2_with (go_at_call 4; refine (same_yes _ _ (by omega)).mono ?_; rintro e w' ⟨rfl, rfl⟩)
      go_round
      case rel => exact ⟨k + 1, by omega, by go_num⟩
      case measure => simp [intOf]; omega
    · have H1 : Hid _ := h1
      have H2 : Hid _ := h2
      clear h1 h2 h3
      go_wp2_with fail
      refine (sameNumbers_yes _ _ 18 _ _ (by omega) H1.out H2.out).mono ?_
      rintro e w' ⟨rfl, m, rfl⟩
      go_wp2_with fail
      refine (error9 _).mono ?_
      rintro e w' ⟨rfl, rfl⟩
      go_wp2
      go_ret
      exact ⟨rfl, grown_drewN hg m⟩
end Go.Proofs.YtadpibcgjgcjhaaDoor
