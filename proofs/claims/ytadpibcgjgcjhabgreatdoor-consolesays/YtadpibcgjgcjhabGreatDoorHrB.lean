/- The document's host: Promised, Guests. -/
import Derived.Test.YtadpibcgjgcjhabGreatDoorHrA
namespace Go.Proofs.YtadpibcgjgcjhabGreatDoor
open Go.ChangeShapes Go.WideShapes Go.ChangeAt Go.RowKit
set_option maxRecDepth 100000
attribute [local go_sem ↓] Go.wp_at_zero Go.wp_at_succ
variable {w w' : World} {bh bm base : Nat} {bx : Nat → Nat} {v : Nat → Value} {h : Hs} {n : Nat} {x : Gs} {s' : Pl} {x' : Gs}

theorem rPromised_any (r : RHo w bh bm base bx v h) : Calls Tryz.prog 23 #[.pointer (some ⟨bh, 0, none⟩)] w fun e w' => e = .returned (.int .i64 (pln (rowS h) 64 : Nat)) ∧ ∃ m, w' = w.drewN m := by
  have HR : Hid (RHo w bh bm base bx v h) := r
  clear r
  go_enter Tryz.func23, Tryz.ntmps23
  go_wp2_with fail
  go_loopg [3, 4] 4 (fun g c i wr => ∃ k m : Nat, k + g = 4 ∧ i = .int .i64 k ∧ c = .int .i64 (pln (rowS h) (16 * k) : Nat) ∧ wr = w.drewN m)
  case atStart => exact ⟨0, 0, by omega, rfl, rfl, rfl⟩
  case round =>
    obtain ⟨k, m, hk, rfl, rfl, rfl⟩ := hrel
    have HK : Hid _ := hk
    clear hk
    by_cases hlt : k < 4
    · have k0 : (0 : Int) ≤ (k : Int) := by omega
      have k1 : (k : Int) < 4 := by omega
      have HRm : Hid (RHo (w.drewN m) bh bm base bx v h) := HR.out.same ((Upd.refl (fun _ => False) w).drewN m)
      cases hx : h.g k with
      | none =>
        have c := HRm.out.cNone hlt hx
        have HP : Hid _ := pln_none hx 16 (Nat.le_refl _)
        clear hx HRm
        go_wp2_with fail
        go_loopg [3, 5] 0 (fun g c i wr => i = .int .i64 0 ∧ c = .int .i64 (pln (rowS h) (16 * k) : Nat) ∧ wr = w.drewN m)
        case atStart => exact ⟨rfl, rfl, rfl⟩
        case round =>
          obtain ⟨rfl, rfl, rfl⟩ := hrel
          go_wp2_with fail
          go_roundg (4 - (k + 1))
          case rel => exact ⟨k + 1, m, by omega, by go_num, by rw [show 16 * (k + 1) = 16 * k + 16 by omega, HP.out], rfl⟩
          case measure => have := HK.out; omega
      | some x =>
        have c := HRm.out.cSome hlt hx
        have HG : Hid _ := (HRm.out.gu k x hx).mp
        have HX : Hid (h.g k = some x) := hx
        clear hx HRm
        go_wp2_with fail
        go_loopg [3, 5] 16 (fun g c i wr => ∃ j : Nat, j + g = 16 ∧ i = .int .i64 j ∧ c = .int .i64 (pln (rowS h) (16 * k + j) : Nat) ∧ wr = w.drewN m)
        case atStart => exact ⟨0, by omega, rfl, rfl, rfl⟩
        case round =>
          obtain ⟨j, hj, rfl, rfl, rfl⟩ := hrel
          have HJ : Hid _ := hj
          clear hj
          by_cases hlj : j < 16
          · have j0 : (0 : Int) ≤ (j : Int) := by omega
            have j1 : (j : Int) < 16 := by omega
            have cs := HG.out.st j hlj
            have HS : Hid _ := rowS_at HX.out hlj
            have hle := pln_le (rowS h) (16 * k + j)
            have HST : Hid (pln (rowS h) (16 * k + (j + 1)) = pln (rowS h) (16 * k + j) + if rowS h (16 * k + j) = 1 then 1 else 0) := rfl
            by_cases h1 : x.m.st j = 1
            · have d : (x.m.st j == 1) = true := by simp [h1]
              go_wp2_with fail
              go_roundg (16 - (j + 1))
              case rel => exact ⟨j + 1, by omega, by go_num, by rw [HST.out, HS.out, if_pos h1]; go_num, rfl⟩
              case measure => have := HJ.out; omega
            · have d : (x.m.st j == 1) = false := by simp [h1]
              go_wp2_with fail
              go_roundg (16 - (j + 1))
              case rel => exact ⟨j + 1, by omega, by go_num, by rw [HST.out, HS.out, if_neg h1]; rfl, rfl⟩
              case measure => have := HJ.out; omega
          · obtain rfl : j = 16 := by have := HJ.out; omega
            go_wp2_with fail
            go_roundg (4 - (k + 1))
            case rel => exact ⟨k + 1, m, by omega, by go_num, rfl, rfl⟩
            case measure => have := HK.out; omega
    · obtain rfl : k = 4 := by have := HK.out; omega
      go_wp2_with fail
      go_ret
      exact ⟨rfl, m, rfl⟩
end Go.Proofs.YtadpibcgjgcjhabGreatDoor
