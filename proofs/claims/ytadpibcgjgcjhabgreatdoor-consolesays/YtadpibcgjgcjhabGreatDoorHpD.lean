/- Package host: Promised, hasRoom, block. -/
import Derived.Test.YtadpibcgjgcjhabGreatDoorHpC
namespace Go.Proofs.YtadpibcgjgcjhabGreatDoor
open Go.ChangeShapes Go.WideShapes Go.ChangeAt Go.RowKit
set_option maxRecDepth 100000
attribute [local go_sem ↓] Go.wp_at_zero Go.wp_at_succ
variable {w w' : World} {bh bp bf : Nat} {G G' : Nat → G3} {h h' : Hs} {x : Gs} {s' : Pl} {x' : Gs} {b : Mp} {W : Int}

theorem hState_row (h : Hs) {k : Nat} (hk : k < 64) : (hState h ((k / 16 : Nat) : Int) ((k % 16 : Nat) : Int)).1 = rowS h k := by
  have hn : k / 16 < 4 := by omega
  unfold hState rowS
  cases hx : h.g (k / 16) with
  | none =>
    have hw : hWho h ((k / 16 : Nat) : Int) = 2 := by unfold hWho; rw [if_neg (by omega), Int.toNat_natCast, hx]
    rw [hw, if_pos (by omega)]; rfl
  | some x =>
    obtain ⟨h1, h2⟩ := hWho_some hx hn
    rw [h1, if_neg (by omega), h2]
    unfold stR
    rw [if_pos ((onB_iff _).2 (by omega)), Int.toNat_natCast]; rfl
theorem hLeaf_row (h : Hs) {k : Nat} (hk : k < 64) : (hLeaf h ((k / 16 : Nat) : Int) ((k % 16 : Nat) : Int)).1 = rowL h k := by
  have hn : k / 16 < 4 := by omega
  unfold hLeaf rowL
  cases hx : h.g (k / 16) with
  | none =>
    have hw : hWho h ((k / 16 : Nat) : Int) = 2 := by unfold hWho; rw [if_neg (by omega), Int.toNat_natCast, hx]
    rw [hw, if_pos (by omega)]; rfl
  | some x =>
    obtain ⟨h1, h2⟩ := hWho_some hx hn
    rw [h1, if_neg (by omega), h2]
    unfold lfR
    rw [if_pos ((onB_iff _).2 (by omega)), Int.toNat_natCast]; rfl
theorem hPromised_any (m : HM w bh bp bf G h) (hi : HInv h W) : Calls Tryz.prog 58 #[.pointer (some ⟨bh, 0, none⟩)] w (MRead w (.int .i64 (pln (rowS h) 64 : Nat))) := by
  have HMM : Hid (HM w bh bp bf G h) := m
  have HI : Hid (HInv h W) := hi
  clear m hi
  go_enter Tryz.func58, Tryz.ntmps58
  go_wp2_with fail
  go_loopg [3, 7] 64 (fun g c i wr => ∃ k : Nat, k + g = 64 ∧ i = .int .i64 k ∧ c = .int .i64 (pln (rowS h) k : Nat) ∧ Hid (Upd (fun _ => False) w wr))
  case atStart => exact ⟨0, by omega, rfl, rfl, Upd.refl _ _⟩
  case round =>
    obtain ⟨k, hk, rfl, rfl, HU⟩ := hrel
    have HK : Hid _ := hk
    clear hk
    by_cases hlt : k < 64
    · have HA : Hid _ := fun wr => at_any wr k hlt
      have HST : Hid (pln (rowS h) (k + 1) = pln (rowS h) k + if rowS h k = 1 then 1 else 0) := rfl
      have hle := pln_le (rowS h) k
      go_wp2_with fail
      refine Calls.mono (HA.out _) ?_
      rintro e w1 ⟨rfl, hu1⟩
      have HU1 : Hid (Upd (fun _ => False) w w1) := HU.out.trans hu1 (fun _ _ f => f)
      have hs := hState_any (HMM.out.same HU1.out) HI.out ((k / 16 : Nat) : Int) ((k % 16 : Nat) : Int)
      have HRW : Hid _ := hState_row h hlt
      revert hs HRW
      generalize hState h ((k / 16 : Nat) : Int) ((k % 16 : Nat) : Int) = r
      obtain ⟨r1, r2⟩ := r
      generalize errV (r1, r2).2 = ev
      intro hs HRW
      have HS : Hid _ := hs
      clear hs hu1 HA
      go_wp2_with fail
      refine Calls.mono HS.out ?_
      rintro e w2 ⟨rfl, hu2⟩
      have HU2 : Hid (Upd (fun _ => False) w w2) := HU1.out.trans hu2 (fun _ _ f => f)
      clear hu2 HS
      by_cases h1 : r1 = 1
      · have d : (r1 == 1) = true := by simp [h1]
        go_wp2_with fail
        go_roundg (64 - (k + 1))
        case rel => exact ⟨k + 1, by omega, by go_num, by rw [HST.out, ← HRW.out, if_pos h1]; go_num, HU2.out⟩
        case measure => have := HK.out; omega
      · have d : (r1 == 1) = false := by simp [h1]
        go_wp2_with fail
        go_roundg (64 - (k + 1))
        case rel => exact ⟨k + 1, by omega, by go_num, by rw [HST.out, ← HRW.out, if_neg h1]; rfl, HU2.out⟩
        case measure => have := HK.out; omega
    · obtain rfl : k = 64 := by have := HK.out; omega
      go_wp2_with fail
      go_ret
      exact ⟨rfl, HU.out⟩
end Go.Proofs.YtadpibcgjgcjhabGreatDoor
