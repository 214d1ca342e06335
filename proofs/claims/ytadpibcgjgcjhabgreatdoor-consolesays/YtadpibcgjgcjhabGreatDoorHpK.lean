/- Package host: Scan, ScanAll, Frame. -/
import Derived.Test.YtadpibcgjgcjhabGreatDoorHpJ
namespace Go.Proofs.YtadpibcgjgcjhabGreatDoor
open Go.ChangeShapes Go.WideShapes Go.ChangeAt Go.RowKit
set_option maxRecDepth 100000
attribute [local go_sem ↓] Go.wp_at_zero Go.wp_at_succ
variable {w w' : World} {bh bp bf : Nat} {G G' : Nat → G3} {h h' : Hs} {x : Gs} {s' : Pl} {x' : Gs} {b : Mp} {W : Int} {t : Nat → Nat → Int} {F : Nat → Option Fl}

theorem hScan_m (m : HM w bh bp bf G h) (hf : HF h t F W) (n p : Int) : Calls Tryz.prog 59 #[.pointer (some ⟨bh, 0, none⟩), .int .i64 n, .int .i64 p] w (MScan w bh bp bf G h (hScan h n p)) := by
  by_cases h0 : 0 < hWho h n
  · rw [hScan_wrong p h0]
    exact hScan_bad m hf.hr.inv n p _ (by omega) (by unfold hLeaf; rw [if_pos h0])
  · obtain ⟨k, x, rfl, hk, hx, hat⟩ := hWho_zero (show hWho h n = 0 by have := hWho_le (h := h) n; omega)
    cases hp : onB p with
    | false =>
      rw [hScan_off hx hk hp]
      refine hScan_bad m hf.hr.inv _ p _ (by omega) ?_
      unfold hLeaf lfR
      rw [if_neg h0, hat, hp]; rfl
    | true =>
      obtain ⟨p0, p1⟩ := (onB_iff p).1 hp
      obtain ⟨q, rfl⟩ := Int.eq_ofNat_of_zero_le p0
      have hq : q < 16 := by omega
      cases ht : (x.m.lf q).there with
      | false =>
        rw [hScan_gone hx hk hq ht]
        exact hScan_out m hf.hr.inv hk hq hx ht
      | true => exact hScan_in m hf hk hq hx ht
theorem own_of {k : Nat} (hn : ∀ i, h'.g i = none ↔ h.g i = none) (hk : Own bh bp bf G h' k) : Own bh bp bf G h k := by
  rcases hk with e | e | e | ⟨i, y, hy, e⟩
  · exact Or.inl e
  · exact Or.inr (Or.inl e)
  · exact Or.inr (Or.inr (Or.inl e))
  · cases hx : h.g i with
    | none => have := (hn i).2 hx; rw [hy] at this; cases this
    | some x => exact Or.inr (Or.inr (Or.inr ⟨i, x, hx, e⟩))
set_option maxHeartbeats 1000000 in
theorem hScanAll_m (m : HM w bh bp bf G h) (hf : HF h t F W) : Calls Tryz.prog 56 #[.pointer (some ⟨bh, 0, none⟩)] w fun e w' => e = .returned (.int .i64 (hScanTo h 64).1) ∧ HM w' bh bp bf G (hScanTo h 64).2 ∧ Upd (Own bh bp bf G h) w w' := by
  have HMM : Hid (HM w bh bp bf G h) := m
  have HHF : Hid (HF h t F W) := hf
  clear m hf
  go_enter Tryz.func56, Tryz.ntmps56
  go_wp2_with fail
  go_loopg [3, 7] 64 (fun g c i wr => ∃ k : Nat, k + g = 64 ∧ i = .int .i64 k ∧ c = .int .i64 (hScanTo h k).1 ∧ Hid (HM wr bh bp bf G (hScanTo h k).2) ∧ Hid (Upd (Own bh bp bf G h) w wr))
  case atStart => exact ⟨0, by omega, rfl, rfl, HMM.out, Upd.refl _ _⟩
  case round =>
    obtain ⟨k, hk, rfl, rfl, HMk, HU⟩ := hrel
    have HK : Hid _ := hk
    clear hk
    by_cases hlt : k < 64
    · have HA : Hid _ := fun wr => at_any wr k hlt
      obtain ⟨hs1, _, _, hs4, _, hs6, hs7, _⟩ := HHF.out.scans k (by omega)
      have HS1 : Hid _ := hs1
      have HS4 : Hid _ := hs4
      have HST : Hid (hScanTo h (k + 1) = ((hScanTo h k).1 + (if (hScan (hScanTo h k).2 ((k / 16 : Nat) : Int) ((k % 16 : Nat) : Int)).1.1 = true then 1 else 0), (hScan (hScanTo h k).2 ((k / 16 : Nat) : Int) ((k % 16 : Nat) : Int)).2)) := rfl
      clear hs1 hs4
      go_wp2_with fail
      refine Calls.mono (HA.out _) ?_
      rintro e w1 ⟨rfl, hu1⟩
      have hs := hScan_m (HMk.out.same hu1) HS1.out ((k / 16 : Nat) : Int) ((k % 16 : Nat) : Int)
      have HU1 : Hid (Upd (Own bh bp bf G h) w w1) := HU.out.trans (MRead.no _ hu1) (fun _ _ f => f)
      unfold MScan at hs
      revert hs HST
      generalize hScan (hScanTo h k).2 ((k / 16 : Nat) : Int) ((k % 16 : Nat) : Int) = r
      obtain ⟨⟨r1, r2⟩, r3⟩ := r
      simp only
      generalize errV r2 = ev
      intro HST hs
      have HS : Hid _ := hs
      clear hs hu1 HA HMk HU
      generalize (hScanTo h k).1 = cnt at *
      go_wp2_with fail
      refine Calls.mono HS.out ?_
      rintro e w2 ⟨rfl, hm2, hu2⟩
      have HM2 : Hid (HM w2 bh bp bf G r3) := hm2
      have HU2 : Hid (Upd (Own bh bp bf G h) w w2) := HU1.out.trans hu2 (fun i _ e => own_of HS4.out e)
      clear hm2 hu2 HS
      cases r1 with
      | true =>
        go_wp2_with fail
        go_roundg (64 - (k + 1))
        case rel => exact ⟨k + 1, by omega, by go_num, by rw [HST.out]; go_num, by rw [HST.out]; exact HM2.out, HU2.out⟩
        case measure => have := HK.out; omega
      | false =>
        go_wp2_with fail
        go_roundg (64 - (k + 1))
        case rel => exact ⟨k + 1, by omega, by go_num, by rw [HST.out]; simp, by rw [HST.out]; exact HM2.out, HU2.out⟩
        case measure => have := HK.out; omega
    · obtain rfl : k = 64 := by have := HK.out; omega
      go_wp2_with fail
      go_ret
      exact ⟨rfl, HMk.out, HU.out⟩
end Go.Proofs.YtadpibcgjgcjhabGreatDoor
