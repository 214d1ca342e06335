/- The document's host: Scan, ScanAll. -/
import Derived.Test.YtadpibcgjgcjhabGreatDoorHrH
namespace Go.Proofs.YtadpibcgjgcjhabGreatDoor
open Go.ChangeShapes Go.WideShapes Go.ChangeAt Go.RowKit
set_option maxRecDepth 100000
attribute [local go_sem ↓] Go.wp_at_zero Go.wp_at_succ
variable {w w' : World} {bh bm base : Nat} {bx : Nat → Nat} {v : Nat → Value} {h h' : Hs} {x : Gs} {s' : Pl} {x' : Gs} {W : Int} {t : Nat → Nat → Int} {F : Nat → Option Fl}

theorem rScan_any (r : RHo w bh bm base bx v h) (hi : HInv h W) (hW : W ≤ 1000000) (n p : Int) : Calls Tryz.prog 30 #[.pointer (some ⟨bh, 0, none⟩), .int .i64 n, .int .i64 p] w (SPost w bh bm base bx h (hScan h n p)) := by
  by_cases h0 : 0 < hWho h n
  · rw [hScan_wrong p h0]
    exact sScan_no r n p h0
  · obtain ⟨k, x, rfl, hk, hx, hat⟩ := hWho_zero (show hWho h n = 0 by have := hWho_le (h := h) n; omega)
    cases hp : onB p with
    | false =>
      rw [hScan_off hx hk hp]
      exact sScan_off r hk hx p hp
    | true =>
      obtain ⟨p0, p1⟩ := (onB_iff p).1 hp
      obtain ⟨q, rfl⟩ := Int.eq_ofNat_of_zero_le p0
      have hq : q < 16 := by omega
      cases ht : (x.m.lf q).there with
      | false =>
        rw [hScan_gone hx hk hq ht]
        exact sScan_gone r hk hx hq ht
      | true => exact sScan_there r hi hW hk hx hq ht
theorem rft_of {k : Nat} (hn : ∀ i, h'.g i = none ↔ h.g i = none) (hk : RFt bh bm bx h' k) : RFt bh bm bx h k := by
  rcases hk with e | e | ⟨i, y, hy, e⟩
  · exact Or.inl e
  · exact Or.inr (Or.inl e)
  · cases hx : h.g i with
    | none => have := (hn i).2 hx; rw [hy] at this; cases this
    | some x => exact Or.inr (Or.inr ⟨i, x, hx, e⟩)
set_option maxHeartbeats 1000000 in
theorem rScanAll_any (r : RHo w bh bm base bx v h) (hf : HF h t F W) (hW : W ≤ 1000000) : Calls Tryz.prog 19 #[.pointer (some ⟨bh, 0, none⟩)] w (HPost w bh bm base bx h (hScanTo h 64)) := by
  have HR : Hid (RHo w bh bm base bx v h) := r
  have HHF : Hid (HF h t F W) := hf
  clear r hf
  go_enter Tryz.func19, Tryz.ntmps19
  go_wp2_with fail
  go_loopg [3, 4] 64 (fun g c i wr => ∃ (k : Nat) (v' : Nat → Value), k + g = 64 ∧ i = .int .i64 k ∧ c = .int .i64 (hScanTo h k).1 ∧ Hid (RHo wr bh bm base bx v' (hScanTo h k).2) ∧ Hid (Upd (RFt bh bm bx h) w wr))
  case atStart => exact ⟨0, v, by omega, rfl, rfl, HR.out, Upd.refl _ _⟩
  case round =>
    obtain ⟨k, v', hk, rfl, rfl, HRk, HU⟩ := hrel
    have HK : Hid _ := hk
    clear hk
    by_cases hlt : k < 64
    · obtain ⟨hs1, _, _, hs4, _, hs6, hs7, _⟩ := HHF.out.scans k (by omega)
      have HS4 : Hid _ := hs4
      have HST : Hid (hScanTo h (k + 1) = ((hScanTo h k).1 + (if (hScan (hScanTo h k).2 ((k / 16 : Nat) : Int) ((k % 16 : Nat) : Int)).1.1 = true then 1 else 0), (hScan (hScanTo h k).2 ((k / 16 : Nat) : Int) ((k % 16 : Nat) : Int)).2)) := rfl
      have hs := rScan_any HRk.out hs1.hr.inv hW ((k / 16 : Nat) : Int) ((k % 16 : Nat) : Int)
      unfold SPost at hs
      revert hs HST
      generalize hScan (hScanTo h k).2 ((k / 16 : Nat) : Int) ((k % 16 : Nat) : Int) = r
      obtain ⟨⟨r1, r2⟩, r3⟩ := r
      simp only
      intro HST hs
      have HS : Hid _ := hs
      have wd : IntKind.i64.wrap ((k : Int) / 16) = (k : Int) / 16 := by rw [IntKind.wrap_i64]; omega
      clear hs hs1 hs4 HRk
      generalize (hScanTo h k).1 = cnt at *
      go_wp2_with fail
      refine Calls.mono HS.out ?_
      rintro e w2 ⟨rfl, ⟨v2, hr2⟩, hu2⟩
      have HR2 : Hid (RHo w2 bh bm base bx v2 r3) := hr2
      have HU2 : Hid (Upd (RFt bh bm bx h) w w2) := HU.out.trans hu2 (fun i _ e => rft_of HS4.out e)
      clear hr2 hu2 HS
      cases r1 with
      | true =>
        go_wp2_with fail
        go_roundg (64 - (k + 1))
        case rel => exact ⟨k + 1, v2, by omega, by go_num, by rw [HST.out]; go_num, by rw [HST.out]; exact HR2.out, HU2.out⟩
        case measure => have := HK.out; omega
      | false =>
        go_wp2_with fail
        go_roundg (64 - (k + 1))
        case rel => exact ⟨k + 1, v2, by omega, by go_num, by rw [HST.out]; simp, by rw [HST.out]; exact HR2.out, HU2.out⟩
        case measure => have := HK.out; omega
    · obtain rfl : k = 64 := by have := HK.out; omega
      go_wp2_with fail
      go_ret
      exact ⟨rfl, ⟨v', HRk.out⟩, HU.out⟩
end Go.Proofs.YtadpibcgjgcjhabGreatDoor
