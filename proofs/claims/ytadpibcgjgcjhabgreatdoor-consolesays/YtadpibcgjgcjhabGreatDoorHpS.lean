/- Scan, plainly: its cases. -/
import Derived.Test.YtadpibcgjgcjhabGreatDoorHrF
namespace Go.Proofs.YtadpibcgjgcjhabGreatDoor
open Go.RowKit
variable {h : Hs} {x : Gs}

theorem hScan_wrong {n : Int} (p : Int) (h0 : 0 < hWho h n) : hScan h n p = ((false, hWho h n), h) := by unfold hScan; rw [if_pos h0]
theorem hScan_off {k : Nat} {p : Int} (hx : h.g k = some x) (hk : k < 4) (hp : onB p = false) : hScan h k p = ((false, 1), h) := by
  obtain ⟨e1, _⟩ := hWho_some hx hk
  unfold hScan
  rw [e1, if_neg (by omega), hp]
  rfl
theorem hScan_gone {k p : Nat} (hx : h.g k = some x) (hk : k < 4) (hp : p < 16) (ht : (x.m.lf p).there = false) : hScan h k p = ((false, 0), h) := by
  obtain ⟨e1, e2⟩ := hWho_some hx hk
  unfold hScan
  rw [e1, if_neg (by omega), if_pos ((onB_iff _).2 ⟨by omega, by omega⟩), e2]
  simp only [Int.toNat_natCast, ht]
  simp
theorem hScan_no {k p : Nat} (hx : h.g k = some x) (hk : k < 4) (hp : p < 16) (ht : (x.m.lf p).there = true) (hf : hFst h (x.m.lf p).fr 0 (16 * k + p) = none) : hScan h k p = ((false, 0), h) := by
  obtain ⟨e1, e2⟩ := hWho_some hx hk
  unfold hScan
  rw [e1, if_neg (by omega), if_pos ((onB_iff _).2 ⟨by omega, by omega⟩), e2]
  simp only [Int.toNat_natCast, ht, if_true]
  rw [hf]
theorem hScan_hit {k p : Nat} (hx : h.g k = some x) (hk : k < 4) (hp : p < 16) (ht : (x.m.lf p).there = true) (j : Nat) (hf : hFst h (x.m.lf p).fr 0 (16 * k + p) = some j) : hScan h k p = if (rowL h j).fr = (x.m.lf p).fr then ((false, 0), h) else ((true, (gJoin h.s (hAt (hSealTo h (rowL h j).fr 64) k) p (rowL h j).fr).1), (hSealTo h (rowL h j).fr 64).put k (gJoin h.s (hAt (hSealTo h (rowL h j).fr 64) k) p (rowL h j).fr).2) := by
  obtain ⟨e1, e2⟩ := hWho_some hx hk
  unfold hScan
  rw [e1, if_neg (by omega), if_pos ((onB_iff _).2 ⟨by omega, by omega⟩), e2]
  simp only [Int.toNat_natCast, ht, if_true]
  rw [hf]
end Go.Proofs.YtadpibcgjgcjhabGreatDoor
