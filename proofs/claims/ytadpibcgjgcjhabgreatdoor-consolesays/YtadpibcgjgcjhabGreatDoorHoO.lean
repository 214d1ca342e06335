/- A host, plainly: what its loops keep. -/
import Derived.Test.YtadpibcgjgcjhabGreatDoorHoN
namespace Go.Proofs.YtadpibcgjgcjhabGreatDoor
open Go.RowKit
variable {h : Hs} {W : Int} {x : Gs}

/-- A guest's pointer. -/
def gPtr (o : Option Gs) (b : Nat) : Value := match o with
  | some _ => .pointer (some ⟨b, 0, none⟩)
  | none => .pointer none
theorem pln_le (S : Nat → Int) : ∀ K, pln S K ≤ K
  | 0 => Nat.le_refl _
  | K + 1 => by have := pln_le S K; simp only [pln]; split <;> omega
theorem pln_none {n : Nat} (hx : h.g n = none) : ∀ j, j ≤ 16 → pln (rowS h) (16 * n + j) = pln (rowS h) (16 * n)
  | 0, _ => rfl
  | j + 1, hj => by
    have ih := pln_none hx j (by omega)
    have : rowS h (16 * n + j) = 0 := by
      unfold rowS
      rw [show (16 * n + j) / 16 = n by omega, hx]; rfl
    rw [show 16 * n + (j + 1) = (16 * n + j) + 1 by omega]
    simp only [pln]
    rw [this, ih]; simp
theorem HInv.unplug1 {n : Nat} (hi : HInv h W) (hx : h.g n = some x) (k : Int) : HInv (h.put n (gUnplug h.s x k).2) W :=
  hi.put hx ((hi.ginv hx).unplug k) (hi.gi n x hx).2.di (unplug_n _ _ _) (Int.le_refl _)
theorem HInv.plug1 {n : Nat} (hi : HInv h W) (hx : h.g n = some x) (k : Int) : HInv (h.put n (gPlug h.s x k).2) W :=
  hi.put hx ((hi.ginv hx).plug k) (hi.gi n x hx).2.di (plug_n _ _ _) (Int.le_refl _)
theorem HInv.clear {n : Nat} (hi : HInv h W) (hx : h.g n = some x) : ∀ j, HInv (h.put n (gClear h.s x j)) W
  | 0 => by rw [show h.put n (gClear h.s x 0) = h from Hs.put_self hx]; exact hi
  | j + 1 => by
    have := (hi.clear hx j).unplug1 (put_at _ _ _) (j : Int)
    rw [put_put] at this
    exact this
theorem HInv.plugs {n : Nat} (hi : HInv h W) (hx : h.g n = some x) (b : Nat) : ∀ j, HInv (h.put n (gPlugs h.s x b j)) W
  | 0 => by rw [show h.put n (gPlugs h.s x b 0) = h from Hs.put_self hx]; exact hi
  | j + 1 => by
    have := (hi.plugs hx b j).plug1 (put_at _ _ _) ((4 * b + j : Nat) : Int)
    rw [put_put] at this
    exact this
theorem HInv.unplugs {n : Nat} (hi : HInv h W) (hx : h.g n = some x) (b : Nat) : ∀ j, HInv (h.put n (gUnplugs h.s x b j).2) W
  | 0 => by rw [show h.put n (gUnplugs h.s x b 0).2 = h from Hs.put_self hx]; exact hi
  | j + 1 => by
    have h1 := hi.unplugs hx b j
    show HInv (h.put n (if 0 < (gUnplugs h.s x b j).1 then gUnplugs h.s x b j else gUnplug (gUnplugs h.s x b j).2.1 (gUnplugs h.s x b j).2.2 ((4 * b + j : Nat) : Int)).2) W
    split
    · exact h1
    · have := h1.unplug1 (put_at _ _ _) ((4 * b + j : Nat) : Int)
      rw [put_put] at this
      exact this
theorem hFree_at {k : Nat} (hk : k < 4) (hs : ∀ i, i < k → h.g i ≠ none) (hx : h.g k = none) : hFree h = some k := by
  unfold hFree
  have : k = 0 ∨ k = 1 ∨ k = 2 ∨ k = 3 := by omega
  rcases this with rfl | rfl | rfl | rfl
  · rw [if_pos hx]
  · rw [if_neg (hs 0 (by omega)), if_pos hx]
  · rw [if_neg (hs 0 (by omega)), if_neg (hs 1 (by omega)), if_pos hx]
  · rw [if_neg (hs 0 (by omega)), if_neg (hs 1 (by omega)), if_neg (hs 2 (by omega)), if_pos hx]
theorem hFree_no (hs : ∀ i, i < 4 → h.g i ≠ none) : hFree h = none := by
  unfold hFree
  rw [if_neg (hs 0 (by omega)), if_neg (hs 1 (by omega)), if_neg (hs 2 (by omega)), if_neg (hs 3 (by omega))]
end Go.Proofs.YtadpibcgjgcjhabGreatDoor
