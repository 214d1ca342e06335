/- The law's hello. -/
import Derived.Test.YtadpibcgjgcjhabGreatDoorCnMe
import Derived.Test.YtadpibcgjgcjhabGreatDoorAs
import Derived.Test.YtadpibcgjgcjhabGreatDoorCnJ
namespace Go.Proofs.YtadpibcgjgcjhabGreatDoor
open Go.ChangeShapes Go.WideShapes Go.ChangeAt Go.RowKit
set_option maxRecDepth 100000
attribute [local go_sem ↓] Go.wp_at_zero Go.wp_at_succ
theorem txAt_new (w : World) (l : List ByteArray) (t : Nat) : TxAt (w.alloc (.cells (txC l).toArray t)) (some ⟨w.heap.size, 0, none⟩) l := fun i hi => by
  refine ⟨_, _, rfl, by simp, ?_⟩
  rw [Nat.zero_add, World.cell?_alloc_new]
  simp [txC, List.getElem?_map, List.getElem?_eq_getElem hi, List.getD_eq_getElem?_getD]
def heA : List ByteArray := [⟨#[97, 100, 100]⟩, ⟨#[112, 108, 117, 103, 32, 48, 32, 48]⟩, ⟨#[115, 116, 111, 114, 101, 32, 48, 32, 53, 32, 57]⟩, ⟨#[108, 111, 97, 100, 32, 48, 32, 53]⟩, ⟨#[112, 97, 103, 101, 32, 48, 32, 48]⟩, ⟨#[102, 108, 121]⟩]
def heB : List ByteArray := [⟨#[48]⟩, ⟨#[111, 107]⟩, ⟨#[111, 107]⟩, ⟨#[57]⟩, ⟨#[49, 32, 111, 119, 110, 32, 49]⟩, ⟨#[101, 114, 114, 111, 114, 32, 57]⟩]
theorem he_run : txs (runL (hs0 8) (lns heA)).1 = heB := by
  have : lns heA = [[97, 100, 100], [112, 108, 117, 103, 32, 48, 32, 48], [115, 116, 111, 114, 101, 32, 48, 32, 53, 32, 57], [108, 111, 97, 100, 32, 48, 32, 53], [112, 97, 103, 101, 32, 48, 32, 48], [102, 108, 121]] := rfl
  rw [this, hello_run]
  rfl
theorem hello_any (w : World) (mx : Int) (hm : w.cell? ⟨0, 0, none⟩ = some (.int .i64 mx)) (ht : Tab w) : Calls Tryz.prog 4 #[] w fun e w' => e = .returned (.bool true) ∧ Upd (fun _ => False) w w' := by
  have ua : Upd (fun _ => False) w (w.alloc (.cells (txC heA).toArray 9)) := (Upd.refl _ _).alloc _
  have HR : Hid (Calls Tryz.prog 5 #[.int .i64 8, .slice (some ⟨w.heap.size, 0, none⟩) 6 6] (w.alloc (.cells (txC heA).toArray 9)) fun e w' => ∃ a cap, e = .returned (.tuple #[.slice a 6 cap, .nilIface]) ∧ TxAt w' a heB ∧ Upd (fun _ => False) w w') :=
    (run_yes _ mx (ua.cell hm (fun f => f)) (ht.upd ua) 8 (by omega) (by omega) _ 6 heA (txAt_new w heA _) (by decide)).mono (by
      rintro e w' ⟨v, rfl, hs, hu⟩
      rw [he_run] at hs
      obtain ⟨a, cap, rfl, hx, _⟩ := hs.txAt
      exact ⟨a, cap, rfl, hx, ua.trans hu (fun _ _ f => f)⟩)
  clear hm ht ua
  go_enter Tryz.func4, Tryz.ntmps4
  go_wp2_with fail
  refine Calls.mono HR.out ?_
  rintro e w2 ⟨a, cap, rfl, hx, hu⟩
  have HX : Hid _ := hx
  have HU : Hid _ := hu
  have HS : Hid (∀ w3, Upd (fun _ => False) w2 w3 → Calls Tryz.prog 9 #[.slice a 6 cap, .slice (some ⟨w3.heap.size, 0, none⟩) 6 6] (w3.alloc (.cells (txC heB).toArray 9)) fun e w' => e = .returned (.bool true) ∧ Upd (fun _ => False) w w') := fun w3 u3 =>
    (sameTexts_any _ _ _ _ _ heB (hx.upd (u3.alloc _) (fun _ _ _ f => f)) (txAt_new w3 heB _) (by decide)).mono (by
      rintro e w' ⟨rfl, hu'⟩
      exact ⟨rfl, (hu.trans (u3.alloc _) (fun _ _ f => f)).trans hu' (fun _ _ f => f)⟩)
  clear hx hu HR
  go_wp2_with (first
    | (go_at_call 6; refine Calls.mono (same0 _) ?_; rintro e w3 ⟨rfl, rfl⟩)
    | (go_at_call 9; refine Calls.mono (HS.out _ (by repeat (first | exact Upd.refl _ _ | apply Upd.drew | apply Upd.alloc))) ?_; rintro e w4 ⟨rfl, hu4⟩))
  go_ret
  exact ⟨rfl, hu4⟩
end Go.Proofs.YtadpibcgjgcjhabGreatDoor
