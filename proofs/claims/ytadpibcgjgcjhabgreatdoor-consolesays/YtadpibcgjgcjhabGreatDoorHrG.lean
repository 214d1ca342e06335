/- The document's host: Scan. -/
import Derived.Test.YtadpibcgjgcjhabGreatDoorHrF
import Derived.Test.YtadpibcgjgcjhabGreatDoorHrE
namespace Go.Proofs.YtadpibcgjgcjhabGreatDoor
open Go.ChangeShapes Go.WideShapes Go.ChangeAt Go.RowKit
set_option maxRecDepth 100000
attribute [local go_sem ↓] Go.wp_at_zero Go.wp_at_succ
variable {w w' : World} {bh bm base : Nat} {bx : Nat → Nat} {v : Nat → Value} {h : Hs} {x : Gs} {s' : Pl} {x' : Gs} {W : Int}

def SPost (w : World) (bh bm base : Nat) (bx : Nat → Nat) (h : Hs) (r : (Bool × Int) × Hs) (e : Ending) (w' : World) : Prop :=
  e = .returned (.tuple #[.bool r.1.1, .int .i64 r.1.2]) ∧ (∃ v', RHo w' bh bm base bx v' r.2) ∧ Upd (RFt bh bm bx h) w w'
theorem sScan_no (r : RHo w bh bm base bx v h) (n p : Int) (h0 : 0 < hWho h n) : Calls Tryz.prog 30 #[.pointer (some ⟨bh, 0, none⟩), .int .i64 n, .int .i64 p] w (SPost w bh bm base bx h ((false, hWho h n), h)) := by
  have HR : Hid (RHo w bh bm base bx v h) := r
  have HW : Hid _ := rWho_any r n
  have d : decide (0 < hWho h n) = true := by simp; exact h0
  clear r
  go_enter Tryz.func30, Tryz.ntmps30
  go_wp2_with (go_at_call 31; refine Calls.mono HW.out ?_; rintro e w1 ⟨rfl, m, rfl⟩)
  go_ret2
  exact ⟨rfl, ⟨v, HR.out.same ((Upd.refl (fun _ => False) w).drewN m)⟩, (Upd.refl _ w).drewN m⟩
theorem who_at {k : Nat} (r : RHo w bh bm base bx v h) (hk : k < 4) (hx : h.g k = some x) : Calls Tryz.prog 31 #[.pointer (some ⟨bh, 0, none⟩), .int .i64 (k : Int)] w fun e w' => e = .returned (.tuple #[.pointer (some ⟨bx k, 0, none⟩), .int .i64 0]) ∧ ∃ m, w' = w.drewN m := by
  have := rWho_any r (k : Int)
  rw [whoV_yes (bx := bx) hx hk, (hWho_some hx hk).1] at this
  exact this
theorem sScan_off {k : Nat} (r : RHo w bh bm base bx v h) (hk : k < 4) (hx : h.g k = some x) (p : Int) (hp : onB p = false) : Calls Tryz.prog 30 #[.pointer (some ⟨bh, 0, none⟩), .int .i64 (k : Int), .int .i64 p] w (SPost w bh bm base bx h ((false, 1), h)) := by
  have HR : Hid (RHo w bh bm base bx v h) := r
  have HW : Hid _ := who_at r hk hx
  have HON : Hid (∀ w1, Calls Tryz.prog 39 #[.int .i64 p] w1 fun e w' => e = .returned (.bool false) ∧ w' = w1) := fun w1 => by have := on_any w1 p; rw [hp] at this; exact this
  clear r hp hx
  go_enter Tryz.func30, Tryz.ntmps30
  go_wp2_with (first | (go_at_call 31; refine Calls.mono HW.out ?_; rintro e w1 ⟨rfl, m, rfl⟩) | (go_at_call 39; refine Calls.mono (HON.out _) ?_; rintro e w2 ⟨rfl, hw2⟩; subst hw2))
  go_ret2
  exact ⟨rfl, ⟨v, HR.out.same ((Upd.refl (fun _ => False) w).drewN m)⟩, (Upd.refl _ w).drewN m⟩
end Go.Proofs.YtadpibcgjgcjhabGreatDoor
