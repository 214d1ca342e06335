/- Package guest: Cached, whole; New, Copy. -/
import Derived.Test.YtadpibcgjgcjhabGreatDoorGgK
namespace Go.Proofs.YtadpibcgjgcjhabGreatDoor
open Go.ChangeShapes Go.WideShapes Go.ChangeAt Go.RowKit Go.Shelf
set_option maxRecDepth 1000000
attribute [local go_sem ↓] Go.wp_at_zero Go.wp_at_succ
variable {w w' : World} {bg bp bf bl bc : Nat} {s : Pl} {g : Gs} {b : Mp} {W : Int}
theorem GCell.new (w : World) (bp bl bc : Nat) (r k : Int) (t : TypeId) : GCell (w.alloc (.cells #[.pointer (some ⟨bp, 0, none⟩), .pointer (some ⟨bl, 0, none⟩), .pointer (some ⟨bc, 0, none⟩), .int .i64 r, .int .i64 k] t)) w.heap.size bp bl bc r k :=
  ⟨by rw [World.cell?_alloc_new]; rfl, by rw [World.cell?_alloc_new]; rfl, by rw [World.cell?_alloc_new]; rfl, by rw [World.cell?_alloc_new]; rfl, by rw [World.cell?_alloc_new]; rfl, fun _ => World.frozen?_alloc_new _ _ _ _⟩
theorem gNew (w : World) (bp : Nat) : Calls Tryz.prog 76 #[.pointer (some ⟨bp, 0, none⟩)] w fun e w' => ∃ bg bl bc, e = .returned (.tuple #[.pointer (some ⟨bg, 0, none⟩), .nilIface]) ∧ GCell w' bg bp bl bc (-1) 0 ∧ LvAt w' bl bp mp0 ∧ CaL w' bc [] ∧ w.heap.size ≤ bl ∧ w.heap.size ≤ bg ∧ w.heap.size ≤ bc ∧ bg ≠ bl ∧ bg ≠ bc ∧ bl ≠ bc ∧ Upd (fun _ => False) w w' := by
  have HN : Hid _ := lvNew w bp
  go_enter Tryz.func76, Tryz.ntmps76
  go_wp2_with fail
  refine Calls.mono HN.out ?_
  rintro e w1 ⟨bl, rfl, hl, hz, hu⟩
  go_wp2_with fail
  have hcz := zero_at w1 165
  have u1 := (Upd.refl (fun _ => False) w1).alloc (.cells zeroCa 165)
  have hgc := GCell.new (w1.alloc (.cells zeroCa 165)) bp bl w1.heap.size (-1) 0 167
  have u2 := (Upd.refl (fun _ => False) (w1.alloc (.cells zeroCa 165))).alloc (.cells #[.pointer (some ⟨bp, 0, none⟩), .pointer (some ⟨bl, 0, none⟩), .pointer (some ⟨w1.heap.size, 0, none⟩), .int .i64 (-1), .int .i64 0] 167)
  have hbl := hl.lt
  have hs := hu.size
  have hca : CaL (w1.alloc (.cells zeroCa 165)) w1.heap.size [] := ⟨_, hcz, fun i hi => absurd hi (by simp)⟩
  rw [World.size_alloc] at hgc
  have hcu := hca.upd u2 (fun f => f)
  have hlu := (hl.upd u1 (fun f => f)).upd u2 (fun f => f)
  have huu := (hu.trans u1 (fun _ _ f => f)).trans u2 (fun _ _ f => f)
  go_ret2
  exact ⟨w1.heap.size + 1, bl, w1.heap.size, rfl, hgc, hlu, hcu, hz, by omega, by omega, by omega, by omega, by omega, huu⟩
end Go.Proofs.YtadpibcgjgcjhabGreatDoor
