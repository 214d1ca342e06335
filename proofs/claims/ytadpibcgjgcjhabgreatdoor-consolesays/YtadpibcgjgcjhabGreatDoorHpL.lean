/- Package host: Frame, Cached, Guests. -/
import Derived.Test.YtadpibcgjgcjhabGreatDoorHpK
namespace Go.Proofs.YtadpibcgjgcjhabGreatDoor
open Go.ChangeShapes Go.WideShapes Go.ChangeAt Go.RowKit
set_option maxRecDepth 100000
attribute [local go_sem ↓] Go.wp_at_zero Go.wp_at_succ
variable {w w' : World} {bh bp bf : Nat} {G G' : Nat → G3} {h h' : Hs} {x : Gs} {s' : Pl} {x' : Gs} {b : Mp} {W : Int} {t : Nat → Nat → Int} {F : Nat → Option Fl}

set_option maxHeartbeats 1000000 in
theorem hFrame_any (m : HM w bh bp bf G h) (f : Int) : Calls Tryz.prog 88 #[.pointer (some ⟨bh, 0, none⟩), .int .i64 f] w (MRead w (.tuple #[.agg #[.int .i64 (h.s.of f).1, .int .i64 (h.s.of f).2.1], errV (h.s.of f).2.2])) := by
  have u1 := (Upd.refl (fun _ => False) w).alloc (.cells #[.int .i64 0, .int .i64 0] 67)
  have c0 := (m.same u1).c0
  have HO : Hid _ := of_any _ bp bf f h.s (m.same u1).pool m.hn
  have y0 : (w.alloc (.cells #[.int .i64 0, .int .i64 0] 67)).cell? ⟨w.heap.size, 0, none⟩ = some (.int .i64 0) := by rw [World.cell?_alloc_new]; rfl
  have y1 : (w.alloc (.cells #[.int .i64 0, .int .i64 0] 67)).cell? ⟨w.heap.size, 1, none⟩ = some (.int .i64 0) := by rw [World.cell?_alloc_new]; rfl
  have hz : ∀ o, (w.alloc (.cells #[.int .i64 0, .int .i64 0] 67)).frozen? ⟨w.heap.size, o, none⟩ = false := fun o => World.frozen?_alloc_new _ _ _ _
  have HY0 : Hid _ := y0
  have HY1 : Hid _ := y1
  have HZ : Hid _ := hz
  have HU1 : Hid _ := u1
  have HSZ : Hid (w.heap.size < (w.alloc (.cells #[.int .i64 0, .int .i64 0] 67)).heap.size) := show _ < _ by simp
  clear m u1 y0 y1 hz
  generalize h.s.of f = r at *
  obtain ⟨r1, r2, r3⟩ := r
  simp only at HO ⊢
  generalize errV r3 = ev at *
  go_enter Tryz.func88, Tryz.ntmps88
  go_wp2_with fail
  refine Calls.mono HO.out ?_
  rintro e w1 ⟨rfl, hu⟩
  have y0 := hu.cell HY0.out (fun f => f)
  have y1 := hu.cell HY1.out (fun f => f)
  have z0 : ∀ o, w1.frozen? ⟨w.heap.size, o, none⟩ = false := fun o => by rw [World.frozen?_of_block (hu.block w.heap.size HSZ.out (fun f => f))]; exact HZ.out o
  have z1 := z0 0
  have z2 := z0 1
  have HU : Hid _ := HU1.out.trans hu (fun _ _ f => f)
  have HU2 : Hid (Upd (fun k => k = w.heap.size) w1 ((w1.setCell ⟨w.heap.size, 0, none⟩ (.int .i64 r1)).setCell ⟨w.heap.size, 1, none⟩ (.int .i64 r2))) := (Upd.one w1 w.heap.size 0 _).trans (Upd.one _ w.heap.size 1 _) (fun _ _ e => e)
  clear z0 hu HU1 HO HZ HY0 HY1
  go_wp2_with fail
  refine bodyPost_ret (v := .tuple #[.agg #[.int .i64 r1, .int .i64 r2], ev]) (by simp [results, Tryz.results88, go_sem, y0, y1]) rfl ⟨rfl, HU.out.trans HU2.out (fun i hi e => by omega)⟩
end Go.Proofs.YtadpibcgjgcjhabGreatDoor
