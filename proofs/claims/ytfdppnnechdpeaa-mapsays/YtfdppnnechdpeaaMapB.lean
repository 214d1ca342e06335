/- The law's maps: a closed fact: a page is touched. -/
import Derived.Test.YtfdppnnechdpeaaMapA
namespace Go.Proofs.Ytfdppnnechdpeaa
open Go.ChangeShapes Go.WideShapes Go.ChangeAt Go.RowKit
set_option maxRecDepth 100000

theorem plug3 (w : World) (bl bp bf : Nat) (h : LvAt w bl bp mp0) (hp : PoolAt w bp bf (pl0 3)) (h1 : bl ≠ bp) (h2 : bl ≠ bf) :
    Calls Try.prog 35 #[.pointer (some ⟨bl, 0, none⟩), .int .i64 2] w fun e w' => e = .returned .nilIface ∧ PoolAt w' bp bf (pl0 3) ∧ LvAt w' bl bp (turnM mp0 2 1) ∧ Upd (fun k => k = bf ∨ k = bl) w w' := by
  have := lvPlug w bl bp bf 2 mp0 mp0 (pl0 3) h hp h1 h2 (by decide) (Inv.start 3)
  have e : plugR (pl0 3) mp0 2 = (0, pl0 3, turnM mp0 2 1) := rfl
  rwa [e, errV_zero] at this
theorem touch3 (w : World) (bl bp bf : Nat) (h : LvAt w bl bp (turnM mp0 2 1)) (hp : PoolAt w bp bf (pl0 3)) (h1 : bl ≠ bp) (h2 : bl ≠ bf) :
    Calls Try.prog 32 #[.pointer (some ⟨bl, 0, none⟩), .int .i64 2, .bool true] w fun e w' => e = .returned (.tuple #[.int .i64 0, .bool false, .nilIface]) ∧ LvAt w' bl bp { st := (turnM mp0 2 1).st, lf := setAt (turnM mp0 2 1).lf 2 ⟨true, true, 0⟩ } ∧ Upd (fun k => k = bf ∨ k = bl) w w' := by
  have := lvTouch w bl bp bf 2 true (turnM mp0 2 1) mp0 (pl0 3) h hp h1 h2 (by decide) ((Inv.start 3).turn (by omega) 1 (by omega) (by omega))
  have e : (touchR (pl0 3) (turnM mp0 2 1) 2 true).1 = (0, false, 0) := rfl
  have e2 : (touchR (pl0 3) (turnM mp0 2 1) 2 true).2.2 = { st := (turnM mp0 2 1).st, lf := setAt (turnM mp0 2 1).lf 2 ⟨true, true, 0⟩ } := rfl
  rw [e, e2, errV_zero] at this
  exact this.mono fun _ _ ⟨a, _, c, d⟩ => ⟨a, c, d⟩
theorem leaf3 (w : World) (bl bp : Nat) (h : LvAt w bl bp { st := (turnM mp0 2 1).st, lf := setAt (turnM mp0 2 1).lf 2 ⟨true, true, 0⟩ }) :
    Calls Try.prog 36 #[.pointer (some ⟨bl, 0, none⟩), .int .i64 2] w fun e w' => e = .returned (.tuple #[.agg #[.bool true, .bool true, .int .i64 0], .nilIface]) ∧ Upd (fun _ => False) w w' :=
  lvLeaf_on w bl bp 2 _ h (by omega)
theorem maps_any (w : World) : Calls Try.prog 28 #[] w fun e w' => e = .returned (.bool true) ∧ Upd (fun _ => False) w w' := by
  go_enter Try.func28, Try.ntmps28
  go_wp2_with fail
  refine (new3 _).mono ?_
  rintro e w1 ⟨rfl, hp1, hu1, hz⟩
  have HZ : Hid _ := hz
  clear hz
  go_wp2_with fail
  refine (lvNew _ _).mono ?_
  rintro e w2 ⟨bl, rfl, hl2, gl, hu2⟩
  have hp2 := hp1.upd hu2 (fun f => f) (fun f => f) (by have := HZ.out; omega)
  have n1 : Hid (bl ≠ w.heap.size + 1) := show _ ≠ _ by have := HZ.out; omega
  have n2 : Hid (bl ≠ w.heap.size) := show _ ≠ _ by have := HZ.out; omega
  have hU2 := hu1.trans hu2 (fun _ _ f => f)
  have GL : Hid (w.heap.size ≤ bl) := show _ ≤ _ by have := hu1.size; omega
  clear hu1 hu2 gl hp1
  go_wp2_with fail
  refine (plug3 _ _ _ _ hl2 hp2 n1.out n2.out).mono ?_
  rintro e w3 ⟨rfl, hp3, hl3, hu3⟩
  go_wp2_with fail
  refine (touch3 _ _ _ _ hl3 hp3 n1.out n2.out).mono ?_
  rintro e w4 ⟨rfl, hl4, hu4⟩
  go_wp2_with fail
  refine (leaf3 _ _ _ hl4).mono ?_
  rintro e w5 ⟨rfl, hu5⟩
  have hU5 := ((hU2.trans hu3 (fun i hi e => by have := GL.out; omega)).trans hu4 (fun i hi e => by have := GL.out; omega)).trans hu5 (fun _ _ f => f)
  go_wp2_with fail
  refine (same0 _).mono ?_
  rintro e w6 ⟨rfl, rfl⟩
  go_wp2_with fail
  refine (same0 _).mono ?_
  rintro e w6 ⟨rfl, rfl⟩
  go_wp2_with fail
  go_ret
  exact ⟨rfl, hU5.alloc _⟩
end Go.Proofs.Ytfdppnnechdpeaa
