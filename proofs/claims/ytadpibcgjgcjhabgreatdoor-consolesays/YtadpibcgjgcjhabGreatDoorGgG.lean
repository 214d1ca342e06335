/- Package guest: what is remembered is asked first. -/
import Derived.Test.YtadpibcgjgcjhabGreatDoorGgF
namespace Go.Proofs.YtadpibcgjgcjhabGreatDoor
open Go.ChangeShapes Go.WideShapes Go.ChangeAt Go.RowKit
set_option maxRecDepth 1000000
attribute [local go_sem ↓] Go.wp_at_zero Go.wp_at_succ

/-- The region of that number. -/
def rgnAt (n : Nat) : Code → Option Code
  | .region i ops b => if i = n then some (.region i ops b) else none
  | .block _ c => rgnAt n c
  | .seq a b => match rgnAt n a with
    | some c => some c
    | none => rgnAt n b
  | .cond _ a b => match rgnAt n a with
    | some c => some c
    | none => rgnAt n b
  | .loop c => rgnAt n c
  | _ => none
noncomputable def folRg1 : Code := (Tryz.f140.body.bind (rgnAt 1)).getD .skip
theorem frozen_keep {S : Nat → Prop} {w w' : World} {q : Nat} (u : Upd S w w') (hq : q < w.heap.size) (hS : ¬ S q) (h : ∀ o, w.frozen? ⟨q, o, none⟩ = false) : ∀ o, w'.frozen? ⟨q, o, none⟩ = false := fun o => by rw [World.frozen?_of_block (w := w) (u.block q hq hS)]; exact h o
theorem EnAt.seven {w : World} {q : Nat} {x : En} (h : EnAt w q x) (hz : ∀ o, w.frozen? ⟨q, o, none⟩ = false) (y : En) : EnAt (w.setCells q 0 (enCells y)) q y := fun j hj => by
  obtain ⟨v, hv⟩ := enCells_some y j hj
  have := World.rangeAt_setCells_same w q 0 (enCells y) (fun o ho => ⟨by
    have ho7 : o < 7 := ho
    obtain ⟨u, hu⟩ := enCells_some x o ho7
    rw [Nat.zero_add, h o ho7, hu]; rfl, hz _⟩) j v hv
  rw [Nat.zero_add] at this
  rw [this, hv]
theorem EnAt.seven' {w : World} {q : Nat} {x : En} (h : EnAt w q x) (hz : ∀ o, w.frozen? ⟨q, o, none⟩ = false) (y : En) : EnAt (((((((w.setCell ⟨q, 0, none⟩ (.int .i64 y.root)).setCell ⟨q, 1, none⟩ (.int .i64 y.page)).setCell ⟨q, 2, none⟩ (.int .i64 y.dest)).setCell ⟨q, 3, none⟩ (.bool y.may)).setCell ⟨q, 4, none⟩ (.bool y.lf.there)).setCell ⟨q, 5, none⟩ (.bool y.lf.wr)).setCell ⟨q, 6, none⟩ (.int .i64 y.lf.fr)) q y := h.seven hz y
theorem Upd.seven' (w : World) (q : Nat) (y : En) : Upd (fun k => k = q) w (((((((w.setCell ⟨q, 0, none⟩ (.int .i64 y.root)).setCell ⟨q, 1, none⟩ (.int .i64 y.page)).setCell ⟨q, 2, none⟩ (.int .i64 y.dest)).setCell ⟨q, 3, none⟩ (.bool y.may)).setCell ⟨q, 4, none⟩ (.bool y.lf.there)).setCell ⟨q, 5, none⟩ (.bool y.lf.wr)).setCell ⟨q, 6, none⟩ (.int .i64 y.lf.fr)) := Upd.row w q 0 (enCells y)
theorem frozen_seven' {w : World} {q : Nat} (hz : ∀ o, w.frozen? ⟨q, o, none⟩ = false) (y : En) : ∀ o, (((((((w.setCell ⟨q, 0, none⟩ (.int .i64 y.root)).setCell ⟨q, 1, none⟩ (.int .i64 y.page)).setCell ⟨q, 2, none⟩ (.int .i64 y.dest)).setCell ⟨q, 3, none⟩ (.bool y.may)).setCell ⟨q, 4, none⟩ (.bool y.lf.there)).setCell ⟨q, 5, none⟩ (.bool y.lf.wr)).setCell ⟨q, 6, none⟩ (.int .i64 y.lf.fr)).frozen? ⟨q, o, none⟩ = false := fun o => by simp only [World.frozen?_setCell]; exact hz o
set_option maxHeartbeats 1000000 in
theorem fol_rg1 (w : World) (bg bc : Nat) (p r : Int) (wt kn : Bool) (y : En) (c2 : w.cell? ⟨bg, 2, none⟩ = some (.pointer (some ⟨bc, 0, none⟩))) (c3 : w.cell? ⟨bg, 3, none⟩ = some (.int .i64 r)) {Q : Exit → Act → World → Prop}
    (hF : ∀ w1, Upd (fun _ => False) w w1 → Calls Tryz.prog 174 #[.pointer (some ⟨bc, 0, none⟩), .int .i64 r, .int .i64 p] w1 fun e w' => e = .returned (.tuple #[.agg #[.int .i64 y.root, .int .i64 y.page, .int .i64 y.dest, .bool y.may, .bool y.lf.there, .bool y.lf.wr, .int .i64 y.lf.fr], .bool kn]) ∧ Upd (fun _ => False) w1 w')
    (hm : ∀ (v13 v14 v15 v16 v17 v18 v19 v20 v21 v22 v23 v24 v25 : Value) (w' : World) (qx : Nat), EnAt w' qx y → (∀ o, w'.frozen? ⟨qx, o, none⟩ = false) → Upd (fun _ => False) w w' → w.heap.size ≤ qx → Q .normal ⟨#[.pointer (some ⟨bg, 0, none⟩), .int .i64 p, .bool wt, undef, undef, undef, .int .i64 0, .nilIface, .pointer (some ⟨qx, 0, none⟩), .bool kn, undef, undef, undef, v13, v14, v15, v16, v17, v18, v19, v20, v21, v22, v23, v24, v25, undef, undef, undef, undef, undef, undef, undef, undef, undef, undef, undef, undef, undef, undef, undef, undef, undef, undef, undef, undef, undef, undef, undef, undef, undef, undef, undef, undef, undef, undef, undef, undef, undef, undef, undef], []⟩ w') :
    Code.wp Tryz.prog folRg1 Q ⟨#[.pointer (some ⟨bg, 0, none⟩), .int .i64 p, .bool wt, undef, undef, undef, .int .i64 0, .nilIface, undef, undef, undef, undef, undef, undef, undef, undef, undef, undef, undef, undef, undef, undef, undef, undef, undef, undef, undef, undef, undef, undef, undef, undef, undef, undef, undef, undef, undef, undef, undef, undef, undef, undef, undef, undef, undef, undef, undef, undef, undef, undef, undef, undef, undef, undef, undef, undef, undef, undef, undef, undef, undef], []⟩ w := by
  have HM : Hid _ := hm
  have lg : bg < w.heap.size := World.block_lt_of_cell? w _ c2
  have UZ : Hid (Upd (fun _ => False) w (w.alloc (.cells #[.int .i64 0, .int .i64 0, .int .i64 0, .bool false, .bool false, .bool false, .int .i64 0] 151)).drew) := ((Upd.refl (fun _ => False) w).alloc (.cells #[.int .i64 0, .int .i64 0, .int .i64 0, .bool false, .bool false, .bool false, .int .i64 0] 151)).drew
  have HFd : Hid _ := hF w.drew (Upd.refl _ _).drew
  have HFa : Hid _ := hF _ UZ.out
  have sA : w.cell? ⟨bg, 2, none⟩ = some (.pointer (some ⟨bc, 0, none⟩)) ∧ w.cell? ⟨bg, 3, none⟩ = some (.int .i64 r) := ⟨c2, c3⟩
  have sD : w.drew.cell? ⟨bg, 2, none⟩ = some (.pointer (some ⟨bc, 0, none⟩)) ∧ w.drew.cell? ⟨bg, 3, none⟩ = some (.int .i64 r) := ⟨c2, c3⟩
  have sZ : (w.alloc (.cells #[.int .i64 0, .int .i64 0, .int .i64 0, .bool false, .bool false, .bool false, .int .i64 0] 151)).drew.cell? ⟨bg, 2, none⟩ = some (.pointer (some ⟨bc, 0, none⟩)) ∧ (w.alloc (.cells #[.int .i64 0, .int .i64 0, .int .i64 0, .bool false, .bool false, .bool false, .int .i64 0] 151)).drew.cell? ⟨bg, 3, none⟩ = some (.int .i64 r) := ⟨UZ.out.cell c2 (fun f => f), UZ.out.cell c3 (fun f => f)⟩
  have NW : Hid (¬ bg = w.heap.size) := show ¬ _ by omega
  have HZE : Hid (EnAt (w.alloc (.cells #[.int .i64 0, .int .i64 0, .int .i64 0, .bool false, .bool false, .bool false, .int .i64 0] 151)).drew w.heap.size en0) := (EnAt.new w 151 en0)
  have HZF : Hid (∀ o, (w.alloc (.cells #[.int .i64 0, .int .i64 0, .int .i64 0, .bool false, .bool false, .bool false, .int .i64 0] 151)).drew.frozen? ⟨w.heap.size, o, none⟩ = false) := fun o => World.frozen?_alloc_new w _ _ o
  have SAL : Hid (∀ (w5 : World) (o : Obj), w5.cell? ⟨bg, 2, none⟩ = some (.pointer (some ⟨bc, 0, none⟩)) ∧ w5.cell? ⟨bg, 3, none⟩ = some (.int .i64 r) → (w5.alloc o).cell? ⟨bg, 2, none⟩ = some (.pointer (some ⟨bc, 0, none⟩)) ∧ (w5.alloc o).cell? ⟨bg, 3, none⟩ = some (.int .i64 r)) := fun w5 o h => ⟨Upd.cell ((Upd.refl (fun _ => False) w5).alloc o) h.1 (fun f => f), Upd.cell ((Upd.refl (fun _ => False) w5).alloc o) h.2 (fun f => f)⟩
  have SST : Hid (∀ (w5 : World) (v0 v1 v2 v3 v4 v5 v6 : Value), w5.cell? ⟨bg, 2, none⟩ = some (.pointer (some ⟨bc, 0, none⟩)) ∧ w5.cell? ⟨bg, 3, none⟩ = some (.int .i64 r) → (((((((w5.setCell ⟨w.heap.size, 0, none⟩ v0).setCell ⟨w.heap.size, 1, none⟩ v1).setCell ⟨w.heap.size, 2, none⟩ v2).setCell ⟨w.heap.size, 3, none⟩ v3).setCell ⟨w.heap.size, 4, none⟩ v4).setCell ⟨w.heap.size, 5, none⟩ v5).setCell ⟨w.heap.size, 6, none⟩ v6).cell? ⟨bg, 2, none⟩ = some (.pointer (some ⟨bc, 0, none⟩)) ∧ (((((((w5.setCell ⟨w.heap.size, 0, none⟩ v0).setCell ⟨w.heap.size, 1, none⟩ v1).setCell ⟨w.heap.size, 2, none⟩ v2).setCell ⟨w.heap.size, 3, none⟩ v3).setCell ⟨w.heap.size, 4, none⟩ v4).setCell ⟨w.heap.size, 5, none⟩ v5).setCell ⟨w.heap.size, 6, none⟩ v6).cell? ⟨bg, 3, none⟩ = some (.int .i64 r)) := fun w5 v0 v1 v2 v3 v4 v5 v6 h => ⟨(Upd.row w5 w.heap.size 0 [v0, v1, v2, v3, v4, v5, v6]).cell h.1 NW.out, (Upd.row w5 w.heap.size 0 [v0, v1, v2, v3, v4, v5, v6]).cell h.2 NW.out⟩
  have ZC0 : Hid ((w.alloc (.cells #[.int .i64 0, .int .i64 0, .int .i64 0, .bool false, .bool false, .bool false, .int .i64 0] 151)).drew.cell? ⟨w.heap.size, 0, none⟩ = some (.int .i64 0)) := HZE.out 0 (by omega)
  have ZC1 : Hid ((w.alloc (.cells #[.int .i64 0, .int .i64 0, .int .i64 0, .bool false, .bool false, .bool false, .int .i64 0] 151)).drew.cell? ⟨w.heap.size, 1, none⟩ = some (.int .i64 0)) := HZE.out 1 (by omega)
  have ZC2 : Hid ((w.alloc (.cells #[.int .i64 0, .int .i64 0, .int .i64 0, .bool false, .bool false, .bool false, .int .i64 0] 151)).drew.cell? ⟨w.heap.size, 2, none⟩ = some (.int .i64 0)) := HZE.out 2 (by omega)
  have ZC3 : Hid ((w.alloc (.cells #[.int .i64 0, .int .i64 0, .int .i64 0, .bool false, .bool false, .bool false, .int .i64 0] 151)).drew.cell? ⟨w.heap.size, 3, none⟩ = some (.bool false)) := HZE.out 3 (by omega)
  have ZC4 : Hid ((w.alloc (.cells #[.int .i64 0, .int .i64 0, .int .i64 0, .bool false, .bool false, .bool false, .int .i64 0] 151)).drew.cell? ⟨w.heap.size, 4, none⟩ = some (.bool false)) := HZE.out 4 (by omega)
  have ZC5 : Hid ((w.alloc (.cells #[.int .i64 0, .int .i64 0, .int .i64 0, .bool false, .bool false, .bool false, .int .i64 0] 151)).drew.cell? ⟨w.heap.size, 5, none⟩ = some (.bool false)) := HZE.out 5 (by omega)
  have ZC6 : Hid ((w.alloc (.cells #[.int .i64 0, .int .i64 0, .int .i64 0, .bool false, .bool false, .bool false, .int .i64 0] 151)).drew.cell? ⟨w.heap.size, 6, none⟩ = some (.int .i64 0)) := HZE.out 6 (by omega)
  clear hm hF
  conv => arg 2; whnf
  go_region_held3 (fun w' => w'.cell? ⟨bg, 2, none⟩ = some (.pointer (some ⟨bc, 0, none⟩)) ∧ w'.cell? ⟨bg, 3, none⟩ = some (.int .i64 r)) (first | with_reducible exact h5c | with_reducible exact sA | with_reducible exact sD | with_reducible exact sZ | with_reducible exact SAL.out _ _ h5c | with_reducible exact SST.out _ _ _ _ _ _ _ _ h5c)
    ((go_at_call 174; (first | (refine Calls.mono HFd.out ?_; rintro e w5 ⟨rfl, hu5⟩) | (refine Calls.mono HFa.out ?_; rintro e w5 ⟨rfl, hu5⟩; have bx0 : w5.cell? ⟨w.heap.size, 0, none⟩ = some (.int .i64 0) := hu5.cell (by with_reducible exact ZC0.out) (fun f => f); have bx1 : w5.cell? ⟨w.heap.size, 1, none⟩ = some (.int .i64 0) := hu5.cell (by with_reducible exact ZC1.out) (fun f => f); have bx2 : w5.cell? ⟨w.heap.size, 2, none⟩ = some (.int .i64 0) := hu5.cell (by with_reducible exact ZC2.out) (fun f => f); have bx3 : w5.cell? ⟨w.heap.size, 3, none⟩ = some (.bool false) := hu5.cell (by with_reducible exact ZC3.out) (fun f => f); have bx4 : w5.cell? ⟨w.heap.size, 4, none⟩ = some (.bool false) := hu5.cell (by with_reducible exact ZC4.out) (fun f => f); have bx5 : w5.cell? ⟨w.heap.size, 5, none⟩ = some (.bool false) := hu5.cell (by with_reducible exact ZC5.out) (fun f => f); have bx6 : w5.cell? ⟨w.heap.size, 6, none⟩ = some (.int .i64 0) := hu5.cell (by with_reducible exact ZC6.out) (fun f => f); have bz : ∀ o, w5.frozen? ⟨w.heap.size, o, none⟩ = false := frozen_keep hu5 (World.block_lt_of_cell? _ _ ZC0.out) (fun f => f) HZF.out; have bz0 := bz 0; have bz1 := bz 1; have bz2 := bz 2; have bz3 := bz 3; have bz4 := bz 4; have bz5 := bz 5; have bz6 := bz 6)); have h5c : w5.cell? ⟨bg, 2, none⟩ = some (.pointer (some ⟨bc, 0, none⟩)) ∧ w5.cell? ⟨bg, 3, none⟩ = some (.int .i64 r) := ⟨hu5.cell (by first | with_reducible exact sD.1 | with_reducible exact sZ.1) (fun f => f), hu5.cell (by first | with_reducible exact sD.2 | with_reducible exact sZ.2) (fun f => f)⟩))
  all_goals (first
    | (have hb0 := bx0
       have hE5 := HZE.out.upd hu5 (fun f => f)
       have uB := Upd.seven' w5 w.heap.size y
       exact HM.out _ _ _ _ _ _ _ _ _ _ _ _ _ _ _ (hE5.seven' bz y) (frozen_seven' bz y) ((UZ.out.trans hu5 (fun _ _ f => f)).trans uB (fun i hi e => by omega)) (Nat.le_refl _))
    | (have uA := (Upd.refl (fun _ => False) w5).alloc (.cells #[.int .i64 y.root, .int .i64 y.page, .int .i64 y.dest, .bool y.may, .bool y.lf.there, .bool y.lf.wr, .int .i64 y.lf.fr] 151)
       have hX := EnAt.new w5 151 y
       exact HM.out _ _ _ _ _ _ _ _ _ _ _ _ _ _ _ hX (fun o => World.frozen?_alloc_new _ _ _ o) (((Upd.refl (fun _ => False) w).drew.trans hu5 (fun _ _ f => f)).trans uA (fun _ _ f => f)) hu5.size))
end Go.Proofs.YtadpibcgjgcjhabGreatDoor
