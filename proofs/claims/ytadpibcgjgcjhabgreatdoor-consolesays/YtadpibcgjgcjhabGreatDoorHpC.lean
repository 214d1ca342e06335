/- Package host: Leaf, Load, places, Promised. -/
import Derived.Test.YtadpibcgjgcjhabGreatDoorHpB
namespace Go.Proofs.YtadpibcgjgcjhabGreatDoor
open Go.ChangeShapes Go.WideShapes Go.ChangeAt Go.RowKit
set_option maxRecDepth 100000
attribute [local go_sem ↓] Go.wp_at_zero Go.wp_at_succ
variable {w w' : World} {bh bp bf : Nat} {G G' : Nat → G3} {h h' : Hs} {x : Gs} {s' : Pl} {x' : Gs} {b : Mp} {W : Int}

set_option maxHeartbeats 1000000 in
theorem hLeaf_any (m : HM w bh bp bf G h) (hi : HInv h W) (n p : Int) : Calls Tryz.prog 82 #[.pointer (some ⟨bh, 0, none⟩), .int .i64 n, .int .i64 p] w (MRead w (.tuple #[.agg #[.bool (hLeaf h n p).1.there, .bool (hLeaf h n p).1.wr, .int .i64 (hLeaf h n p).1.fr], errV (hLeaf h n p).2])) := by
  have u1 := (Upd.refl (fun _ => False) w).alloc (.cells #[.bool false, .bool false, .int .i64 0] 92)
  have hla := LfAt.new w 92 lf0
  have hlz : ∀ o, (w.alloc (.cells #[.bool false, .bool false, .int .i64 0] 92)).frozen? ⟨w.heap.size, o, none⟩ = false := fun o => World.frozen?_alloc_new _ _ _ _
  have HLA : Hid (LfAt (w.alloc (.cells #[.bool false, .bool false, .int .i64 0] 92)) w.heap.size lf0) := hla
  have HLZ : Hid _ := hlz
  have HU1 : Hid _ := u1
  have HSZ : Hid (w.heap.size < (w.alloc (.cells #[.bool false, .bool false, .int .i64 0] 92)).heap.size) := show _ < _ by simp
  have m1 := m.same u1
  have HMM : Hid (HM (w.alloc (.cells #[.bool false, .bool false, .int .i64 0] 92)) bh bp bf G h) := m1
  clear u1 hla hlz m
  unfold hLeaf
  by_cases h0 : 0 < hWho h n
  · rw [if_pos h0]
    have HG : Hid _ := guest_no m1 n h0
    have HE : Hid _ := errV_who h0
    clear m1 hi h0
    go_enter Tryz.func82, Tryz.ntmps82
    go_wp2_with fail
    refine Calls.mono HG.out ?_
    rintro e w1 ⟨rfl, hu⟩
    obtain ⟨y0, y1, y2⟩ := HLA.out.upd hu (fun f => f)
    have z0 : ∀ o, w1.frozen? ⟨w.heap.size, o, none⟩ = false := fun o => by rw [World.frozen?_of_block (hu.block w.heap.size HSZ.out (fun f => f))]; exact HLZ.out o
    have z1 := z0 0
    have z2 := z0 1
    have z3 := z0 2
    have HU : Hid _ := HU1.out.trans hu (fun _ _ f => f)
    have HU2 : Hid (Upd (fun k => k = w.heap.size) w1 (((w1.setCell ⟨w.heap.size, 0, none⟩ (.bool false)).setCell ⟨w.heap.size, 1, none⟩ (.bool false)).setCell ⟨w.heap.size, 2, none⟩ (.int .i64 0))) := Upd.three w1 w.heap.size 0 1 2 _ _ _
    clear z0 hu HU1 HLA HLZ HG
    go_wp2_with fail
    rw [HE.out]
    first
      | exact bodyPost_ret (v := .tuple #[.agg #[.bool false, .bool false, .int .i64 0], .iface 37 (.int .i64 (hWho h n))]) (by simp [results, Tryz.results82, go_sem, y0, y1, y2]) rfl ⟨rfl, HU.out.trans HU2.out (fun i hi e => by omega)⟩
      | exact bodyPost_ret (v := .tuple #[.agg #[.bool false, .bool false, .int .i64 0], .iface 37 (.int .i64 (hWho h n))]) (by simp [results, Tryz.results82, go_sem, y0, y1, y2]) rfl ⟨rfl, HU.out⟩
  · rw [if_neg h0]
    obtain ⟨k, x, rfl, hk, hx, hat⟩ := hWho_zero (show hWho h n = 0 by have := hWho_le (h := h) n; omega)
    rw [hat]
    have HG : Hid _ := guest_yes m1 hk hx
    have HS : Hid (∀ w0, Upd (fun _ => False) (w.alloc (.cells #[.bool false, .bool false, .int .i64 0] 92)) w0 → Calls Tryz.prog 112 #[.pointer (some ⟨(G k).g, 0, none⟩), .int .i64 p] w0 (MRead w0 (.tuple #[.agg #[.bool (lfR x.m p).1.there, .bool (lfR x.m p).1.wr, .int .i64 (lfR x.m p).1.fr], errV (lfR x.m p).2]))) := fun w0 hu => ((m1.same hu).gg hi hx).leafAny p
    clear m1 hi h0 hx hat
    revert HS
    generalize lfR x.m p = r
    obtain ⟨l, r2⟩ := r
    generalize errV (l, r2).2 = ev
    intro HS
    go_enter Tryz.func82, Tryz.ntmps82
    go_wp2_with fail
    refine Calls.mono HG.out ?_
    rintro e w0 ⟨rfl, hu0⟩
    have HU0 : Hid _ := hu0
    clear hu0
    go_wp2_with fail
    refine Calls.mono (HS.out w0 HU0.out) ?_
    rintro e w1 ⟨rfl, hu2⟩
    have hu := HU0.out.trans hu2 (fun _ _ f => f)
    obtain ⟨y0, y1, y2⟩ := HLA.out.upd hu (fun f => f)
    have z0 : ∀ o, w1.frozen? ⟨w.heap.size, o, none⟩ = false := fun o => by rw [World.frozen?_of_block (hu.block w.heap.size HSZ.out (fun f => f))]; exact HLZ.out o
    have z1 := z0 0
    have z2 := z0 1
    have z3 := z0 2
    have HU : Hid _ := HU1.out.trans hu (fun _ _ f => f)
    have HU2 : Hid (Upd (fun k => k = w.heap.size) w1 (((w1.setCell ⟨w.heap.size, 0, none⟩ (.bool l.there)).setCell ⟨w.heap.size, 1, none⟩ (.bool l.wr)).setCell ⟨w.heap.size, 2, none⟩ (.int .i64 l.fr))) := Upd.three w1 w.heap.size 0 1 2 _ _ _
    clear z0 hu hu2 HU1 HLA HLZ HS HG HU0 HMM
    go_wp2_with fail
    refine bodyPost_ret (v := .tuple #[.agg #[.bool l.there, .bool l.wr, .int .i64 l.fr], ev]) (by simp [results, Tryz.results82, go_sem, y0, y1, y2]) rfl ⟨rfl, HU.out.trans HU2.out (fun i hi e => by omega)⟩
/-- How Load ends. -/
def MLoad (w : World) (bh bp bf : Nat) (G : Nat → G3) (h : Hs) (r : (Int × Int) × Hs) (e : Ending) (w' : World) : Prop :=
  e = .returned (.tuple #[.int .u8 r.1.1, errV r.1.2]) ∧ HM w' bh bp bf G r.2 ∧ Upd (Own bh bp bf G h) w w'
theorem hLoad_m (m : HM w bh bp bf G h) (hi : HInv h W) (n addr : Int) (hW : W ≤ 1000000) : Calls Tryz.prog 55 #[.pointer (some ⟨bh, 0, none⟩), .int .i64 n, .int .i64 addr] w (MLoad w bh bp bf G h (hLoad h n addr)) := by
  have HMM : Hid (HM w bh bp bf G h) := m
  unfold hLoad
  by_cases h0 : 0 < hWho h n
  · rw [if_pos h0]
    have HG : Hid _ := guest_no m n h0
    have HE : Hid _ := errV_who h0
    clear m hi h0
    go_enter Tryz.func55, Tryz.ntmps55
    go_wp2_with fail
    refine Calls.mono HG.out ?_
    rintro e w1 ⟨rfl, hu⟩
    go_wp2_with fail
    go_ret2
    exact ⟨by rw [HE.out]; first | done | rfl, HMM.out.same hu, MRead.no _ hu⟩
  · rw [if_neg h0]
    obtain ⟨k, x, rfl, hk, hx, hat⟩ := hWho_zero (show hWho h n = 0 by have := hWho_le (h := h) n; omega)
    rw [hat, Int.toNat_natCast]
    have HG : Hid _ := guest_yes m hk hx
    have HX : Hid (h.g k = some x) := hx
    have HS : Hid (∀ w1, Upd (fun _ => False) w w1 → Calls Tryz.prog 78 #[.pointer (some ⟨(G k).g, 0, none⟩), .int .i64 addr] w1 (LPost w1 (G k).g bp bf (G k).l (G k).c (gLoad h.s x addr) (oth h k) (W + 1))) := fun w1 hu => ((m.same hu).gg hi hx).load addr hW
    clear m hi h0 hx hat
    revert HS
    unfold LPost MLoad
    generalize gLoad h.s x addr = r
    obtain ⟨⟨r1, r2⟩, s2, x2⟩ := r
    simp only
    generalize errV r2 = ev
    intro HS
    go_enter Tryz.func55, Tryz.ntmps55
    go_wp2_with fail
    refine Calls.mono HG.out ?_
    rintro e w1 ⟨rfl, hu⟩
    have HM1 : Hid (HM w1 bh bp bf G h) := HMM.out.same hu
    go_wp2_with fail
    refine Calls.mono (HS.out w1 hu) ?_
    rintro e w2 ⟨rfl, hg2, hu2⟩
    have HM2 : Hid _ := HM1.out.act HX.out hg2 hu2
    have HU2 : Hid (Upd (Own bh bp bf G h) w w2) := (MRead.no _ hu).trans (hu2.wide (fun k hk => gft_own HX.out hk)) (fun _ _ f => f)
    clear hg2 hu2 HS
    go_wp2_with fail
    go_ret2
    exact ⟨rfl, HM2.out, HU2.out⟩
/-- The guest and the page of a place. -/
theorem at_any (w : World) (k : Nat) (hk : k < 64) : Calls Tryz.prog 79 #[.int .i64 (k : Int)] w fun e w' => e = .returned (.tuple #[.int .i64 ((k / 16 : Nat) : Int), .int .i64 ((k % 16 : Nat) : Int)]) ∧ Upd (fun _ => False) w w' := by
  have w1 : IntKind.i64.wrap ((k : Int) / 16) = (k : Int) / 16 := by rw [IntKind.wrap_i64]; omega
  go_enter Tryz.func79, Tryz.ntmps79
  go_wp2_with fail
  go_ret2
  exact ⟨by go_num, Upd.refl _ _⟩
end Go.Proofs.YtadpibcgjgcjhabGreatDoor
