/- Package guest: the table is read. -/
import Derived.Test.YtadpibcgjgcjhabGreatDoorGgE
namespace Go.Proofs.YtadpibcgjgcjhabGreatDoor
open Go.ChangeShapes Go.WideShapes Go.ChangeAt Go.RowKit
set_option maxRecDepth 100000
attribute [local go_sem ↓] Go.wp_at_zero Go.wp_at_succ
variable {w w' : World} {bg bp bf bl bc : Nat} {s : Pl} {g : Gs} {b : Mp} {W : Int}

theorem touch_used {a : Mp} (h : Inv s a b) (n : Int) (wt : Bool) (he : (touchR s a n wt).1.2.2 = 0) : (touchR s a n wt).2.1.used (touchR s a n wt).1.1 = true := by
  obtain ⟨_, _, ho, ht, hf⟩ := touch_frame h n wt he
  obtain ⟨q0, q1⟩ := (onB_iff n).1 ho
  rw [← hf]
  exact (h.touch n wt).used (by omega) ht
theorem get_used {f : Int} (hu : s.used f = true) {k : Nat} (hk : k < 16) : s.get f (k : Int) = (s.byt f.toNat k, 0) := by
  unfold Pl.get
  rw [if_neg (by omega), if_pos hu]
  simp
theorem errV_no {code : Int} (h : code ≠ 0) : errV code = .iface 37 (.int .i64 code) := by simp [errV, h]
/-- What a table's byte says, by its bits. -/
theorem bits_all : ∀ k : Fin 256, (bits .and .u8 (k.val : Int) 128 == 0) = decide (k.val < 128) ∧ bits .and .u8 (k.val : Int) 15 = ((k.val % 16 : Nat) : Int) ∧ (bits .and .u8 (k.val : Int) 64 != 0) = (k.val / 64 % 2 == 1) := by decide +kernel
theorem byte_says (v : Int) (h0 : 0 ≤ v) (h1 : v ≤ 255) : (bits .and .u8 v 128 == 0) = decide (v < 128) ∧ bits .and .u8 v 15 = v % 16 ∧ (bits .and .u8 v 64 != 0) = (v / 64 % 2 == 1) := by
  obtain ⟨k, rfl⟩ := Int.eq_ofNat_of_zero_le h0
  obtain ⟨a1, a2, a3⟩ := bits_all ⟨k, by omega⟩
  simp only at a1 a2 a3
  refine ⟨?_, ?_, ?_⟩
  · rw [a1, Bool.eq_iff_iff, decide_eq_true_iff, decide_eq_true_iff]; omega
  · rw [a2]; omega
  · rw [a3]
    have : ((k : Int) / 64 % 2 == 1) = (k / 64 % 2 == 1) := by
      rw [Bool.eq_iff_iff, beq_iff_eq, beq_iff_eq]; omega
    rw [this]
/-- A result's box, zero yet. -/
structure ZeroAt (w : World) (q : Nat) : Prop where
  at0 : EnAt w q en0
  fz : ∀ o, w.frozen? ⟨q, o, none⟩ = false
theorem ZeroAt.new (w : World) : ZeroAt (w.alloc (.cells #[.int .i64 0, .int .i64 0, .int .i64 0, .bool false, .bool false, .bool false, .int .i64 0] 151)) w.heap.size :=
  ⟨EnAt.new w _ en0, fun _ => World.frozen?_alloc_new _ _ _ _⟩
theorem ZeroAt.lt {q : Nat} (h : ZeroAt w q) : q < w.heap.size := World.block_lt_of_cell? w _ (show w.cell? ⟨q, 0, none⟩ = some (.int .i64 0) from h.at0 0 (by omega))
theorem ZeroAt.upd {S : Nat → Prop} {q : Nat} (h : ZeroAt w q) (u : Upd S w w') (hq : ¬ S q) : ZeroAt w' q :=
  ⟨h.at0.upd u hq, fun o => by rw [World.frozen?_of_block (w := w) (u.block q h.lt hq)]; exact h.fz o⟩
theorem GG.walked {n : Int} (h : GG w bg bp bf bl bc s g b W) (hn : g.walks = n) : GG (w.setCell ⟨bg, 4, none⟩ (.int .i64 (n + 1))) bg bp bf bl bc s { g with walks := n + 1 } b (W + 1) := by
  have u := Upd.one w bg 4 (.int .i64 (n + 1))
  have ha := h.ap
  unfold GAp at ha
  have h0 := h.inv.w0
  have h1 := h.inv.w1
  exact ⟨h.ce.setWalks (n + 1), h.pool.upd u (by omega) (by omega) (h.pool.lt h.hn), h.lv.upd u (by omega), h.ca.upd u (by omega), h.ap, { h.inv with w0 := (show 0 ≤ n + 1 by omega), w1 := (show n + 1 ≤ W + 1 by omega) }, h.di, h.hn⟩
set_option maxHeartbeats 1000000 in
theorem GG.walk_err (h : GG w bg bp bf bl bc s g b W) (k : Nat) (he : (gTouch s g g.root false).1.2 ≠ 0) :
    Calls Tryz.prog 175 #[.pointer (some ⟨bg, 0, none⟩), .int .i64 k] w fun e w' => e = .returned (.tuple #[.agg #[.int .i64 0, .int .i64 0, .int .i64 0, .bool false, .bool false, .bool false, .int .i64 0], errV (gTouch s g g.root false).1.2]) ∧
      GG w' bg bp bf bl bc (gTouch s g g.root false).2.1 (gTouch s g g.root false).2.2 b W ∧ Upd (GFt bg bf bl bc) w w' := by
  have hu1 := (Upd.refl (fun _ => False) w).alloc (.cells #[.int .i64 0, .int .i64 0, .int .i64 0, .bool false, .bool false, .bool false, .int .i64 0] 151)
  have hG1 := h.same hu1
  have ht := hG1.touch g.root false
  have hz := ZeroAt.new w
  have c3 := hG1.ce.c3
  have l1 := h.ce.lt
  have l2 := h.lv.lt
  have l3 := h.ca.lt
  have l4 := h.pool.lt h.hn
  have HL5 : Hid (bp < w.heap.size) := by obtain ⟨cap, hc⟩ := h.pool.hd; exact World.block_lt_of_cell? w _ hc
  rw [errV_no he] at ht ⊢
  have HT : Hid _ := ht
  have HZ : Hid _ := hz
  have HU1 : Hid _ := hu1
  clear h hG1 ht hz hu1
  revert HT he
  generalize gTouch s g g.root false = t
  obtain ⟨⟨f, code⟩, s', g'⟩ := t
  intro he HT
  go_enter Tryz.func175, Tryz.ntmps175
  go_wp2_with fail
  refine Calls.mono HT.out ?_
  rintro e w2 ⟨rfl, hg2, hu2⟩
  generalize hq : w.heap.size = q at *
  have hz2 := HZ.out.upd hu2 (by unfold GFt; omega)
  have y0 : w2.cell? ⟨q, 0, none⟩ = some (.int .i64 0) := hz2.at0 0 (by omega)
  have y1 : w2.cell? ⟨q, 1, none⟩ = some (.int .i64 0) := hz2.at0 1 (by omega)
  have y2 : w2.cell? ⟨q, 2, none⟩ = some (.int .i64 0) := hz2.at0 2 (by omega)
  have y3 : w2.cell? ⟨q, 3, none⟩ = some (.bool false) := hz2.at0 3 (by omega)
  have y4 : w2.cell? ⟨q, 4, none⟩ = some (.bool false) := hz2.at0 4 (by omega)
  have y5 : w2.cell? ⟨q, 5, none⟩ = some (.bool false) := hz2.at0 5 (by omega)
  have y6 : w2.cell? ⟨q, 6, none⟩ = some (.int .i64 0) := hz2.at0 6 (by omega)
  have z0 := hz2.fz 0
  have z1 := hz2.fz 1
  have z2 := hz2.fz 2
  have z3 := hz2.fz 3
  have z4 := hz2.fz 4
  have z5 := hz2.fz 5
  have z6 := hz2.fz 6
  have HG2 : Hid (GG w2 bg bp bf bl bc s' g' b W) := hg2
  have HU2 : Hid (Upd (GFt bg bf bl bc) w w2) := (HU1.out.wide (T := GFt bg bf bl bc) (fun _ f => f.elim)).trans hu2 (fun _ _ e => e)
  have HQ : Hid (w.heap.size = q) := hq
  clear hz2 hg2 hu2 hq HT HZ HU1 c3
  go_wp2_with fail
  have hu3 := Upd.row w2 q 0 (enCells en0)
  exact bodyPost_ret (v := .tuple #[.agg #[.int .i64 0, .int .i64 0, .int .i64 0, .bool false, .bool false, .bool false, .int .i64 0], .iface 37 (.int .i64 code)]) (by simp [results, Tryz.results175, go_sem, y0, y1, y2, y3, y4, y5, y6]) rfl
    ⟨rfl, HG2.out.upd hu3 (by omega) (fun e => by have := HL5.out; omega) (by omega) (by omega) (by omega), HU2.out.trans hu3 (fun i hi e => by have := HQ.out; omega)⟩
set_option maxHeartbeats 1000000 in
theorem GG.walk_fault (h : GG w bg bp bf bl bc s g b W) (k : Nat) (hk : k < 16) (hW : W ≤ 1000000) (he : (gTouch s g g.root false).1.2 = 0) (hb : (gTouch s g g.root false).2.1.byt (gTouch s g g.root false).1.1.toNat k < 128) :
    Calls Tryz.prog 175 #[.pointer (some ⟨bg, 0, none⟩), .int .i64 k] w fun e w' => e = .returned (.tuple #[.agg #[.int .i64 0, .int .i64 0, .int .i64 0, .bool false, .bool false, .bool false, .int .i64 0], errV 5]) ∧
      GG w' bg bp bf bl bc (gTouch s g g.root false).2.1 { (gTouch s g g.root false).2.2 with walks := g.walks + 1 } b (W + 1) ∧ Upd (GFt bg bf bl bc) w w' := by
  have hu1 := (Upd.refl (fun _ => False) w).alloc (.cells #[.int .i64 0, .int .i64 0, .int .i64 0, .bool false, .bool false, .bool false, .int .i64 0] 151)
  have hG1 := h.same hu1
  have ht := hG1.touch g.root false
  have hz := ZeroAt.new w
  have c3 := hG1.ce.c3
  have l1 := h.ce.lt
  have l2 := h.lv.lt
  have l3 := h.ca.lt
  have l4 := h.pool.lt h.hn
  have HL5 : Hid (bp < w.heap.size) := by obtain ⟨cap, hc⟩ := h.pool.hd; exact World.block_lt_of_cell? w _ hc
  rw [he, errV_zero] at ht
  rw [errV_no (show (5 : Int) ≠ 0 by omega)]
  have hus : (gTouch s g g.root false).2.1.used (gTouch s g g.root false).1.1 = true := touch_used h.inv.inv g.root false he
  have hgw : (gTouch s g g.root false).2.2.walks = g.walks := rfl
  have hby := (h.inv.byt.touch g.m g.root false) (gTouch s g g.root false).1.1.toNat k
  have hw0 := h.inv.w0
  have hw1 := h.inv.w1
  have hwr : IntKind.i64.wrap (g.walks + 1) = g.walks + 1 := by rw [IntKind.wrap_i64]; omega
  have hbb := byte_says ((gTouch s g g.root false).2.1.byt (gTouch s g g.root false).1.1.toNat k) hby.1 hby.2
  have HT : Hid _ := ht
  have HZ : Hid _ := hz
  have HU1 : Hid _ := hu1
  clear h hG1 ht hz hu1
  revert HT he hb hus hgw hby hbb
  generalize gTouch s g g.root false = t
  obtain ⟨⟨f, code⟩, s', g'⟩ := t
  intro he hb hus hgw hby hbb HT
  have hget := get_used hus hk
  simp only at he hb hus hgw hby hbb hget
  generalize hbv : s'.byt f.toNat k = bv at *
  have b1 : (bits .and .u8 bv 128 == 0) = true := by rw [hbb.1]; simpa using hb
  have HGT : Hid _ := hget
  clear hbb hget hbv hus
  go_enter Tryz.func175, Tryz.ntmps175
  go_wp2_with fail
  refine Calls.mono HT.out ?_
  rintro e w2 ⟨rfl, hg2, hu2⟩
  generalize hq : w.heap.size = q at *
  have hz2 := HZ.out.upd hu2 (by unfold GFt; omega)
  have hz3 := hz2.upd (Upd.one w2 bg 4 (.int .i64 (g.walks + 1))) (by omega)
  have y0 : (w2.setCell ⟨bg, 4, none⟩ (.int .i64 (g.walks + 1))).cell? ⟨q, 0, none⟩ = some (.int .i64 0) := hz3.at0 0 (by omega)
  have y1 : (w2.setCell ⟨bg, 4, none⟩ (.int .i64 (g.walks + 1))).cell? ⟨q, 1, none⟩ = some (.int .i64 0) := hz3.at0 1 (by omega)
  have y2 : (w2.setCell ⟨bg, 4, none⟩ (.int .i64 (g.walks + 1))).cell? ⟨q, 2, none⟩ = some (.int .i64 0) := hz3.at0 2 (by omega)
  have y3 : (w2.setCell ⟨bg, 4, none⟩ (.int .i64 (g.walks + 1))).cell? ⟨q, 3, none⟩ = some (.bool false) := hz3.at0 3 (by omega)
  have y4 : (w2.setCell ⟨bg, 4, none⟩ (.int .i64 (g.walks + 1))).cell? ⟨q, 4, none⟩ = some (.bool false) := hz3.at0 4 (by omega)
  have y5 : (w2.setCell ⟨bg, 4, none⟩ (.int .i64 (g.walks + 1))).cell? ⟨q, 5, none⟩ = some (.bool false) := hz3.at0 5 (by omega)
  have y6 : (w2.setCell ⟨bg, 4, none⟩ (.int .i64 (g.walks + 1))).cell? ⟨q, 6, none⟩ = some (.int .i64 0) := hz3.at0 6 (by omega)
  have z0 := hz3.fz 0
  have z1 := hz3.fz 1
  have z2 := hz3.fz 2
  have z3 := hz3.fz 3
  have z4 := hz3.fz 4
  have z5 := hz3.fz 5
  have z6 := hz3.fz 6
  have d0 := hg2.ce.c0
  have d4 := hg2.ce.c4
  have dz := hg2.ce.fz 4
  rw [hgw] at d4
  have hge := get_any w2 bp bf f (k : Int) s' hg2.pool
  rw [HGT.out, errV_zero] at hge
  have HGE : Hid _ := hge
  have HG2 : Hid (GG w2 bg bp bf bl bc s' g' b W) := hg2
  have HU2 : Hid (Upd (GFt bg bf bl bc) w w2) := (HU1.out.wide (T := GFt bg bf bl bc) (fun _ f => f.elim)).trans hu2 (fun _ _ e => e)
  have HQ : Hid (w.heap.size = q) := hq
  have HGW : Hid _ := hgw
  clear hz2 hz3 hg2 hu2 hq HT HZ HU1 c3 hge hgw
  go_wp2_with fail
  refine Calls.mono HGE.out ?_
  rintro e w3 ⟨rfl, hw3⟩
  subst hw3
  go_wp2_with fail
  have hu4 := Upd.one w3 bg 4 (.int .i64 (g.walks + 1))
  have hu5 := Upd.row (w3.setCell ⟨bg, 4, none⟩ (.int .i64 (g.walks + 1))) q 0 (enCells en0)
  have hg4 := HG2.out.walked HGW.out
  exact bodyPost_ret (v := .tuple #[.agg #[.int .i64 0, .int .i64 0, .int .i64 0, .bool false, .bool false, .bool false, .int .i64 0], .iface 37 (.int .i64 5)]) (by simp [results, Tryz.results175, go_sem, y0, y1, y2, y3, y4, y5, y6]) rfl
    ⟨rfl, hg4.upd hu5 (by omega) (fun e => by have := HL5.out; omega) (by omega) (by omega) (by omega), (HU2.out.trans hu4 (fun i hi e => by unfold GFt; omega)).trans hu5 (fun i hi e => by have := HQ.out; omega)⟩
set_option maxHeartbeats 1000000 in
theorem GG.walk_ok (h : GG w bg bp bf bl bc s g b W) (k : Nat) (hk : k < 16) (hW : W ≤ 1000000) (he : (gTouch s g g.root false).1.2 = 0) (hb : (gTouch s g g.root false).2.1.byt (gTouch s g g.root false).1.1.toNat k < 128 → False) :
    Calls Tryz.prog 175 #[.pointer (some ⟨bg, 0, none⟩), .int .i64 k] w fun e w' => e = .returned (.tuple #[.agg #[.int .i64 g.root, .int .i64 k, .int .i64 ((gTouch s g g.root false).2.1.byt (gTouch s g g.root false).1.1.toNat k % 16), .bool ((gTouch s g g.root false).2.1.byt (gTouch s g g.root false).1.1.toNat k / 64 % 2 == 1), .bool false, .bool false, .int .i64 0], .nilIface]) ∧
      GG w' bg bp bf bl bc (gTouch s g g.root false).2.1 { (gTouch s g g.root false).2.2 with walks := g.walks + 1 } b (W + 1) ∧ Upd (GFt bg bf bl bc) w w' := by
  have hu1 := (Upd.refl (fun _ => False) w).alloc (.cells #[.int .i64 0, .int .i64 0, .int .i64 0, .bool false, .bool false, .bool false, .int .i64 0] 151)
  have hG1 := h.same hu1
  have ht := hG1.touch g.root false
  have hz := ZeroAt.new w
  have c3 := hG1.ce.c3
  have l1 := h.ce.lt
  have l2 := h.lv.lt
  have l3 := h.ca.lt
  have l4 := h.pool.lt h.hn
  have HL5 : Hid (bp < w.heap.size) := by obtain ⟨cap, hc⟩ := h.pool.hd; exact World.block_lt_of_cell? w _ hc
  rw [he, errV_zero] at ht
  have hgr : (gTouch s g g.root false).2.2.root = g.root := rfl
  have hus : (gTouch s g g.root false).2.1.used (gTouch s g g.root false).1.1 = true := touch_used h.inv.inv g.root false he
  have hgw : (gTouch s g g.root false).2.2.walks = g.walks := rfl
  have hby := (h.inv.byt.touch g.m g.root false) (gTouch s g g.root false).1.1.toNat k
  have hw0 := h.inv.w0
  have hw1 := h.inv.w1
  have hwr : IntKind.i64.wrap (g.walks + 1) = g.walks + 1 := by rw [IntKind.wrap_i64]; omega
  have hbb := byte_says ((gTouch s g g.root false).2.1.byt (gTouch s g g.root false).1.1.toNat k) hby.1 hby.2
  have HT : Hid _ := ht
  have HZ : Hid _ := hz
  have HU1 : Hid _ := hu1
  clear h hG1 ht hz hu1
  revert HT he hb hus hgw hby hbb hgr
  generalize gTouch s g g.root false = t
  obtain ⟨⟨f, code⟩, s', g'⟩ := t
  intro he hb hgr hus hgw hby hbb HT
  have hget := get_used hus hk
  simp only at he hb hus hgw hgr hby hbb hget
  generalize hbv : s'.byt f.toNat k = bv at *
  have b1 : (bits .and .u8 bv 128 == 0) = false := by rw [hbb.1]; simpa using hb
  have HBB : Hid (bits .and .u8 bv 15 = bv % 16 ∧ (bits .and .u8 bv 64 != 0) = (bv / 64 % 2 == 1)) := hbb.2
  have hwb : IntKind.i64.wrap (bits .and .u8 bv 15) = bits .and .u8 bv 15 := by rw [hbb.2.1, IntKind.wrap_i64]; omega
  have HGT : Hid _ := hget
  clear hbb hget hbv hus
  go_enter Tryz.func175, Tryz.ntmps175
  go_wp2_with fail
  refine Calls.mono HT.out ?_
  rintro e w2 ⟨rfl, hg2, hu2⟩
  generalize hq : w.heap.size = q at *
  have hz2 := HZ.out.upd hu2 (by unfold GFt; omega)
  have hz3 := hz2.upd (Upd.one w2 bg 4 (.int .i64 (g.walks + 1))) (by omega)
  have y0 : (w2.setCell ⟨bg, 4, none⟩ (.int .i64 (g.walks + 1))).cell? ⟨q, 0, none⟩ = some (.int .i64 0) := hz3.at0 0 (by omega)
  have y1 : (w2.setCell ⟨bg, 4, none⟩ (.int .i64 (g.walks + 1))).cell? ⟨q, 1, none⟩ = some (.int .i64 0) := hz3.at0 1 (by omega)
  have y2 : (w2.setCell ⟨bg, 4, none⟩ (.int .i64 (g.walks + 1))).cell? ⟨q, 2, none⟩ = some (.int .i64 0) := hz3.at0 2 (by omega)
  have y3 : (w2.setCell ⟨bg, 4, none⟩ (.int .i64 (g.walks + 1))).cell? ⟨q, 3, none⟩ = some (.bool false) := hz3.at0 3 (by omega)
  have y4 : (w2.setCell ⟨bg, 4, none⟩ (.int .i64 (g.walks + 1))).cell? ⟨q, 4, none⟩ = some (.bool false) := hz3.at0 4 (by omega)
  have y5 : (w2.setCell ⟨bg, 4, none⟩ (.int .i64 (g.walks + 1))).cell? ⟨q, 5, none⟩ = some (.bool false) := hz3.at0 5 (by omega)
  have y6 : (w2.setCell ⟨bg, 4, none⟩ (.int .i64 (g.walks + 1))).cell? ⟨q, 6, none⟩ = some (.int .i64 0) := hz3.at0 6 (by omega)
  have z0 := hz3.fz 0
  have z1 := hz3.fz 1
  have z2 := hz3.fz 2
  have z3 := hz3.fz 3
  have z4 := hz3.fz 4
  have z5 := hz3.fz 5
  have z6 := hz3.fz 6
  have d0 := hg2.ce.c0
  have d3 : (w2.setCell ⟨bg, 4, none⟩ (.int .i64 (g.walks + 1))).cell? ⟨bg, 3, none⟩ = some (.int .i64 g.root) := by rw [← hgr]; exact (hg2.ce.setWalks (g.walks + 1)).c3
  have d4 := hg2.ce.c4
  have dz := hg2.ce.fz 4
  rw [hgw] at d4
  have hge := get_any w2 bp bf f (k : Int) s' hg2.pool
  rw [HGT.out, errV_zero] at hge
  have HGE : Hid _ := hge
  have HG2 : Hid (GG w2 bg bp bf bl bc s' g' b W) := hg2
  have HU2 : Hid (Upd (GFt bg bf bl bc) w w2) := (HU1.out.wide (T := GFt bg bf bl bc) (fun _ f => f.elim)).trans hu2 (fun _ _ e => e)
  have HQ : Hid (w.heap.size = q) := hq
  have HGW : Hid _ := hgw
  clear hz2 hz3 hg2 hu2 hq HT HZ HU1 c3 hge hgw hgr hb
  go_wp2_with fail
  refine Calls.mono HGE.out ?_
  rintro e w3 ⟨rfl, hw3⟩
  subst hw3
  go_wp2_with fail
  have hu4 := Upd.one w3 bg 4 (.int .i64 (g.walks + 1))
  have hu5 := Upd.row (w3.setCell ⟨bg, 4, none⟩ (.int .i64 (g.walks + 1))) q 0 (enCells ⟨g.root, k, bits .and .u8 bv 15, bits .and .u8 bv 64 != 0, lf0⟩)
  have hg4 := HG2.out.walked HGW.out
  exact bodyPost_ret (v := .tuple #[.agg #[.int .i64 g.root, .int .i64 k, .int .i64 (bits .and .u8 bv 15), .bool (bits .and .u8 bv 64 != 0), .bool false, .bool false, .int .i64 0], .nilIface]) (by simp [results, Tryz.results175, go_sem, y0, y1, y2, y3, y4, y5, y6]) rfl
    ⟨by rw [HBB.out.1, HBB.out.2], hg4.upd hu5 (by omega) (fun e => by have := HL5.out; omega) (by omega) (by omega) (by omega), (HU2.out.trans hu4 (fun i hi e => by unfold GFt; omega)).trans hu5 (fun i hi e => by have := HQ.out; omega)⟩
end Go.Proofs.YtadpibcgjgcjhabGreatDoor
