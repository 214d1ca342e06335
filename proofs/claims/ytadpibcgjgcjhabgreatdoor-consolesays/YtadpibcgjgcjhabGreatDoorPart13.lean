/- Package guest: the table is read. -/
import Derived.Test.YtadpibcgjgcjhabGreatDoorPart12
namespace Go.Proofs.YtadpibcgjgcjhabGreatDoor
open Go.ChangeShapes Go.WideShapes Go.ChangeAt Go.RowKit
set_option maxRecDepth 100000
attribute [local go_sem ↓] Go.wp_at_zero Go.wp_at_succ
variable {w w' : World} {bg bp bf bl bc : Nat} {s : Pl} {g : Gs} {b : Mp} {W : Int}

theorem touch_used {a : Mp} (h : Inv s a b) (n : Int) (wt : Bool) (he : (touchR s a n wt).1.2.2 = 0) : (touchR s a n wt).2.1.used (touchR s a n wt).1.1 = true := by
  obtain ⟨_, _, ho, ht, hf⟩ := touch_frame h n wt he
  obtain ⟨q0, q1⟩ := (onB_iff n).1 ho
  rw [← hf]
  exact (h.touch n wt).used (by omega) ht
theorem get_used {f : Int} (hu : s.used f = true) {k : Nat} (hk : k < 16) : s.get f (k : Int) = (s.byt f.toNat k, 0) := by
  unfold Pl.get
  rw [if_neg (by omega), if_pos hu]
  simp
theorem errV_no {code : Int} (h : code ≠ 0) : errV code = .iface 37 (.int .i64 code) := by simp [errV, h]
/-- What a table's byte says, by its bits. -/
theorem bits_all : ∀ k : Fin 256, (bits .and .u8 (k.val : Int) 128 == 0) = decide (k.val < 128) ∧ bits .and .u8 (k.val : Int) 15 = ((k.val % 16 : Nat) : Int) ∧ (bits .and .u8 (k.val : Int) 64 != 0) = (k.val / 64 % 2 == 1) := by decide +kernel
theorem byte_says (v : Int) (h0 : 0 ≤ v) (h1 : v ≤ 255) : (bits .and .u8 v 128 == 0) = decide (v < 128) ∧ bits .and .u8 v 15 = v % 16 ∧ (bits .and .u8 v 64 != 0) = (v / 64 % 2 == 1) := by
  obtain ⟨k, rfl⟩ := Int.eq_ofNat_of_zero_le h0
  obtain ⟨a1, a2, a3⟩ := bits_all ⟨k, by omega⟩
  simp only at a1 a2 a3
  refine ⟨?_, ?_, ?_⟩
  · rw [a1, Bool.eq_iff_iff, decide_eq_true_iff, decide_eq_true_iff]; omega
  · rw [a2]; omega
  · rw [a3]
    have : ((k : Int) / 64 % 2 == 1) = (k / 64 % 2 == 1) := by
      rw [Bool.eq_iff_iff, beq_iff_eq, beq_iff_eq]; omega
    rw [this]
/-- A result's box, zero yet. -/
structure ZeroAt (w : World) (q : Nat) : Prop where
  at0 : EnAt w q en0
  fz : ∀ o, w.frozen? ⟨q, o, none⟩ = false
theorem ZeroAt.new (w : World) : ZeroAt (w.alloc (.cells #[.int .i64 0, .int .i64 0, .int .i64 0, .bool false, .bool false, .bool false, .int .i64 0] 151)) w.heap.size :=
  ⟨EnAt.new w _ en0, fun _ => World.frozen?_alloc_new _ _ _ _⟩
theorem ZeroAt.lt {q : Nat} (h : ZeroAt w q) : q < w.heap.size := World.block_lt_of_cell? w _ (show w.cell? ⟨q, 0, none⟩ = some (.int .i64 0) from h.at0 0 (by omega))
theorem ZeroAt.upd {S : Nat → Prop} {q : Nat} (h : ZeroAt w q) (u : Upd S w w') (hq : ¬ S q) : ZeroAt w' q :=
  ⟨h.at0.upd u hq, fun o => by rw [World.frozen?_of_block (w := w) (u.block q h.lt hq)]; exact h.fz o⟩
theorem GG.walked {n : Int} (h : GG w bg bp bf bl bc s g b W) (hn : g.walks = n) : GG (w.setCell ⟨bg, 4, none⟩ (.int .i64 (n + 1))) bg bp bf bl bc s { g with walks := n + 1 } b (W + 1) := by
  have u := Upd.one w bg 4 (.int .i64 (n + 1))
  have ha := h.ap
  unfold GAp at ha
  have h0 := h.inv.w0
  have h1 := h.inv.w1
  exact ⟨h.ce.setWalks (n + 1), h.pool.upd u (by omega) (by omega) (h.pool.lt h.hn), h.lv.upd u (by omega), h.ca.upd u (by omega), h.ap, { h.inv with w0 := (show 0 ≤ n + 1 by omega), w1 := (show n + 1 ≤ W + 1 by omega) }, h.di, h.hn⟩
set_option maxHeartbeats 1000000 in
theorem GG.walk_err (h : GG w bg bp bf bl bc s g b W) (k : Nat) (he : (gTouch s g g.root false).1.2 ≠ 0) :
    Calls Tryz.prog 175 #[.pointer (some ⟨bg, 0, none⟩), .int .i64 k] w fun e w' => e = .returned (.tuple #[.agg #[.int .i64 0, .int .i64 0, .int .i64 0, .bool false, .bool false, .bool false, .int .i64 0], errV (gTouch s g g.root false).1.2]) ∧
      GG w' bg bp bf bl bc (gTouch s g g.root false).2.1 (gTouch s g g.root false).2.2 b W ∧ Upd (GFt bg bf bl bc) w w' := by
  have hu1 := (Upd.refl (fun _ => False) w).alloc (.cells #[.int .i64 0, .int .i64 0, .int .i64 0, .bool false, .bool false, .bool false, .int .i64 0] 151)
  have hG1 := h.same hu1
  have ht := hG1.touch g.root false
  have hz := ZeroAt.new w
  have c3 := hG1.ce.c3
  have l1 := h.ce.lt
  have l2 := h.lv.lt
  have l3 := h.ca.lt
  have l4 := h.pool.lt h.hn
  have HL5 : Hid (bp < w.heap.size) := by obtain ⟨cap, hc⟩ := h.pool.hd; exact World.block_lt_of_cell? w _ hc
  rw [errV_no he] at ht ⊢
  have HT : Hid _ := ht
  have HZ : Hid _ := hz
  have HU1 : Hid _ := hu1
  clear h hG1 ht hz hu1
  revert HT he
  generalize gTouch s g g.root false = t
  obtain ⟨⟨f, code⟩, s', g'⟩ := t
  intro he HT
  go_enter Tryz.func175, Tryz.ntmps175
  go_wp2_with fail
  refine Calls.mono HT.out ?_
  rintro e w2 ⟨rfl, hg2, hu2⟩
  generalize hq : w.heap.size = q at *
  have hz2 := HZ.out.upd hu2 (by unfold GFt; omega)
  have y0 : w2.cell? ⟨q, 0, none⟩ = some (.int .i64 0) := hz2.at0 0 (by omega)
  have y1 : w2.cell? ⟨q, 1, none⟩ = some (.int .i64 0) := hz2.at0 1 (by omega)
  have y2 : w2.cell? ⟨q, 2, none⟩ = some (.int .i64 0) := hz2.at0 2 (by omega)
  have y3 : w2.cell? ⟨q, 3, none⟩ = some (.bool false) := hz2.at0 3 (by omega)
  have y4 : w2.cell? ⟨q, 4, none⟩ = some (.bool false) := hz2.at0 4 (by omega)
  have y5 : w2.cell? ⟨q, 5, none⟩ = some (.bool false) := hz2.at0 5 (by omega)
  have y6 : w2.cell? ⟨q, 6, none⟩ = some (.int .i64 0) := hz2.at0 6 (by omega)
  have z0 := hz2.fz 0
  have z1 := hz2.fz 1
  have z2 := hz2.fz 2
  have z3 := hz2.fz 3
  have z4 := hz2.fz 4
  have z5 := hz2.fz 5
  have z6 := hz2.fz 6
  have HG2 : Hid (GG w2 bg bp bf bl bc s' g' b W) := hg2
  have HU2 : Hid (Upd (GFt bg bf bl bc) w w2) := (HU1.out.wide (T := GFt bg bf bl bc) (fun _ f => f.elim)).trans hu2 (fun _ _ e => e)
  have HQ : Hid (w.heap.size = q) := hq
  clear hz2 hg2 hu2 hq HT HZ HU1 c3
  go_wp2_with fail
  have hu3 := Upd.row w2 q 0 (enCells en0)
  exact bodyPost_ret (v := .tuple #[.agg #[.int .i64 0, .int .i64 0, .int .i64 0, .bool false, .bool false, .bool false, .int .i64 0], .iface 37 (.int .i64 code)]) (by simp [results, Tryz.results175, go_sem, y0, y1, y2, y3, y4, y5, y6]) rfl
    ⟨rfl, HG2.out.upd hu3 (by omega) (fun e => by have := HL5.out; omega) (by omega) (by omega) (by omega), HU2.out.trans hu3 (fun i hi e => by have := HQ.out; omega)⟩
set_option maxHeartbeats 1000000 in
theorem GG.walk_fault (h : GG w bg bp bf bl bc s g b W) (k : Nat) (hk : k < 16) (hW : W ≤ 1000000) (he : (gTouch s g g.root false).1.2 = 0) (hb : (gTouch s g g.root false).2.1.byt (gTouch s g g.root false).1.1.toNat k < 128) :
    Calls Tryz.prog 175 #[.pointer (some ⟨bg, 0, none⟩), .int .i64 k] w fun e w' => e = .returned (.tuple #[.agg #[.int .i64 0, .int .i64 0, .int .i64 0, .bool false, .bool false, .bool false, .int .i64 0], errV 5]) ∧
      GG w' bg bp bf bl bc (gTouch s g g.root false).2.1 { (gTouch s g g.root false).2.2 with walks := g.walks + 1 } b (W + 1) ∧ Upd (GFt bg bf bl bc) w w' := by
  have hu1 := (Upd.refl (fun _ => False) w).alloc (.cells #[.int .i64 0, .int .i64 0, .int .i64 0, .bool false, .bool false, .bool false, .int .i64 0] 151)
  have hG1 := h.same hu1
  have ht := hG1.touch g.root false
  have hz := ZeroAt.new w
  have c3 := hG1.ce.c3
  have l1 := h.ce.lt
  have l2 := h.lv.lt
  have l3 := h.ca.lt
  have l4 := h.pool.lt h.hn
  have HL5 : Hid (bp < w.heap.size) := by obtain ⟨cap, hc⟩ := h.pool.hd; exact World.block_lt_of_cell? w _ hc
  rw [he, errV_zero] at ht
  rw [errV_no (show (5 : Int) ≠ 0 by omega)]
  have hus : (gTouch s g g.root false).2.1.used (gTouch s g g.root false).1.1 = true := touch_used h.inv.inv g.root false he
  have hgw : (gTouch s g g.root false).2.2.walks = g.walks := rfl
  have hby := (h.inv.byt.touch g.m g.root false) (gTouch s g g.root false).1.1.toNat k
  have hw0 := h.inv.w0
  have hw1 := h.inv.w1
  have hwr : IntKind.i64.wrap (g.walks + 1) = g.walks + 1 := by rw [IntKind.wrap_i64]; omega
  have hbb := byte_says ((gTouch s g g.root false).2.1.byt (gTouch s g g.root false).1.1.toNat k) hby.1 hby.2
  have HT : Hid _ := ht
  have HZ : Hid _ := hz
  have HU1 : Hid _ := hu1
  clear h hG1 ht hz hu1
  revert HT he hb hus hgw hby hbb
  generalize gTouch s g g.root false = t
  obtain ⟨⟨f, code⟩, s', g'⟩ := t
  intro he hb hus hgw hby hbb HT
  have hget := get_used hus hk
  simp only at he hb hus hgw hby hbb hget
  generalize hbv : s'.byt f.toNat k = bv at *
  have b1 : (bits .and .u8 bv 128 == 0) = true := by rw [hbb.1]; simpa using hb
  have HGT : Hid _ := hget
  clear hbb hget hbv hus
  go_enter Tryz.func175, Tryz.ntmps175
  go_wp2_with fail
  refine Calls.mono HT.out ?_
  rintro e w2 ⟨rfl, hg2, hu2⟩
  generalize hq : w.heap.size = q at *
  have hz2 := HZ.out.upd hu2 (by unfold GFt; omega)
  have hz3 := hz2.upd (Upd.one w2 bg 4 (.int .i64 (g.walks + 1))) (by omega)
  have y0 : (w2.setCell ⟨bg, 4, none⟩ (.int .i64 (g.walks + 1))).cell? ⟨q, 0, none⟩ = some (.int .i64 0) := hz3.at0 0 (by omega)
  have y1 : (w2.setCell ⟨bg, 4, none⟩ (.int .i64 (g.walks + 1))).cell? ⟨q, 1, none⟩ = some (.int .i64 0) := hz3.at0 1 (by omega)
  have y2 : (w2.setCell ⟨bg, 4, none⟩ (.int .i64 (g.walks + 1))).cell? ⟨q, 2, none⟩ = some (.int .i64 0) := hz3.at0 2 (by omega)
  have y3 : (w2.setCell ⟨bg, 4, none⟩ (.int .i64 (g.walks + 1))).cell? ⟨q, 3, none⟩ = some (.bool false) := hz3.at0 3 (by omega)
  have y4 : (w2.setCell ⟨bg, 4, none⟩ (.int .i64 (g.walks + 1))).cell? ⟨q, 4, none⟩ = some (.bool false) := hz3.at0 4 (by omega)
  have y5 : (w2.setCell ⟨bg, 4, none⟩ (.int .i64 (g.walks + 1))).cell? ⟨q, 5, none⟩ = some (.bool false) := hz3.at0 5 (by omega)
  have y6 : (w2.setCell ⟨bg, 4, none⟩ (.int .i64 (g.walks + 1))).cell? ⟨q, 6, none⟩ = some (.int .i64 0) := hz3.at0 6 (by omega)
  have z0 := hz3.fz 0
  have z1 := hz3.fz 1
  have z2 := hz3.fz 2
  have z3 := hz3.fz 3
  have z4 := hz3.fz 4
  have z5 := hz3.fz 5
  have z6 := hz3.fz 6
  have d0 := hg2.ce.c0
  have d4 := hg2.ce.c4
  have dz := hg2.ce.fz 4
  rw [hgw] at d4
  have hge := get_any w2 bp bf f (k : Int) s' hg2.pool
  rw [HGT.out, errV_zero] at hge
  have HGE : Hid _ := hge
  have HG2 : Hid (GG w2 bg bp bf bl bc s' g' b W) := hg2
  have HU2 : Hid (Upd (GFt bg bf bl bc) w w2) := (HU1.out.wide (T := GFt bg bf bl bc) (fun _ f => f.elim)).trans hu2 (fun _ _ e => e)
  have HQ : Hid (w.heap.size = q) := hq
  have HGW : Hid _ := hgw
  clear hz2 hz3 hg2 hu2 hq HT HZ HU1 c3 hge hgw
  go_wp2_with fail
  refine Calls.mono HGE.out ?_
  rintro e w3 ⟨rfl, hw3⟩
  subst hw3
  go_wp2_with fail
  have hu4 := Upd.one w3 bg 4 (.int .i64 (g.walks + 1))
  have hu5 := Upd.row (w3.setCell ⟨bg, 4, none⟩ (.int .i64 (g.walks + 1))) q 0 (enCells en0)
  have hg4 := HG2.out.walked HGW.out
  exact bodyPost_ret (v := .tuple #[.agg #[.int .i64 0, .int .i64 0, .int .i64 0, .bool false, .bool false, .bool false, .int .i64 0], .iface 37 (.int .i64 5)]) (by simp [results, Tryz.results175, go_sem, y0, y1, y2, y3, y4, y5, y6]) rfl
    ⟨rfl, hg4.upd hu5 (by omega) (fun e => by have := HL5.out; omega) (by omega) (by omega) (by omega), (HU2.out.trans hu4 (fun i hi e => by unfold GFt; omega)).trans hu5 (fun i hi e => by have := HQ.out; omega)⟩
set_option maxHeartbeats 1000000 in
theorem GG.walk_ok (h : GG w bg bp bf bl bc s g b W) (k : Nat) (hk : k < 16) (hW : W ≤ 1000000) (he : (gTouch s g g.root false).1.2 = 0) (hb : (gTouch s g g.root false).2.1.byt (gTouch s g g.root false).1.1.toNat k < 128 → False) :
    Calls Tryz.prog 175 #[.pointer (some ⟨bg, 0, none⟩), .int .i64 k] w fun e w' => e = .returned (.tuple #[.agg #[.int .i64 g.root, .int .i64 k, .int .i64 ((gTouch s g g.root false).2.1.byt (gTouch s g g.root false).1.1.toNat k % 16), .bool ((gTouch s g g.root false).2.1.byt (gTouch s g g.root false).1.1.toNat k / 64 % 2 == 1), .bool false, .bool false, .int .i64 0], .nilIface]) ∧
      GG w' bg bp bf bl bc (gTouch s g g.root false).2.1 { (gTouch s g g.root false).2.2 with walks := g.walks + 1 } b (W + 1) ∧ Upd (GFt bg bf bl bc) w w' := by
  have hu1 := (Upd.refl (fun _ => False) w).alloc (.cells #[.int .i64 0, .int .i64 0, .int .i64 0, .bool false, .bool false, .bool false, .int .i64 0] 151)
  have hG1 := h.same hu1
  have ht := hG1.touch g.root false
  have hz := ZeroAt.new w
  have c3 := hG1.ce.c3
  have l1 := h.ce.lt
  have l2 := h.lv.lt
  have l3 := h.ca.lt
  have l4 := h.pool.lt h.hn
  have HL5 : Hid (bp < w.heap.size) := by obtain ⟨cap, hc⟩ := h.pool.hd; exact World.block_lt_of_cell? w _ hc
  rw [he, errV_zero] at ht
  have hgr : (gTouch s g g.root false).2.2.root = g.root := rfl
  have hus : (gTouch s g g.root false).2.1.used (gTouch s g g.root false).1.1 = true := touch_used h.inv.inv g.root false he
  have hgw : (gTouch s g g.root false).2.2.walks = g.walks := rfl
  have hby := (h.inv.byt.touch g.m g.root false) (gTouch s g g.root false).1.1.toNat k
  have hw0 := h.inv.w0
  have hw1 := h.inv.w1
  have hwr : IntKind.i64.wrap (g.walks + 1) = g.walks + 1 := by rw [IntKind.wrap_i64]; omega
  have hbb := byte_says ((gTouch s g g.root false).2.1.byt (gTouch s g g.root false).1.1.toNat k) hby.1 hby.2
  have HT : Hid _ := ht
  have HZ : Hid _ := hz
  have HU1 : Hid _ := hu1
  clear h hG1 ht hz hu1
  revert HT he hb hus hgw hby hbb hgr
  generalize gTouch s g g.root false = t
  obtain ⟨⟨f, code⟩, s', g'⟩ := t
  intro he hb hgr hus hgw hby hbb HT
  have hget := get_used hus hk
  simp only at he hb hus hgw hgr hby hbb hget
  generalize hbv : s'.byt f.toNat k = bv at *
  have b1 : (bits .and .u8 bv 128 == 0) = false := by rw [hbb.1]; simpa using hb
  have HBB : Hid (bits .and .u8 bv 15 = bv % 16 ∧ (bits .and .u8 bv 64 != 0) = (bv / 64 % 2 == 1)) := hbb.2
  have hwb : IntKind.i64.wrap (bits .and .u8 bv 15) = bits .and .u8 bv 15 := by rw [hbb.2.1, IntKind.wrap_i64]; omega
  have HGT : Hid _ := hget
  clear hbb hget hbv hus
  go_enter Tryz.func175, Tryz.ntmps175
  go_wp2_with fail
  refine Calls.mono HT.out ?_
  rintro e w2 ⟨rfl, hg2, hu2⟩
  generalize hq : w.heap.size = q at *
  have hz2 := HZ.out.upd hu2 (by unfold GFt; omega)
  have hz3 := hz2.upd (Upd.one w2 bg 4 (.int .i64 (g.walks + 1))) (by omega)
  have y0 : (w2.setCell ⟨bg, 4, none⟩ (.int .i64 (g.walks + 1))).cell? ⟨q, 0, none⟩ = some (.int .i64 0) := hz3.at0 0 (by omega)
  have y1 : (w2.setCell ⟨bg, 4, none⟩ (.int .i64 (g.walks + 1))).cell? ⟨q, 1, none⟩ = some (.int .i64 0) := hz3.at0 1 (by omega)
  have y2 : (w2.setCell ⟨bg, 4, none⟩ (.int .i64 (g.walks + 1))).cell? ⟨q, 2, none⟩ = some (.int .i64 0) := hz3.at0 2 (by omega)
  have y3 : (w2.setCell ⟨bg, 4, none⟩ (.int .i64 (g.walks + 1))).cell? ⟨q, 3, none⟩ = some (.bool false) := hz3.at0 3 (by omega)
  have y4 : (w2.setCell ⟨bg, 4, none⟩ (.int .i64 (g.walks + 1))).cell? ⟨q, 4, none⟩ = some (.bool false) := hz3.at0 4 (by omega)
  have y5 : (w2.setCell ⟨bg, 4, none⟩ (.int .i64 (g.walks + 1))).cell? ⟨q, 5, none⟩ = some (.bool false) := hz3.at0 5 (by omega)
  have y6 : (w2.setCell ⟨bg, 4, none⟩ (.int .i64 (g.walks + 1))).cell? ⟨q, 6, none⟩ = some (.int .i64 0) := hz3.at0 6 (by omega)
  have z0 := hz3.fz 0
  have z1 := hz3.fz 1
  have z2 := hz3.fz 2
  have z3 := hz3.fz 3
  have z4 := hz3.fz 4
  have z5 := hz3.fz 5
  have z6 := hz3.fz 6
  have d0 := hg2.ce.c0
  have d3 : (w2.setCell ⟨bg, 4, none⟩ (.int .i64 (g.walks + 1))).cell? ⟨bg, 3, none⟩ = some (.int .i64 g.root) := by rw [← hgr]; exact (hg2.ce.setWalks (g.walks + 1)).c3
  have d4 := hg2.ce.c4
  have dz := hg2.ce.fz 4
  rw [hgw] at d4
  have hge := get_any w2 bp bf f (k : Int) s' hg2.pool
  rw [HGT.out, errV_zero] at hge
  have HGE : Hid _ := hge
  have HG2 : Hid (GG w2 bg bp bf bl bc s' g' b W) := hg2
  have HU2 : Hid (Upd (GFt bg bf bl bc) w w2) := (HU1.out.wide (T := GFt bg bf bl bc) (fun _ f => f.elim)).trans hu2 (fun _ _ e => e)
  have HQ : Hid (w.heap.size = q) := hq
  have HGW : Hid _ := hgw
  clear hz2 hz3 hg2 hu2 hq HT HZ HU1 c3 hge hgw hgr hb
  go_wp2_with fail
  refine Calls.mono HGE.out ?_
  rintro e w3 ⟨rfl, hw3⟩
  subst hw3
  go_wp2_with fail
  have hu4 := Upd.one w3 bg 4 (.int .i64 (g.walks + 1))
  have hu5 := Upd.row (w3.setCell ⟨bg, 4, none⟩ (.int .i64 (g.walks + 1))) q 0 (enCells ⟨g.root, k, bits .and .u8 bv 15, bits .and .u8 bv 64 != 0, lf0⟩)
  have hg4 := HG2.out.walked HGW.out
  exact bodyPost_ret (v := .tuple #[.agg #[.int .i64 g.root, .int .i64 k, .int .i64 (bits .and .u8 bv 15), .bool (bits .and .u8 bv 64 != 0), .bool false, .bool false, .int .i64 0], .nilIface]) (by simp [results, Tryz.results175, go_sem, y0, y1, y2, y3, y4, y5, y6]) rfl
    ⟨by rw [HBB.out.1, HBB.out.2], hg4.upd hu5 (by omega) (fun e => by have := HL5.out; omega) (by omega) (by omega) (by omega), (HU2.out.trans hu4 (fun i hi e => by unfold GFt; omega)).trans hu5 (fun i hi e => by have := HQ.out; omega)⟩
end Go.Proofs.YtadpibcgjgcjhabGreatDoor
/- Package guest: what is remembered is asked first. -/
namespace Go.Proofs.YtadpibcgjgcjhabGreatDoor
open Go.ChangeShapes Go.WideShapes Go.ChangeAt Go.RowKit
set_option maxRecDepth 1000000
attribute [local go_sem ↓] Go.wp_at_zero Go.wp_at_succ

/-- The region of that number. -/
def rgnAt (n : Nat) : Code → Option Code
  | .region i ops b => if i = n then some (.region i ops b) else none
  | .block _ c => rgnAt n c
  | .seq a b => match rgnAt n a with
    | some c => some c
    | none => rgnAt n b
  | .cond _ a b => match rgnAt n a with
    | some c => some c
    | none => rgnAt n b
  | .loop c => rgnAt n c
  | _ => none
noncomputable def folRg1 : Code := (Tryz.f140.body.bind (rgnAt 1)).getD .skip
theorem frozen_keep {S : Nat → Prop} {w w' : World} {q : Nat} (u : Upd S w w') (hq : q < w.heap.size) (hS : ¬ S q) (h : ∀ o, w.frozen? ⟨q, o, none⟩ = false) : ∀ o, w'.frozen? ⟨q, o, none⟩ = false := fun o => by rw [World.frozen?_of_block (w := w) (u.block q hq hS)]; exact h o
theorem EnAt.seven {w : World} {q : Nat} {x : En} (h : EnAt w q x) (hz : ∀ o, w.frozen? ⟨q, o, none⟩ = false) (y : En) : EnAt (w.setCells q 0 (enCells y)) q y := fun j hj => by
  obtain ⟨v, hv⟩ := enCells_some y j hj
  have := World.rangeAt_setCells_same w q 0 (enCells y) (fun o ho => ⟨by
    have ho7 : o < 7 := ho
    obtain ⟨u, hu⟩ := enCells_some x o ho7
    rw [Nat.zero_add, h o ho7, hu]; rfl, hz _⟩) j v hv
  rw [Nat.zero_add] at this
  rw [this, hv]
theorem EnAt.seven' {w : World} {q : Nat} {x : En} (h : EnAt w q x) (hz : ∀ o, w.frozen? ⟨q, o, none⟩ = false) (y : En) : EnAt (((((((w.setCell ⟨q, 0, none⟩ (.int .i64 y.root)).setCell ⟨q, 1, none⟩ (.int .i64 y.page)).setCell ⟨q, 2, none⟩ (.int .i64 y.dest)).setCell ⟨q, 3, none⟩ (.bool y.may)).setCell ⟨q, 4, none⟩ (.bool y.lf.there)).setCell ⟨q, 5, none⟩ (.bool y.lf.wr)).setCell ⟨q, 6, none⟩ (.int .i64 y.lf.fr)) q y := h.seven hz y
theorem Upd.seven' (w : World) (q : Nat) (y : En) : Upd (fun k => k = q) w (((((((w.setCell ⟨q, 0, none⟩ (.int .i64 y.root)).setCell ⟨q, 1, none⟩ (.int .i64 y.page)).setCell ⟨q, 2, none⟩ (.int .i64 y.dest)).setCell ⟨q, 3, none⟩ (.bool y.may)).setCell ⟨q, 4, none⟩ (.bool y.lf.there)).setCell ⟨q, 5, none⟩ (.bool y.lf.wr)).setCell ⟨q, 6, none⟩ (.int .i64 y.lf.fr)) := Upd.row w q 0 (enCells y)
theorem frozen_seven' {w : World} {q : Nat} (hz : ∀ o, w.frozen? ⟨q, o, none⟩ = false) (y : En) : ∀ o, (((((((w.setCell ⟨q, 0, none⟩ (.int .i64 y.root)).setCell ⟨q, 1, none⟩ (.int .i64 y.page)).setCell ⟨q, 2, none⟩ (.int .i64 y.dest)).setCell ⟨q, 3, none⟩ (.bool y.may)).setCell ⟨q, 4, none⟩ (.bool y.lf.there)).setCell ⟨q, 5, none⟩ (.bool y.lf.wr)).setCell ⟨q, 6, none⟩ (.int .i64 y.lf.fr)).frozen? ⟨q, o, none⟩ = false := fun o => by simp only [World.frozen?_setCell]; exact hz o
set_option maxHeartbeats 1000000 in
theorem fol_rg1 (w : World) (bg bc : Nat) (p r : Int) (wt kn : Bool) (y : En) (c2 : w.cell? ⟨bg, 2, none⟩ = some (.pointer (some ⟨bc, 0, none⟩))) (c3 : w.cell? ⟨bg, 3, none⟩ = some (.int .i64 r)) {Q : Exit → Act → World → Prop}
    (hF : ∀ w1, Upd (fun _ => False) w w1 → Calls Tryz.prog 174 #[.pointer (some ⟨bc, 0, none⟩), .int .i64 r, .int .i64 p] w1 fun e w' => e = .returned (.tuple #[.agg #[.int .i64 y.root, .int .i64 y.page, .int .i64 y.dest, .bool y.may, .bool y.lf.there, .bool y.lf.wr, .int .i64 y.lf.fr], .bool kn]) ∧ Upd (fun _ => False) w1 w')
    (hm : ∀ (v13 v14 v15 v16 v17 v18 v19 v20 v21 v22 v23 v24 v25 : Value) (w' : World) (qx : Nat), EnAt w' qx y → (∀ o, w'.frozen? ⟨qx, o, none⟩ = false) → Upd (fun _ => False) w w' → w.heap.size ≤ qx → Q .normal ⟨#[.pointer (some ⟨bg, 0, none⟩), .int .i64 p, .bool wt, undef, undef, undef, .int .i64 0, .nilIface, .pointer (some ⟨qx, 0, none⟩), .bool kn, undef, undef, undef, v13, v14, v15, v16, v17, v18, v19, v20, v21, v22, v23, v24, v25, undef, undef, undef, undef, undef, undef, undef, undef, undef, undef, undef, undef, undef, undef, undef, undef, undef, undef, undef, undef, undef, undef, undef, undef, undef, undef, undef, undef, undef, undef, undef, undef, undef, undef, undef], []⟩ w') :
    Code.wp Tryz.prog folRg1 Q ⟨#[.pointer (some ⟨bg, 0, none⟩), .int .i64 p, .bool wt, undef, undef, undef, .int .i64 0, .nilIface, undef, undef, undef, undef, undef, undef, undef, undef, undef, undef, undef, undef, undef, undef, undef, undef, undef, undef, undef, undef, undef, undef, undef, undef, undef, undef, undef, undef, undef, undef, undef, undef, undef, undef, undef, undef, undef, undef, undef, undef, undef, undef, undef, undef, undef, undef, undef, undef, undef, undef, undef, undef, undef], []⟩ w := by
  have HM : Hid _ := hm
  have lg : bg < w.heap.size := World.block_lt_of_cell? w _ c2
  have UZ : Hid (Upd (fun _ => False) w (w.alloc (.cells #[.int .i64 0, .int .i64 0, .int .i64 0, .bool false, .bool false, .bool false, .int .i64 0] 151)).drew) := ((Upd.refl (fun _ => False) w).alloc (.cells #[.int .i64 0, .int .i64 0, .int .i64 0, .bool false, .bool false, .bool false, .int .i64 0] 151)).drew
  have HFd : Hid _ := hF w.drew (Upd.refl _ _).drew
  have HFa : Hid _ := hF _ UZ.out
  have sA : w.cell? ⟨bg, 2, none⟩ = some (.pointer (some ⟨bc, 0, none⟩)) ∧ w.cell? ⟨bg, 3, none⟩ = some (.int .i64 r) := ⟨c2, c3⟩
  have sD : w.drew.cell? ⟨bg, 2, none⟩ = some (.pointer (some ⟨bc, 0, none⟩)) ∧ w.drew.cell? ⟨bg, 3, none⟩ = some (.int .i64 r) := ⟨c2, c3⟩
  have sZ : (w.alloc (.cells #[.int .i64 0, .int .i64 0, .int .i64 0, .bool false, .bool false, .bool false, .int .i64 0] 151)).drew.cell? ⟨bg, 2, none⟩ = some (.pointer (some ⟨bc, 0, none⟩)) ∧ (w.alloc (.cells #[.int .i64 0, .int .i64 0, .int .i64 0, .bool false, .bool false, .bool false, .int .i64 0] 151)).drew.cell? ⟨bg, 3, none⟩ = some (.int .i64 r) := ⟨UZ.out.cell c2 (fun f => f), UZ.out.cell c3 (fun f => f)⟩
  have NW : Hid (¬ bg = w.heap.size) := show ¬ _ by omega
  have HZE : Hid (EnAt (w.alloc (.cells #[.int .i64 0, .int .i64 0, .int .i64 0, .bool false, .bool false, .bool false, .int .i64 0] 151)).drew w.heap.size en0) := (EnAt.new w 151 en0)
  have HZF : Hid (∀ o, (w.alloc (.cells #[.int .i64 0, .int .i64 0, .int .i64 0, .bool false, .bool false, .bool false, .int .i64 0] 151)).drew.frozen? ⟨w.heap.size, o, none⟩ = false) := fun o => World.frozen?_alloc_new w _ _ o
  have SAL : Hid (∀ (w5 : World) (o : Obj), w5.cell? ⟨bg, 2, none⟩ = some (.pointer (some ⟨bc, 0, none⟩)) ∧ w5.cell? ⟨bg, 3, none⟩ = some (.int .i64 r) → (w5.alloc o).cell? ⟨bg, 2, none⟩ = some (.pointer (some ⟨bc, 0, none⟩)) ∧ (w5.alloc o).cell? ⟨bg, 3, none⟩ = some (.int .i64 r)) := fun w5 o h => ⟨Upd.cell ((Upd.refl (fun _ => False) w5).alloc o) h.1 (fun f => f), Upd.cell ((Upd.refl (fun _ => False) w5).alloc o) h.2 (fun f => f)⟩
  have SST : Hid (∀ (w5 : World) (v0 v1 v2 v3 v4 v5 v6 : Value), w5.cell? ⟨bg, 2, none⟩ = some (.pointer (some ⟨bc, 0, none⟩)) ∧ w5.cell? ⟨bg, 3, none⟩ = some (.int .i64 r) → (((((((w5.setCell ⟨w.heap.size, 0, none⟩ v0).setCell ⟨w.heap.size, 1, none⟩ v1).setCell ⟨w.heap.size, 2, none⟩ v2).setCell ⟨w.heap.size, 3, none⟩ v3).setCell ⟨w.heap.size, 4, none⟩ v4).setCell ⟨w.heap.size, 5, none⟩ v5).setCell ⟨w.heap.size, 6, none⟩ v6).cell? ⟨bg, 2, none⟩ = some (.pointer (some ⟨bc, 0, none⟩)) ∧ (((((((w5.setCell ⟨w.heap.size, 0, none⟩ v0).setCell ⟨w.heap.size, 1, none⟩ v1).setCell ⟨w.heap.size, 2, none⟩ v2).setCell ⟨w.heap.size, 3, none⟩ v3).setCell ⟨w.heap.size, 4, none⟩ v4).setCell ⟨w.heap.size, 5, none⟩ v5).setCell ⟨w.heap.size, 6, none⟩ v6).cell? ⟨bg, 3, none⟩ = some (.int .i64 r)) := fun w5 v0 v1 v2 v3 v4 v5 v6 h => ⟨(Upd.row w5 w.heap.size 0 [v0, v1, v2, v3, v4, v5, v6]).cell h.1 NW.out, (Upd.row w5 w.heap.size 0 [v0, v1, v2, v3, v4, v5, v6]).cell h.2 NW.out⟩
  have ZC0 : Hid ((w.alloc (.cells #[.int .i64 0, .int .i64 0, .int .i64 0, .bool false, .bool false, .bool false, .int .i64 0] 151)).drew.cell? ⟨w.heap.size, 0, none⟩ = some (.int .i64 0)) := HZE.out 0 (by omega)
  have ZC1 : Hid ((w.alloc (.cells #[.int .i64 0, .int .i64 0, .int .i64 0, .bool false, .bool false, .bool false, .int .i64 0] 151)).drew.cell? ⟨w.heap.size, 1, none⟩ = some (.int .i64 0)) := HZE.out 1 (by omega)
  have ZC2 : Hid ((w.alloc (.cells #[.int .i64 0, .int .i64 0, .int .i64 0, .bool false, .bool false, .bool false, .int .i64 0] 151)).drew.cell? ⟨w.heap.size, 2, none⟩ = some (.int .i64 0)) := HZE.out 2 (by omega)
  have ZC3 : Hid ((w.alloc (.cells #[.int .i64 0, .int .i64 0, .int .i64 0, .bool false, .bool false, .bool false, .int .i64 0] 151)).drew.cell? ⟨w.heap.size, 3, none⟩ = some (.bool false)) := HZE.out 3 (by omega)
  have ZC4 : Hid ((w.alloc (.cells #[.int .i64 0, .int .i64 0, .int .i64 0, .bool false, .bool false, .bool false, .int .i64 0] 151)).drew.cell? ⟨w.heap.size, 4, none⟩ = some (.bool false)) := HZE.out 4 (by omega)
  have ZC5 : Hid ((w.alloc (.cells #[.int .i64 0, .int .i64 0, .int .i64 0, .bool false, .bool false, .bool false, .int .i64 0] 151)).drew.cell? ⟨w.heap.size, 5, none⟩ = some (.bool false)) := HZE.out 5 (by omega)
  have ZC6 : Hid ((w.alloc (.cells #[.int .i64 0, .int .i64 0, .int .i64 0, .bool false, .bool false, .bool false, .int .i64 0] 151)).drew.cell? ⟨w.heap.size, 6, none⟩ = some (.int .i64 0)) := HZE.out 6 (by omega)
  clear hm hF
  conv => arg 2; whnf
  go_region_held3 (fun w' => w'.cell? ⟨bg, 2, none⟩ = some (.pointer (some ⟨bc, 0, none⟩)) ∧ w'.cell? ⟨bg, 3, none⟩ = some (.int .i64 r)) (first | with_reducible exact h5c | with_reducible exact sA | with_reducible exact sD | with_reducible exact sZ | with_reducible exact SAL.out _ _ h5c | with_reducible exact SST.out _ _ _ _ _ _ _ _ h5c)
    ((go_at_call 174; (first | (refine Calls.mono HFd.out ?_; rintro e w5 ⟨rfl, hu5⟩) | (refine Calls.mono HFa.out ?_; rintro e w5 ⟨rfl, hu5⟩; have bx0 : w5.cell? ⟨w.heap.size, 0, none⟩ = some (.int .i64 0) := hu5.cell (by with_reducible exact ZC0.out) (fun f => f); have bx1 : w5.cell? ⟨w.heap.size, 1, none⟩ = some (.int .i64 0) := hu5.cell (by with_reducible exact ZC1.out) (fun f => f); have bx2 : w5.cell? ⟨w.heap.size, 2, none⟩ = some (.int .i64 0) := hu5.cell (by with_reducible exact ZC2.out) (fun f => f); have bx3 : w5.cell? ⟨w.heap.size, 3, none⟩ = some (.bool false) := hu5.cell (by with_reducible exact ZC3.out) (fun f => f); have bx4 : w5.cell? ⟨w.heap.size, 4, none⟩ = some (.bool false) := hu5.cell (by with_reducible exact ZC4.out) (fun f => f); have bx5 : w5.cell? ⟨w.heap.size, 5, none⟩ = some (.bool false) := hu5.cell (by with_reducible exact ZC5.out) (fun f => f); have bx6 : w5.cell? ⟨w.heap.size, 6, none⟩ = some (.int .i64 0) := hu5.cell (by with_reducible exact ZC6.out) (fun f => f); have bz : ∀ o, w5.frozen? ⟨w.heap.size, o, none⟩ = false := frozen_keep hu5 (World.block_lt_of_cell? _ _ ZC0.out) (fun f => f) HZF.out; have bz0 := bz 0; have bz1 := bz 1; have bz2 := bz 2; have bz3 := bz 3; have bz4 := bz 4; have bz5 := bz 5; have bz6 := bz 6)); have h5c : w5.cell? ⟨bg, 2, none⟩ = some (.pointer (some ⟨bc, 0, none⟩)) ∧ w5.cell? ⟨bg, 3, none⟩ = some (.int .i64 r) := ⟨hu5.cell (by first | with_reducible exact sD.1 | with_reducible exact sZ.1) (fun f => f), hu5.cell (by first | with_reducible exact sD.2 | with_reducible exact sZ.2) (fun f => f)⟩))
  all_goals (first
    | (have hb0 := bx0
       have hE5 := HZE.out.upd hu5 (fun f => f)
       have uB := Upd.seven' w5 w.heap.size y
       exact HM.out _ _ _ _ _ _ _ _ _ _ _ _ _ _ _ (hE5.seven' bz y) (frozen_seven' bz y) ((UZ.out.trans hu5 (fun _ _ f => f)).trans uB (fun i hi e => by omega)) (Nat.le_refl _))
    | (have uA := (Upd.refl (fun _ => False) w5).alloc (.cells #[.int .i64 y.root, .int .i64 y.page, .int .i64 y.dest, .bool y.may, .bool y.lf.there, .bool y.lf.wr, .int .i64 y.lf.fr] 151)
       have hX := EnAt.new w5 151 y
       exact HM.out _ _ _ _ _ _ _ _ _ _ _ _ _ _ _ hX (fun o => World.frozen?_alloc_new _ _ _ o) (((Upd.refl (fun _ => False) w).drew.trans hu5 (fun _ _ f => f)).trans uA (fun _ _ f => f)) hu5.size))
end Go.Proofs.YtadpibcgjgcjhabGreatDoor
/- Package guest: follow, where the table's word is remembered. -/
namespace Go.Proofs.YtadpibcgjgcjhabGreatDoor
open Go.ChangeShapes Go.WideShapes Go.ChangeAt Go.RowKit
set_option maxRecDepth 1000000
attribute [local go_sem ↓] Go.wp_at_zero Go.wp_at_succ
variable {w w' : World} {bg bp bf bl bc : Nat} {s : Pl} {g : Gs} {b : Mp} {W : Int}

theorem GG.find_yes (h : GG w bg bp bf bl bc s g b W) (p : Int) (x : En) (hf : 0 ≤ fndI g.c g.root p) (hx : atE g.c (fndI g.c g.root p).toNat = x) :
    Calls Tryz.prog 174 #[.pointer (some ⟨bc, 0, none⟩), .int .i64 g.root, .int .i64 p] w fun e w' => e = .returned (.tuple #[.agg #[.int .i64 (gShow g.m x).root, .int .i64 (gShow g.m x).page, .int .i64 (gShow g.m x).dest, .bool (gShow g.m x).may, .bool (gShow g.m x).lf.there, .bool (gShow g.m x).lf.wr, .int .i64 (gShow g.m x).lf.fr], .bool true]) ∧ Upd (fun _ => False) w w' := by
  rw [fndI_idx] at hf hx
  rcases idxP_cases (isAt g.root p) g.c with ⟨k, hk, hi, _, _⟩ | ⟨hi, _⟩
  · rw [hi] at hx
    rw [Int.toNat_natCast] at hx
    have hq := kFind_yes w bc (shows g.m g.c) g.root p h.ca k (by rw [shows_length]; exact hk) (by rw [shows_idx]; exact hi)
    rw [shows_at g.m g.c hk, hx] at hq
    exact hq
  · omega
theorem GG.find_no (h : GG w bg bp bf bl bc s g b W) (p : Int) (hf : fndI g.c g.root p < 0) :
    Calls Tryz.prog 174 #[.pointer (some ⟨bc, 0, none⟩), .int .i64 g.root, .int .i64 p] w fun e w' => e = .returned (.tuple #[.agg #[.int .i64 en0.root, .int .i64 en0.page, .int .i64 en0.dest, .bool en0.may, .bool en0.lf.there, .bool en0.lf.wr, .int .i64 en0.lf.fr], .bool false]) ∧ Upd (fun _ => False) w w' := by
  rw [fndI_idx] at hf
  rcases idxP_cases (isAt g.root p) g.c with ⟨k, hk, hi, _, _⟩ | ⟨hi, _⟩
  · omega
  · exact kFind_no w bc (shows g.m g.c) g.root p h.ca (by rw [shows_idx]; exact hi)
/-- What the frame of an address ends with. -/
def FPost (w : World) (bg bp bf bl bc : Nat) (r : (Int × Int) × Pl × Gs) (b : Mp) (W : Int) (e : Ending) (w' : World) : Prop :=
  e = .returned (.tuple #[.int .i64 r.1.1, errV r.1.2]) ∧ GG w' bg bp bf bl bc r.2.1 r.2.2 b W ∧ Upd (GFt bg bf bl bc) w w'
theorem GG.known_fault (h : GG w bg bp bf bl bc s g b W) (p : Int) (x : En) (hf : 0 ≤ fndI g.c g.root p) (hx : atE g.c (fndI g.c g.root p).toNat = x) (hm : x.may = false) :
    Calls Tryz.prog 140 #[.pointer (some ⟨bg, 0, none⟩), .int .i64 p, .bool true] w (FPost w bg bp bf bl bc ((0, 5), s, g) b W) := by
  have HH : Hid (GG w bg bp bf bl bc s g b W) := h
  have HF : Hid (∀ w1, Upd (fun _ => False) w w1 → Calls Tryz.prog 174 #[.pointer (some ⟨bc, 0, none⟩), .int .i64 g.root, .int .i64 p] w1 fun e w' => e = .returned (.tuple #[.agg #[.int .i64 (gShow g.m x).root, .int .i64 (gShow g.m x).page, .int .i64 (gShow g.m x).dest, .bool (gShow g.m x).may, .bool (gShow g.m x).lf.there, .bool (gShow g.m x).lf.wr, .int .i64 (gShow g.m x).lf.fr], .bool true]) ∧ Upd (fun _ => False) w1 w') := fun w1 u => (HH.out.same u).find_yes p x hf hx
  have c2 := h.ce.c2
  have c3 := h.ce.c3
  have HM : Hid _ := hm
  clear h hf hx hm
  unfold FPost
  rw [errV_no (show (5 : Int) ≠ 0 by omega)]
  go_enter Tryz.func140, Tryz.ntmps140
  go_upto_region 1 with fail
  refine fol_rg1 w bg bc p g.root true true (gShow g.m x) c2 c3 HF.out ?_
  intro v13 v14 v15 v16 v17 v18 v19 v20 v21 v22 v23 v24 v25 w1 qx hE hz hu hq
  have e3 : w1.cell? ⟨qx, 3, none⟩ = some (.bool x.may) := hE 3 (by omega)
  rw [HM.out] at e3
  have HU : Hid _ := hu
  clear hE hz hu hq c2 c3 HF
  go_wp2_with fail
  go_ret2
  exact ⟨rfl, HH.out.same HU.out, HU.out.wide (fun _ f => f.elim)⟩
set_option maxHeartbeats 1000000 in
theorem GG.known_r_err (h : GG w bg bp bf bl bc s g b W) (p : Int) (x : En) (hf : 0 ≤ fndI g.c g.root p) (hx : atE g.c (fndI g.c g.root p).toNat = x) (he : (gTouch s g x.dest false).1.2 ≠ 0) :
    Calls Tryz.prog 140 #[.pointer (some ⟨bg, 0, none⟩), .int .i64 p, .bool false] w (FPost w bg bp bf bl bc ((0, (gTouch s g x.dest false).1.2), (gTouch s g x.dest false).2) b W) := by
  have HH : Hid (GG w bg bp bf bl bc s g b W) := h
  have HF : Hid (∀ w1, Upd (fun _ => False) w w1 → Calls Tryz.prog 174 #[.pointer (some ⟨bc, 0, none⟩), .int .i64 g.root, .int .i64 p] w1 fun e w' => e = .returned (.tuple #[.agg #[.int .i64 (gShow g.m x).root, .int .i64 (gShow g.m x).page, .int .i64 (gShow g.m x).dest, .bool (gShow g.m x).may, .bool (gShow g.m x).lf.there, .bool (gShow g.m x).lf.wr, .int .i64 (gShow g.m x).lf.fr], .bool true]) ∧ Upd (fun _ => False) w1 w') := fun w1 u => (HH.out.same u).find_yes p x hf hx
  have c2 := h.ce.c2
  have c3 := h.ce.c3
  have HE : Hid _ := he
  clear h hf hx he
  unfold FPost
  simp only
  rw [errV_no HE.out]
  go_enter Tryz.func140, Tryz.ntmps140
  go_upto_region 1 with fail
  refine fol_rg1 w bg bc p g.root false true (gShow g.m x) c2 c3 HF.out ?_
  intro v13 v14 v15 v16 v17 v18 v19 v20 v21 v22 v23 v24 v25 w1 qx hE hz hu hq
  have e2 : w1.cell? ⟨qx, 2, none⟩ = some (.int .i64 x.dest) := hE 2 (by omega)
  have ht := (HH.out.same hu).touch x.dest false
  rw [errV_no HE.out] at ht
  have HT : Hid _ := ht
  have HU : Hid _ := hu
  clear hE hz hu hq c2 c3 HF ht
  go_wp2_with fail
  refine Calls.mono HT.out ?_
  rintro e w2 ⟨rfl, hg2, hu2⟩
  have HG2 : Hid (GG w2 bg bp bf bl bc (gTouch s g x.dest false).2.1 (gTouch s g x.dest false).2.2 b W) := hg2
  have HU2 : Hid (Upd (GFt bg bf bl bc) w w2) := (HU.out.wide (T := GFt bg bf bl bc) (fun _ f => f.elim)).trans hu2 (fun _ _ e => e)
  clear hg2 hu2 HT HU e2
  go_wp2_with fail
  go_ret2
  exact ⟨rfl, HG2.out, HU2.out⟩
set_option maxHeartbeats 1000000 in
theorem GG.known_r_ok (h : GG w bg bp bf bl bc s g b W) (p : Int) (x : En) (hf : 0 ≤ fndI g.c g.root p) (hx : atE g.c (fndI g.c g.root p).toNat = x) (he : (gTouch s g x.dest false).1.2 = 0) :
    Calls Tryz.prog 140 #[.pointer (some ⟨bg, 0, none⟩), .int .i64 p, .bool false] w (FPost w bg bp bf bl bc (((gTouch s g x.dest false).1.1, 0), (gTouch s g x.dest false).2) b W) := by
  have HH : Hid (GG w bg bp bf bl bc s g b W) := h
  have HF : Hid (∀ w1, Upd (fun _ => False) w w1 → Calls Tryz.prog 174 #[.pointer (some ⟨bc, 0, none⟩), .int .i64 g.root, .int .i64 p] w1 fun e w' => e = .returned (.tuple #[.agg #[.int .i64 (gShow g.m x).root, .int .i64 (gShow g.m x).page, .int .i64 (gShow g.m x).dest, .bool (gShow g.m x).may, .bool (gShow g.m x).lf.there, .bool (gShow g.m x).lf.wr, .int .i64 (gShow g.m x).lf.fr], .bool true]) ∧ Upd (fun _ => False) w1 w') := fun w1 u => (HH.out.same u).find_yes p x hf hx
  have c2 := h.ce.c2
  have c3 := h.ce.c3
  have HE : Hid _ := he
  clear h hf hx he
  unfold FPost
  simp only
  rw [errV_zero]
  go_enter Tryz.func140, Tryz.ntmps140
  go_upto_region 1 with fail
  refine fol_rg1 w bg bc p g.root false true (gShow g.m x) c2 c3 HF.out ?_
  intro v13 v14 v15 v16 v17 v18 v19 v20 v21 v22 v23 v24 v25 w1 qx hE hz hu hq
  have e2 : w1.cell? ⟨qx, 2, none⟩ = some (.int .i64 x.dest) := hE 2 (by omega)
  have ht := (HH.out.same hu).touch x.dest false
  rw [HE.out, errV_zero] at ht
  have HT : Hid _ := ht
  have HU : Hid _ := hu
  clear hE hz hu hq c2 c3 HF ht
  go_wp2_with fail
  refine Calls.mono HT.out ?_
  rintro e w2 ⟨rfl, hg2, hu2⟩
  have HG2 : Hid (GG w2 bg bp bf bl bc (gTouch s g x.dest false).2.1 (gTouch s g x.dest false).2.2 b W) := hg2
  have HU2 : Hid (Upd (GFt bg bf bl bc) w w2) := (HU.out.wide (T := GFt bg bf bl bc) (fun _ f => f.elim)).trans hu2 (fun _ _ e => e)
  clear hg2 hu2 HT HU e2
  go_wp2_with fail
  go_ret2
  exact ⟨rfl, HG2.out, HU2.out⟩
set_option maxHeartbeats 1000000 in
theorem GG.known_w_err (h : GG w bg bp bf bl bc s g b W) (p : Int) (x : En) (hf : 0 ≤ fndI g.c g.root p) (hx : atE g.c (fndI g.c g.root p).toNat = x) (hm : x.may = true) (he : (gTouch s g x.dest true).1.2 ≠ 0) :
    Calls Tryz.prog 140 #[.pointer (some ⟨bg, 0, none⟩), .int .i64 p, .bool true] w (FPost w bg bp bf bl bc ((0, (gTouch s g x.dest true).1.2), (gTouch s g x.dest true).2) b W) := by
  have HH : Hid (GG w bg bp bf bl bc s g b W) := h
  have HF : Hid (∀ w1, Upd (fun _ => False) w w1 → Calls Tryz.prog 174 #[.pointer (some ⟨bc, 0, none⟩), .int .i64 g.root, .int .i64 p] w1 fun e w' => e = .returned (.tuple #[.agg #[.int .i64 (gShow g.m x).root, .int .i64 (gShow g.m x).page, .int .i64 (gShow g.m x).dest, .bool (gShow g.m x).may, .bool (gShow g.m x).lf.there, .bool (gShow g.m x).lf.wr, .int .i64 (gShow g.m x).lf.fr], .bool true]) ∧ Upd (fun _ => False) w1 w') := fun w1 u => (HH.out.same u).find_yes p x hf hx
  have c2 := h.ce.c2
  have c3 := h.ce.c3
  have HM : Hid _ := hm
  have HE : Hid _ := he
  clear h hf hx hm he
  unfold FPost
  simp only
  rw [errV_no HE.out]
  go_enter Tryz.func140, Tryz.ntmps140
  go_upto_region 1 with fail
  refine fol_rg1 w bg bc p g.root true true (gShow g.m x) c2 c3 HF.out ?_
  intro v13 v14 v15 v16 v17 v18 v19 v20 v21 v22 v23 v24 v25 w1 qx hE hz hu hq
  have e2 : w1.cell? ⟨qx, 2, none⟩ = some (.int .i64 x.dest) := hE 2 (by omega)
  have e3 : w1.cell? ⟨qx, 3, none⟩ = some (.bool x.may) := hE 3 (by omega)
  rw [HM.out] at e3
  have ht := (HH.out.same hu).touch x.dest true
  rw [errV_no HE.out] at ht
  have HT : Hid _ := ht
  have HU : Hid _ := hu
  clear hE hz hu hq c2 c3 HF ht
  go_wp2_with fail
  refine Calls.mono HT.out ?_
  rintro e w2 ⟨rfl, hg2, hu2⟩
  have HG2 : Hid (GG w2 bg bp bf bl bc (gTouch s g x.dest true).2.1 (gTouch s g x.dest true).2.2 b W) := hg2
  have HU2 : Hid (Upd (GFt bg bf bl bc) w w2) := (HU.out.wide (T := GFt bg bf bl bc) (fun _ f => f.elim)).trans hu2 (fun _ _ e => e)
  clear hg2 hu2 HT HU e2 e3
  go_wp2_with fail
  go_ret2
  exact ⟨rfl, HG2.out, HU2.out⟩
set_option maxHeartbeats 1000000 in
theorem GG.known_w_ok (h : GG w bg bp bf bl bc s g b W) (p : Int) (x : En) (hf : 0 ≤ fndI g.c g.root p) (hx : atE g.c (fndI g.c g.root p).toNat = x) (hm : x.may = true) (he : (gTouch s g x.dest true).1.2 = 0) :
    Calls Tryz.prog 140 #[.pointer (some ⟨bg, 0, none⟩), .int .i64 p, .bool true] w (FPost w bg bp bf bl bc (((gTouch s g x.dest true).1.1, 0), (gTouch s g x.dest true).2) b W) := by
  have HH : Hid (GG w bg bp bf bl bc s g b W) := h
  have HF : Hid (∀ w1, Upd (fun _ => False) w w1 → Calls Tryz.prog 174 #[.pointer (some ⟨bc, 0, none⟩), .int .i64 g.root, .int .i64 p] w1 fun e w' => e = .returned (.tuple #[.agg #[.int .i64 (gShow g.m x).root, .int .i64 (gShow g.m x).page, .int .i64 (gShow g.m x).dest, .bool (gShow g.m x).may, .bool (gShow g.m x).lf.there, .bool (gShow g.m x).lf.wr, .int .i64 (gShow g.m x).lf.fr], .bool true]) ∧ Upd (fun _ => False) w1 w') := fun w1 u => (HH.out.same u).find_yes p x hf hx
  have c2 := h.ce.c2
  have c3 := h.ce.c3
  have HM : Hid _ := hm
  have HE : Hid _ := he
  clear h hf hx hm he
  unfold FPost
  simp only
  rw [errV_zero]
  go_enter Tryz.func140, Tryz.ntmps140
  go_upto_region 1 with fail
  refine fol_rg1 w bg bc p g.root true true (gShow g.m x) c2 c3 HF.out ?_
  intro v13 v14 v15 v16 v17 v18 v19 v20 v21 v22 v23 v24 v25 w1 qx hE hz hu hq
  have e2 : w1.cell? ⟨qx, 2, none⟩ = some (.int .i64 x.dest) := hE 2 (by omega)
  have e3 : w1.cell? ⟨qx, 3, none⟩ = some (.bool x.may) := hE 3 (by omega)
  rw [HM.out] at e3
  have ht := (HH.out.same hu).touch x.dest true
  rw [HE.out, errV_zero] at ht
  have HT : Hid _ := ht
  have HU : Hid _ := hu
  clear hE hz hu hq c2 c3 HF ht
  go_wp2_with fail
  refine Calls.mono HT.out ?_
  rintro e w2 ⟨rfl, hg2, hu2⟩
  have HG2 : Hid (GG w2 bg bp bf bl bc (gTouch s g x.dest true).2.1 (gTouch s g x.dest true).2.2 b W) := hg2
  have HU2 : Hid (Upd (GFt bg bf bl bc) w w2) := (HU.out.wide (T := GFt bg bf bl bc) (fun _ f => f.elim)).trans hu2 (fun _ _ e => e)
  clear hg2 hu2 HT HU e2 e3
  go_wp2_with fail
  go_ret2
  exact ⟨rfl, HG2.out, HU2.out⟩
theorem GG.follow_known (h : GG w bg bp bf bl bc s g b W) (p : Int) (wt : Bool) (x : En) (hf : 0 ≤ fndI g.c g.root p) (hx : atE g.c (fndI g.c g.root p).toNat = x) :
    Calls Tryz.prog 140 #[.pointer (some ⟨bg, 0, none⟩), .int .i64 p, .bool wt] w (FPost w bg bp bf bl bc (gStep s g x true wt) b W) := by
  have hc := touch_code s g.m x.dest wt
  have hcc : 0 ≤ (gTouch s g x.dest wt).1.2 := hc
  unfold gStep
  cases wt with
  | false =>
    simp only [Bool.false_and, Bool.false_eq_true, if_false]
    split
    · next h0 => exact h.known_r_err p x hf hx (by omega)
    · next h0 => exact h.known_r_ok p x hf hx (by omega)
  | true =>
    cases hm : x.may with
    | false =>
      simp only [Bool.true_and, Bool.not_false, if_true]
      exact h.known_fault p x hf hx hm
    | true =>
      simp only [Bool.true_and, Bool.not_true, Bool.false_eq_true, if_false]
      split
      · next h0 => exact h.known_w_err p x hf hx hm (by omega)
      · next h0 => exact h.known_w_ok p x hf hx hm (by omega)
end Go.Proofs.YtadpibcgjgcjhabGreatDoor
