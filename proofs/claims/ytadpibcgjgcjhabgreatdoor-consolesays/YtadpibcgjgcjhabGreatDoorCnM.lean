/- The document's Guest.say: a page. -/
import Derived.Test.YtadpibcgjgcjhabGreatDoorCnL
import Derived.Test.YtadpibcgjgcjhabGreatDoorHrI
namespace Go.Proofs.YtadpibcgjgcjhabGreatDoor
open Go.ChangeShapes Go.WideShapes Go.ChangeAt Go.RowKit
set_option maxRecDepth 100000
attribute [local go_sem ↓] Go.wp_at_zero Go.wp_at_succ
variable {W w w1 w2 w3 w' : World} {rh rm base : Nat} {bx bx2 : Nat → Nat} {v v2 : Nat → Value} {h h2 : Hs} {x : Gs} {n k j : Nat}

theorem page_off {b : Int} (hx : h.g j = some x) (hj : j < 4) (hb : onB b = false) : pageT h (j : Int) b = errT 1 := by
  obtain ⟨e1, e2⟩ := hWho_some hx hj
  have e : hState h (j : Int) b = (0, 1) := by unfold hState stR; rw [e1, if_neg (by omega), if_neg (by rw [hb]; decide)]
  unfold pageT
  rw [e]
  rfl
theorem page_on {p : Nat} (hx : h.g j = some x) (hj : j < 4) (hp : p < 16) : pageT h (j : Int) (p : Int) = if (x.m.lf p).there = true then numT (x.m.st p) ++ (if (x.m.lf p).wr = true then [32, 111, 119, 110, 32] else [32, 115, 101, 97, 108, 101, 100, 32]) ++ numT (h.s.of (x.m.lf p).fr).2.1 else numT (x.m.st p) ++ [32, 110, 111, 119, 104, 101, 114, 101] := by
  obtain ⟨e1, e2⟩ := hWho_some hx hj
  have hb : onB (p : Int) = true := (onB_iff _).2 (by omega)
  have e : hState h (j : Int) (p : Int) = (x.m.st p, 0) := by unfold hState stR; rw [e1, e2, if_neg (by omega), if_pos hb, Int.toNat_natCast]
  have e' : hLeaf h (j : Int) (p : Int) = (x.m.lf p, 0) := by unfold hLeaf lfR; rw [e1, e2, if_neg (by omega), if_pos hb, Int.toNat_natCast]
  unfold pageT
  rw [e, e']
  rfl
theorem say_page_off (r : RHo w rh rm base bx v h) (hx : h.g j = some x) (hj : j < 4) (a b c : Int) (hb : onB b = false) :
    Calls Tryz.prog 32 #[.pointer (some ⟨bx j, 0, none⟩), .string (TX kPage), .agg #[.int .i64 a, .int .i64 b, .int .i64 c], .pointer (some ⟨rm, 0, none⟩)] w (DP w rh rm base bx h (pageT h (j : Int) b, h)) := by
  have ht : (TX kPage).toList = [112, 97, 103, 101] := TX_toList _
  rw [page_off hx hj hb]
  have HR : Hid _ := r
  clear r
  have HO : Hid _ := fun w => on_any w b
  rw [hb] at HO
  have HF : Hid _ := fun w => fault_any w 1 (by omega) (by omega)
  go_enter Tryz.func32, Tryz.ntmps32
  go_wp2_with (first
    | (go_at_call 39; refine Calls.mono (HO.out _) ?_; rintro e w2 ⟨rfl, hw2⟩; subst hw2)
    | (go_at_call 15; refine Calls.mono (HF.out _) ?_; rintro e w3 ⟨rfl, hu3⟩))
  go_ret
  exact (DM.more (DM.more (DM.refl HR.out) ((Upd.refl _ _).alloc _)) hu3).fin
theorem say_page_none (r : RHo w rh rm base bx v h) (o : HOk h n k) (hx : h.g j = some x) (hj : j < 4) (a c : Int) {p : Nat} (hp : p < 16) (h1 : (x.m.lf p).there = false) :
    Calls Tryz.prog 32 #[.pointer (some ⟨bx j, 0, none⟩), .string (TX kPage), .agg #[.int .i64 a, .int .i64 (p : Int), .int .i64 c], .pointer (some ⟨rm, 0, none⟩)] w (DP w rh rm base bx h (pageT h (j : Int) (p : Int), h)) := by
  have ht : (TX kPage).toList = [112, 97, 103, 101] := TX_toList _
  rw [page_on hx hj hp, if_neg (by rw [h1]; decide)]
  have HR : Hid _ := r
  have hm := (r.gu j x hx).mp
  have m1 := hm.st p hp
  have m2 := hm.th p hp
  have m3 := hm.wr p hp
  have m4 := hm.fr p hp
  simp only at m1 m2 m3 m4
  have hlt := hm.lt
  have hst := ((o.inv.gi j x hx).2.pg p hp).1
  have HO : Hid _ := fun w => on_yes w hp
  have HD : Hid _ := fun w => dec_any w (x.m.st p) hst.1 (by omega)
  have hs1 := numT_le (x.m.st p) (by omega)
  rw [← TX_size] at hs1
  rw [h1] at m2
  have p0 : (0 : Int) ≤ (p : Int) := by omega
  have p1 : (p : Int) < 16 := by omega
  have hz : ¬ 9223372036854775807 < (TX (numT (x.m.st p))).size + 8 := by omega
  clear r hm
  generalize x.m.st p = st at *
  go_enter Tryz.func32, Tryz.ntmps32
  go_wp2_with (first
    | (go_at_call 39; refine Calls.mono (HO.out _) ?_; rintro e w2 ⟨rfl, hw2⟩; subst hw2))
  go_region_with (go_at_call 18; refine Calls.mono (HD.out _) ?_; rintro e w2 ⟨rfl, hu2⟩)
  have U2 : Upd (fun _ => False) w w2 := by first | exact ((Upd.refl _ w).alloc _).drew.trans hu2 (fun _ _ f => f) | exact ((Upd.refl _ w).alloc _).trans hu2 (fun _ _ f => f)
  have d2 := U2.cell m2 (fun f => f)
  have d3 := U2.cell m3 (fun f => f)
  have d4 := U2.cell m4 (fun f => f)
  have hq : w2.cell? ⟨w.heap.size, 1, none⟩ = some (.int .i64 (p : Int)) := hu2.cell (by show (w.alloc _).cell? _ = _; rw [World.cell?_alloc_new]; rfl) (fun f => f)
  have HU2 : Hid _ := U2
  have hl2 : bx j < w2.heap.size := Nat.lt_of_lt_of_le hlt U2.size
  have hq2 : w.heap.size < w2.heap.size := World.block_lt_of_cell? w2 _ hq
  obtain ⟨y0, y1, y2, z0, z1, z2⟩ := box0 w2 92
  clear m1 m2 m3 m4 hu2 U2
  generalize w.heap.size = q at *
  go_wp2_with fail
  simp only [Act.put, List.setIfInBounds_toArray]
  go_region_with (fail)
  all_goals (
    clear y0 y1 y2 z0 z1 z2 d2 d3 d4
    go_wp2_with fail
    go_ret
    have d := (DM.more (DM.refl HR.out) (HU2.out.alloc (.cells #[.bool false, .bool (x.m.lf p).wr, .int .i64 (x.m.lf p).fr] 92)).drew).fin (t := numT st ++ [32, 110, 111, 119, 104, 101, 114, 101])
    rw [← TX_append] at d
    exact d)
theorem say_page_own (r : RHo w rh rm base bx v h) (o : HOk h n k) (hx : h.g j = some x) (hj : j < 4) (a c : Int) {p : Nat} (hp : p < 16) (h1 : (x.m.lf p).there = true) (h2 : (x.m.lf p).wr = true) :
    Calls Tryz.prog 32 #[.pointer (some ⟨bx j, 0, none⟩), .string (TX kPage), .agg #[.int .i64 a, .int .i64 (p : Int), .int .i64 c], .pointer (some ⟨rm, 0, none⟩)] w (DP w rh rm base bx h (pageT h (j : Int) (p : Int), h)) := by
  have ht : (TX kPage).toList = [112, 97, 103, 101] := TX_toList _
  rw [page_on hx hj hp, if_pos h1, if_pos h2]
  have HR : Hid _ := r
  have hm := (r.gu j x hx).mp
  have m1 := hm.st p hp
  have m2 := hm.th p hp
  have m3 := hm.wr p hp
  have m4 := hm.fr p hp
  simp only at m1 m2 m3 m4
  have hlt := hm.lt
  have hst := ((o.inv.gi j x hx).2.pg p hp).1
  have HO : Hid _ := fun w => on_yes w hp
  have HD : Hid _ := fun w => dec_any w (x.m.st p) hst.1 (by omega)
  have hs1 := numT_le (x.m.st p) (by omega)
  rw [← TX_size] at hs1
  rw [h1] at m2
  rw [h2] at m3
  have p0 : (0 : Int) ≤ (p : Int) := by omega
  have p1 : (p : Int) < 16 := by omega
  have hz : ¬ 9223372036854775807 < (TX (numT (x.m.st p))).size + 5 := by omega
  have hrg := o.inv.cn.rng (16 * j + p) (by omega)
  have hrl : rowL h (16 * j + p) = x.m.lf p := by
    unfold rowL gLf
    rw [show (16 * j + p) / 16 = j by omega, show (16 * j + p) % 16 = p by omega, hx]
  rw [hrl] at hrg
  have hrg2 := hrg h1
  obtain ⟨f, hfe⟩ := Int.eq_ofNat_of_zero_le hrg2.1
  rw [hfe] at hrg2 m4
  have hfn : f < h.s.n := by omega
  have hle := r.ref.le
  have hrf := o.refs (x.m.lf p).fr
  rw [hfe] at hrf
  have hof : (h.s.of (f : Int)).2.1 = h.s.refs f := by unfold Pl.of; rw [if_pos ⟨by omega, by omega⟩, Int.toNat_natCast]
  have HOF : Hid (numT (h.s.of (x.m.lf p).fr).2.1 = numT (h.s.refs f)) := show _ = _ by rw [hfe, hof]
  rw [hof] at hrf
  have mr := r.ref.refs f hfn
  have hlm := (r.ftLt (Or.inr (Or.inl rfl)) : rm < w.heap.size)
  have HD2 : Hid _ := fun w => dec_any w (h.s.refs f) hrf.2.2.1 (by omega)
  have hs2 := numT_le (h.s.refs f) (by omega)
  rw [← TX_size] at hs2
  have hz2 : ¬ 9223372036854775807 < (TX (numT (x.m.st p))).size + 5 + (TX (numT (h.s.refs f))).size := by omega
  rw [HOF.out]
  clear hrg hrl hfe hof hrf HOF
  generalize h.s.refs f = rf at *
  have f0 : (0 : Int) ≤ (f : Int) := by omega
  have f1 : (f : Int) < 64 := by omega
  clear r hm
  generalize x.m.st p = st at *
  go_enter Tryz.func32, Tryz.ntmps32
  go_wp2_with (first
    | (go_at_call 39; refine Calls.mono (HO.out _) ?_; rintro e w2 ⟨rfl, hw2⟩; subst hw2))
  go_region_with (go_at_call 18; refine Calls.mono (HD.out _) ?_; rintro e w2 ⟨rfl, hu2⟩)
  have U2 : Upd (fun _ => False) w w2 := by first | exact ((Upd.refl _ w).alloc _).drew.trans hu2 (fun _ _ f => f) | exact ((Upd.refl _ w).alloc _).trans hu2 (fun _ _ f => f)
  have d2 := U2.cell m2 (fun f => f)
  have d3 := U2.cell m3 (fun f => f)
  have d4 := U2.cell m4 (fun f => f)
  have dr := U2.cell mr (fun f => f)
  have hlr := Nat.lt_of_lt_of_le hlm U2.size
  have hq : w2.cell? ⟨w.heap.size, 1, none⟩ = some (.int .i64 (p : Int)) := hu2.cell (by show (w.alloc _).cell? _ = _; rw [World.cell?_alloc_new]; rfl) (fun f => f)
  have HU2 : Hid _ := U2
  have hl2 : bx j < w2.heap.size := Nat.lt_of_lt_of_le hlt U2.size
  have hq2 : w.heap.size < w2.heap.size := World.block_lt_of_cell? w2 _ hq
  obtain ⟨y0, y1, y2, z0, z1, z2⟩ := box0 w2 92
  clear m1 m2 m3 m4 mr hu2 U2
  generalize w.heap.size = q at *
  go_wp2_with fail
  simp only [Act.put, List.setIfInBounds_toArray]
  go_region_with (fail)
  all_goals (
    clear y0 y1 y2 z0 z1 z2 d2 d3 d4
    have LX : LfAt (w2.alloc (.cells #[.bool true, .bool true, .int .i64 (f : Int)] 92)) w2.heap.size ⟨true, true, f⟩ := LfAt.new w2 92 ⟨true, true, f⟩
    have HU3 : Hid (Upd (fun _ => False) w (w2.alloc (.cells #[.bool true, .bool true, .int .i64 (f : Int)] 92))) := HU2.out.alloc _
    have er : (w2.alloc (.cells #[.bool true, .bool true, .int .i64 (f : Int)] 92)).cell? ⟨rm, 1025 + f, none⟩ = some (.int .i64 rf) := ((Upd.refl (fun _ => False) w2).alloc _).cell dr (fun f => f)
    clear dr hl2 hlr hq2 hq
    revert LX HU3 er
    generalize w2.alloc (.cells #[.bool true, .bool true, .int .i64 (f : Int)] 92) = w4
    generalize w2.heap.size = q2
    intro LX HU3 er
    have l0 := LX.c0
    have l1 := LX.c1
    have l2 := LX.c2
    simp only at l0 l1 l2
    clear LX
    go_wp2_with fail
    go_region_with (go_at_call 18; refine Calls.mono (HD2.out _) ?_; rintro e w5 ⟨rfl, hu5⟩)
    all_goals go_wp2_with fail
    all_goals go_ret
    all_goals have ud : Upd (fun _ => False) w4 w5 := (by first | exact (Upd.refl _ w4).drew.drew.trans hu5 (fun _ _ f => f) | exact (Upd.refl _ w4).drew.trans hu5 (fun _ _ f => f) | exact (Upd.refl _ w4).trans hu5 (fun _ _ f => f) | exact (Upd.refl _ w4).drew.drew.drew.trans hu5 (fun _ _ f => f))
    all_goals have d := (DM.more (DM.more (DM.refl HR.out) HU3.out) ud).fin (t := numT st ++ [32, 111, 119, 110, 32] ++ numT rf)
    all_goals rw [← TX_append, ← TX_append] at d
    all_goals exact d)
theorem say_page_sealed (r : RHo w rh rm base bx v h) (o : HOk h n k) (hx : h.g j = some x) (hj : j < 4) (a c : Int) {p : Nat} (hp : p < 16) (h1 : (x.m.lf p).there = true) (h2 : (x.m.lf p).wr = false) :
    Calls Tryz.prog 32 #[.pointer (some ⟨bx j, 0, none⟩), .string (TX kPage), .agg #[.int .i64 a, .int .i64 (p : Int), .int .i64 c], .pointer (some ⟨rm, 0, none⟩)] w (DP w rh rm base bx h (pageT h (j : Int) (p : Int), h)) := by
  have ht : (TX kPage).toList = [112, 97, 103, 101] := TX_toList _
  rw [page_on hx hj hp, if_pos h1, if_neg (by rw [h2]; decide)]
  have HR : Hid _ := r
  have hm := (r.gu j x hx).mp
  have m1 := hm.st p hp
  have m2 := hm.th p hp
  have m3 := hm.wr p hp
  have m4 := hm.fr p hp
  simp only at m1 m2 m3 m4
  have hlt := hm.lt
  have hst := ((o.inv.gi j x hx).2.pg p hp).1
  have HO : Hid _ := fun w => on_yes w hp
  have HD : Hid _ := fun w => dec_any w (x.m.st p) hst.1 (by omega)
  have hs1 := numT_le (x.m.st p) (by omega)
  rw [← TX_size] at hs1
  rw [h1] at m2
  rw [h2] at m3
  have p0 : (0 : Int) ≤ (p : Int) := by omega
  have p1 : (p : Int) < 16 := by omega
  have hz : ¬ 9223372036854775807 < (TX (numT (x.m.st p))).size + 8 := by omega
  have hrg := o.inv.cn.rng (16 * j + p) (by omega)
  have hrl : rowL h (16 * j + p) = x.m.lf p := by
    unfold rowL gLf
    rw [show (16 * j + p) / 16 = j by omega, show (16 * j + p) % 16 = p by omega, hx]
  rw [hrl] at hrg
  have hrg2 := hrg h1
  obtain ⟨f, hfe⟩ := Int.eq_ofNat_of_zero_le hrg2.1
  rw [hfe] at hrg2 m4
  have hfn : f < h.s.n := by omega
  have hle := r.ref.le
  have hrf := o.refs (x.m.lf p).fr
  rw [hfe] at hrf
  have hof : (h.s.of (f : Int)).2.1 = h.s.refs f := by unfold Pl.of; rw [if_pos ⟨by omega, by omega⟩, Int.toNat_natCast]
  have HOF : Hid (numT (h.s.of (x.m.lf p).fr).2.1 = numT (h.s.refs f)) := show _ = _ by rw [hfe, hof]
  rw [hof] at hrf
  have mr := r.ref.refs f hfn
  have hlm := (r.ftLt (Or.inr (Or.inl rfl)) : rm < w.heap.size)
  have HD2 : Hid _ := fun w => dec_any w (h.s.refs f) hrf.2.2.1 (by omega)
  have hs2 := numT_le (h.s.refs f) (by omega)
  rw [← TX_size] at hs2
  have hz2 : ¬ 9223372036854775807 < (TX (numT (x.m.st p))).size + 8 + (TX (numT (h.s.refs f))).size := by omega
  rw [HOF.out]
  clear hrg hrl hfe hof hrf HOF
  generalize h.s.refs f = rf at *
  have f0 : (0 : Int) ≤ (f : Int) := by omega
  have f1 : (f : Int) < 64 := by omega
  clear r hm
  generalize x.m.st p = st at *
  go_enter Tryz.func32, Tryz.ntmps32
  go_wp2_with (first
    | (go_at_call 39; refine Calls.mono (HO.out _) ?_; rintro e w2 ⟨rfl, hw2⟩; subst hw2))
  go_region_with (go_at_call 18; refine Calls.mono (HD.out _) ?_; rintro e w2 ⟨rfl, hu2⟩)
  have U2 : Upd (fun _ => False) w w2 := by first | exact ((Upd.refl _ w).alloc _).drew.trans hu2 (fun _ _ f => f) | exact ((Upd.refl _ w).alloc _).trans hu2 (fun _ _ f => f)
  have d2 := U2.cell m2 (fun f => f)
  have d3 := U2.cell m3 (fun f => f)
  have d4 := U2.cell m4 (fun f => f)
  have dr := U2.cell mr (fun f => f)
  have hlr := Nat.lt_of_lt_of_le hlm U2.size
  have hq : w2.cell? ⟨w.heap.size, 1, none⟩ = some (.int .i64 (p : Int)) := hu2.cell (by show (w.alloc _).cell? _ = _; rw [World.cell?_alloc_new]; rfl) (fun f => f)
  have HU2 : Hid _ := U2
  have hl2 : bx j < w2.heap.size := Nat.lt_of_lt_of_le hlt U2.size
  have hq2 : w.heap.size < w2.heap.size := World.block_lt_of_cell? w2 _ hq
  obtain ⟨y0, y1, y2, z0, z1, z2⟩ := box0 w2 92
  clear m1 m2 m3 m4 mr hu2 U2
  generalize w.heap.size = q at *
  go_wp2_with fail
  simp only [Act.put, List.setIfInBounds_toArray]
  go_region_with (fail)
  all_goals (
    clear y0 y1 y2 z0 z1 z2 d2 d3 d4
    have LX : LfAt (w2.alloc (.cells #[.bool true, .bool false, .int .i64 (f : Int)] 92)) w2.heap.size ⟨true, false, f⟩ := LfAt.new w2 92 ⟨true, false, f⟩
    have HU3 : Hid (Upd (fun _ => False) w (w2.alloc (.cells #[.bool true, .bool false, .int .i64 (f : Int)] 92))) := HU2.out.alloc _
    have er : (w2.alloc (.cells #[.bool true, .bool false, .int .i64 (f : Int)] 92)).cell? ⟨rm, 1025 + f, none⟩ = some (.int .i64 rf) := ((Upd.refl (fun _ => False) w2).alloc _).cell dr (fun f => f)
    clear dr hl2 hlr hq2 hq
    revert LX HU3 er
    generalize w2.alloc (.cells #[.bool true, .bool false, .int .i64 (f : Int)] 92) = w4
    generalize w2.heap.size = q2
    intro LX HU3 er
    have l0 := LX.c0
    have l1 := LX.c1
    have l2 := LX.c2
    simp only at l0 l1 l2
    clear LX
    go_wp2_with fail
    go_region_with (go_at_call 18; refine Calls.mono (HD2.out _) ?_; rintro e w5 ⟨rfl, hu5⟩)
    all_goals go_wp2_with fail
    all_goals go_ret
    all_goals have ud : Upd (fun _ => False) w4 w5 := (by first | exact (Upd.refl _ w4).drew.drew.trans hu5 (fun _ _ f => f) | exact (Upd.refl _ w4).drew.trans hu5 (fun _ _ f => f) | exact (Upd.refl _ w4).trans hu5 (fun _ _ f => f) | exact (Upd.refl _ w4).drew.drew.drew.trans hu5 (fun _ _ f => f))
    all_goals have d := (DM.more (DM.more (DM.refl HR.out) HU3.out) ud).fin (t := numT st ++ [32, 115, 101, 97, 108, 101, 100, 32] ++ numT rf)
    all_goals rw [← TX_append, ← TX_append] at d
    all_goals exact d)
end Go.Proofs.YtadpibcgjgcjhabGreatDoor
