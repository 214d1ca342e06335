/- undercrofttop.TopCache: a round, and the walk. -/
import Derived.Test.YtadpibcgjgcjhaaPart07
namespace Go.Proofs.Ytadpibcgjgcjhaa
open Go.ChangeShapes Go.WideShapes Go.ChangeAt Go.RowKit Go.Shelf
set_option maxRecDepth 1000000
attribute [local go_sem ↓] Go.wp_at_zero Go.wp_at_succ

theorem tc_sw (l : List Value) (hl : l.length = 142) (W w : World) (R Bc bc i q : Nat) (sl : Value) (x : Ac) (es : List En) (ds : List Nat) (h0 : l.getD 0 undef = sl) (h2 : l.getD 2 undef = .pointer (some ⟨R, 0, none⟩)) (h6 : l.getD 6 undef = .pointer (some ⟨Bc, 0, none⟩)) (h7 : l.getD 7 undef = .int .i64 i) (h8 : l.getD 8 undef = .pointer (some ⟨q, 0, none⟩)) (h49 : l.getD 49 undef = .string x.kind)
    (hB : BoxAt w q x) (hS : TcS W w R Bc bc es ds) (hq : Bc < q) {Q : Exit → Act → World → Prop} (hm : tcPost W R Bc bc sl i Q) : Code.wp Try.prog tcSw Q ⟨l.toArray, marks ds⟩ w := by
  rw [frame_fn l, hl, show ((List.range 142).map (fun i => l.getD i undef)).toArray = #[l.getD 0 undef, l.getD 1 undef, l.getD 2 undef, l.getD 3 undef, l.getD 4 undef, l.getD 5 undef, l.getD 6 undef, l.getD 7 undef, l.getD 8 undef, l.getD 9 undef, l.getD 10 undef, l.getD 11 undef, l.getD 12 undef, l.getD 13 undef, l.getD 14 undef, l.getD 15 undef, l.getD 16 undef, l.getD 17 undef, l.getD 18 undef, l.getD 19 undef, l.getD 20 undef, l.getD 21 undef, l.getD 22 undef, l.getD 23 undef, l.getD 24 undef, l.getD 25 undef, l.getD 26 undef, l.getD 27 undef, l.getD 28 undef, l.getD 29 undef, l.getD 30 undef, l.getD 31 undef, l.getD 32 undef, l.getD 33 undef, l.getD 34 undef, l.getD 35 undef, l.getD 36 undef, l.getD 37 undef, l.getD 38 undef, l.getD 39 undef, l.getD 40 undef, l.getD 41 undef, l.getD 42 undef, l.getD 43 undef, l.getD 44 undef, l.getD 45 undef, l.getD 46 undef, l.getD 47 undef, l.getD 48 undef, l.getD 49 undef, l.getD 50 undef, l.getD 51 undef, l.getD 52 undef, l.getD 53 undef, l.getD 54 undef, l.getD 55 undef, l.getD 56 undef, l.getD 57 undef, l.getD 58 undef, l.getD 59 undef, l.getD 60 undef, l.getD 61 undef, l.getD 62 undef, l.getD 63 undef, l.getD 64 undef, l.getD 65 undef, l.getD 66 undef, l.getD 67 undef, l.getD 68 undef, l.getD 69 undef, l.getD 70 undef, l.getD 71 undef, l.getD 72 undef, l.getD 73 undef, l.getD 74 undef, l.getD 75 undef, l.getD 76 undef, l.getD 77 undef, l.getD 78 undef, l.getD 79 undef, l.getD 80 undef, l.getD 81 undef, l.getD 82 undef, l.getD 83 undef, l.getD 84 undef, l.getD 85 undef, l.getD 86 undef, l.getD 87 undef, l.getD 88 undef, l.getD 89 undef, l.getD 90 undef, l.getD 91 undef, l.getD 92 undef, l.getD 93 undef, l.getD 94 undef, l.getD 95 undef, l.getD 96 undef, l.getD 97 undef, l.getD 98 undef, l.getD 99 undef, l.getD 100 undef, l.getD 101 undef, l.getD 102 undef, l.getD 103 undef, l.getD 104 undef, l.getD 105 undef, l.getD 106 undef, l.getD 107 undef, l.getD 108 undef, l.getD 109 undef, l.getD 110 undef, l.getD 111 undef, l.getD 112 undef, l.getD 113 undef, l.getD 114 undef, l.getD 115 undef, l.getD 116 undef, l.getD 117 undef, l.getD 118 undef, l.getD 119 undef, l.getD 120 undef, l.getD 121 undef, l.getD 122 undef, l.getD 123 undef, l.getD 124 undef, l.getD 125 undef, l.getD 126 undef, l.getD 127 undef, l.getD 128 undef, l.getD 129 undef, l.getD 130 undef, l.getD 131 undef, l.getD 132 undef, l.getD 133 undef, l.getD 134 undef, l.getD 135 undef, l.getD 136 undef, l.getD 137 undef, l.getD 138 undef, l.getD 139 undef, l.getD 140 undef, l.getD 141 undef] from rfl]
  rw [h0, h2, h6, h7, h8, h49]
  cases k0 : (x.kind.toList == [112, 117, 116]) with
  | true => exact tc_put (fun i => l.getD i undef) W w R Bc bc i q sl x es ds k0 hB hS hq hm
  | false =>
    cases k1 : (x.kind.toList == [100, 114, 111, 112]) with
    | true => exact tc_drop (fun i => l.getD i undef) W w R Bc bc i q sl x es ds k0 k1 hB hS hq hm
    | false =>
      cases k2 : (x.kind.toList == [102, 111, 114, 103, 101, 116]) with
      | true => exact tc_forget (fun i => l.getD i undef) W w R Bc bc i q sl x es ds k0 k1 k2 hB hS hq hm
      | false => exact tc_other (fun i => l.getD i undef) W w R Bc bc i q sl x es ds k0 k1 k2 hB hS hq hm
noncomputable def tcLoop : Code := (Try.f8.body.bind loopIn).getD .skip
set_option maxHeartbeats 4000000 in
theorem tc_round (W wr : World) (R Bc bc len cap i k : Nat) (a : Option Addr) (acts : Nat → Ac) (hl : len ≤ 80) (hacts : ActsAt W a len acts) (c : Nat → Value) (es : List En) (ds : List Nat) (hik : i + k = len) (h0 : c 0 = .slice a len cap) (h2 : c 2 = .pointer (some ⟨R, 0, none⟩)) (h6 : c 6 = .pointer (some ⟨Bc, 0, none⟩)) (h7 : c 7 = .int .i64 i)
    (hS : TcS W wr R Bc bc es ds) {Q : Exit → Act → World → Prop} (hlt : i < len) {K : Act → World → Prop} (hK : ∀ (l : List Value) (es' : List En) (ds' : List Nat) (w' : World), l.length = 142 → l.getD 0 undef = .slice a len cap → l.getD 2 undef = .pointer (some ⟨R, 0, none⟩) → l.getD 6 undef = .pointer (some ⟨Bc, 0, none⟩) → l.getD 7 undef = .int .i64 ((i + 1 : Nat) : Int) → TcS W w' R Bc bc es' ds' → K ⟨l.toArray, marks ds'⟩ w') :
    Code.wp Try.prog tcLoop (Exit.then K Q) ⟨((List.range 142).map c).toArray, marks ds⟩ wr := by
  have HK : Hid _ := hK
  have HS : Hid _ := hS
  obtain ⟨ab, ao, rfl, hact⟩ := hacts i hlt
  have hact := hact.upd hS.up (fun f => f)
  generalize acts i = x at hact
  have c0 := hact.c0
  have c1 := hact.c1
  have c2 := hact.c2
  have c3 := hact.c3
  have c4 := hact.c4
  have c5 := hact.c5
  have i0 : (0 : Int) ≤ (i : Int) := by omega
  have i1 : (i : Int) < len := by omega
  have hB := BoxAt.new wr x
  have hu := (Upd.refl (fun _ => False) wr).alloc (.cells #[.string x.kind, .int .i64 x.n, .int .i64 x.a, .int .i64 x.b, .int .u8 x.v, .bool x.on] 38)
  have HB : Hid _ := hB
  have HS1 : Hid _ := hS.same hu
  have b0 := hB.c0
  have hq : Bc < wr.heap.size := World.block_lt_of_cell? wr _ hS.pc
  have HQ : Hid _ := hq
  clear hK hS hact hB hu hq hacts
  rw [show ((List.range 142).map c).toArray = #[c 0, c 1, c 2, c 3, c 4, c 5, c 6, c 7, c 8, c 9, c 10, c 11, c 12, c 13, c 14, c 15, c 16, c 17, c 18, c 19, c 20, c 21, c 22, c 23, c 24, c 25, c 26, c 27, c 28, c 29, c 30, c 31, c 32, c 33, c 34, c 35, c 36, c 37, c 38, c 39, c 40, c 41, c 42, c 43, c 44, c 45, c 46, c 47, c 48, c 49, c 50, c 51, c 52, c 53, c 54, c 55, c 56, c 57, c 58, c 59, c 60, c 61, c 62, c 63, c 64, c 65, c 66, c 67, c 68, c 69, c 70, c 71, c 72, c 73, c 74, c 75, c 76, c 77, c 78, c 79, c 80, c 81, c 82, c 83, c 84, c 85, c 86, c 87, c 88, c 89, c 90, c 91, c 92, c 93, c 94, c 95, c 96, c 97, c 98, c 99, c 100, c 101, c 102, c 103, c 104, c 105, c 106, c 107, c 108, c 109, c 110, c 111, c 112, c 113, c 114, c 115, c 116, c 117, c 118, c 119, c 120, c 121, c 122, c 123, c 124, c 125, c 126, c 127, c 128, c 129, c 130, c 131, c 132, c 133, c 134, c 135, c 136, c 137, c 138, c 139, c 140, c 141] from rfl, h0, h2, h6, h7]
  conv => arg 2; whnf
  go_upto_block 2 with fail
  refine tc_sw _ rfl W _ R Bc bc i wr.heap.size (.slice (some ⟨ab, ao, none⟩) len cap) x es ds rfl rfl rfl rfl rfl rfl HB.out HS1.out HQ.out ?_
  intro c' es' ds' w' h0' h2' h6' h7' hS'
  clear HB HS1 HS c0 c1 c2 c3 c4 c5 b0 HQ
  rw [show ((List.range 142).map c').toArray = #[c' 0, c' 1, c' 2, c' 3, c' 4, c' 5, c' 6, c' 7, c' 8, c' 9, c' 10, c' 11, c' 12, c' 13, c' 14, c' 15, c' 16, c' 17, c' 18, c' 19, c' 20, c' 21, c' 22, c' 23, c' 24, c' 25, c' 26, c' 27, c' 28, c' 29, c' 30, c' 31, c' 32, c' 33, c' 34, c' 35, c' 36, c' 37, c' 38, c' 39, c' 40, c' 41, c' 42, c' 43, c' 44, c' 45, c' 46, c' 47, c' 48, c' 49, c' 50, c' 51, c' 52, c' 53, c' 54, c' 55, c' 56, c' 57, c' 58, c' 59, c' 60, c' 61, c' 62, c' 63, c' 64, c' 65, c' 66, c' 67, c' 68, c' 69, c' 70, c' 71, c' 72, c' 73, c' 74, c' 75, c' 76, c' 77, c' 78, c' 79, c' 80, c' 81, c' 82, c' 83, c' 84, c' 85, c' 86, c' 87, c' 88, c' 89, c' 90, c' 91, c' 92, c' 93, c' 94, c' 95, c' 96, c' 97, c' 98, c' 99, c' 100, c' 101, c' 102, c' 103, c' 104, c' 105, c' 106, c' 107, c' 108, c' 109, c' 110, c' 111, c' 112, c' 113, c' 114, c' 115, c' 116, c' 117, c' 118, c' 119, c' 120, c' 121, c' 122, c' 123, c' 124, c' 125, c' 126, c' 127, c' 128, c' 129, c' 130, c' 131, c' 132, c' 133, c' 134, c' 135, c' 136, c' 137, c' 138, c' 139, c' 140, c' 141] from rfl, h0', h2', h6', h7']
  have hu1 := (Upd.refl (fun _ => False) w').alloc (.cells #[.int .i64 0] 3)
  have hS1 := hS'.same hu1
  have p1 := hS1.pc
  have HN : Hid _ := box_new w' #[.int .i64 0] 3
  have HS1 : Hid _ := hS1
  have hlt1 : Bc < w'.heap.size := World.block_lt_of_cell? w' _ hS'.pc
  have HL1 : Hid _ := hlt1
  clear hu1 hS1 hS' hlt1
  go_wp2_with fail
  refine (kAll_any _ bc es' HS1.out.ca).mono ?_
  rintro e w2 ⟨B, b', rfl, hB1, hb1, hB2, hC2, hu2⟩
  have HS2 : Hid _ := HS1.out.same hu2
  have HN2 : Hid (w2.heap[w'.heap.size]? = some (.cells #[.int .i64 0] 3)) := (hu2.block w'.heap.size (by simp) (fun f => f)).trans HN.out
  obtain ⟨rv, hr0⟩ := HS2.out.r0
  have HR0 : Hid _ := hr0
  have HB2 : Hid _ := hB2
  have HC2 : Hid (CaL w2 b' es') := hC2
  simp only [World.size_alloc] at hB1 hb1
  have HB1 : Hid (w'.heap.size + 1 ≤ B ∧ w'.heap.size + 1 ≤ b') := ⟨hB1, hb1⟩
  clear hB2 hC2 hr0 p1 HS1 hB1 hb1 hu2 HN
  go_wp2_with fail
  refine tc_rf2L _ rfl ds' w2 B b' R Bc w'.heap.size bc es' rv rfl rfl rfl rfl HS2.out.di HB2.out HC2.out HS2.out.ca HS2.out.pc HN2.out HR0.out HS2.out.rz
    (by have := HL1.out; have := HS2.out.g1; have := HS2.out.g2; omega) (by have := HL1.out; omega) (by have := HL1.out; have := HS2.out.g2; omega) (by have := HB1.out; omega) (by have := HB1.out; omega) ?_
  intro D w3 hD hu3 hn3 hd3
  have HS3 : Hid _ := HS2.out.mark hu3 (fun _ e => by have := HL1.out; omega) (fun k e => by subst e; exact ⟨_, box_cell HN2.out 0⟩) hD hd3
  have n3 : w3.cell? ⟨w'.heap.size, 0, none⟩ = some (.int .i64 (es'.length : Nat)) := box_cell hn3 0
  have hle := HS3.out.ca.le
  have hnn : decide ((4 : Int) < (es'.length : Int)) = false := by simp; omega
  clear hu3 hn3 hd3 hD HS2 HR0 HB2 HC2 HB1 HN2
  go_wp2_with fail
  exact HK.out _ _ _ _ rfl rfl rfl rfl (by show Value.int .i64 _ = _; congr 1) HS3.out
theorem TcS.store {W w : World} {R Bc bc : Nat} {es : List En} {ds : List Nat} (h : TcS W w R Bc bc es ds) : TcS W (w.setCell ⟨R, 0, none⟩ (.bool true)) R Bc bc es ds ∧ (w.setCell ⟨R, 0, none⟩ (.bool true)).cell? ⟨R, 0, none⟩ = some (.bool true) := by
  obtain ⟨rv, hr⟩ := h.r0
  have hv := World.cell?_setCell_same w ⟨R, 0, none⟩ (.bool true) hr
  have u := Upd.one w R 0 (.bool true)
  exact ⟨⟨h.ca.upd u (by have := h.g1; omega), u.cell h.pc (by have := h.g1; have := h.g2; simp only; omega), ⟨_, hv⟩, by rw [World.frozen?_setCell]; exact h.rz, h.up.trans u (fun i hi e => by have := h.g0; omega),
    h.ms.upd u (fun D hD e => mark_ne (h.ms.2 D hD).2.2 hr e), h.di, h.g0, h.g1, h.g2⟩, hv⟩
set_option maxHeartbeats 4000000 in
theorem tc_walk (W : World) (a : Option Addr) (len cap : Nat) (acts : Nat → Ac) (hl : len ≤ 80) (hacts : ActsAt W a len acts) :
    Calls Try.prog 8 #[.slice a len cap] W fun e w' => e = .returned (.bool true) ∧ Upd (fun _ => False) W w' := by
  have HA : Hid _ := hacts
  clear hacts
  refine (callsIn_wide (n := 8)).1 ?_
  refine callsIn_of_wp_marks Try.func8 rfl trivial ?_ rfl
  refine wpIn_wide.2 ?_
  simp only [Try.ntmps8, List.size_toArray, List.length_cons, List.length_nil, Nat.reduceAdd, Nat.reduceSub, Array.replicate_succ, Array.replicate_zero, List.push_toArray, List.append_toArray, List.nil_append, List.cons_append]
  have hz0 := zero_at (W.alloc (.cells #[.bool false] 4)) 88
  simp only [zeroCa, World.size_alloc] at hz0
  have HZ0 : Hid (CaL _ (W.heap.size + 1) []) := ⟨_, hz0, fun i hi => absurd hi (by simp)⟩
  have HU0 : Hid _ := ((Upd.refl (fun _ => False) W).alloc (.cells #[.bool false] 4)).alloc (.cells #[.int .i64 0, .int .i64 0, .int .i64 0, .bool false, .bool false, .bool false, .int .i64 0, .int .i64 0, .int .i64 0, .int .i64 0, .bool false, .bool false, .bool false, .int .i64 0, .int .i64 0, .int .i64 0, .int .i64 0, .bool false, .bool false, .bool false, .int .i64 0, .int .i64 0, .int .i64 0, .int .i64 0, .bool false, .bool false, .bool false, .int .i64 0, .int .i64 0] 88)
  have HR0 : Hid (((W.alloc (.cells #[.bool false] 4)).alloc (.cells #[.int .i64 0, .int .i64 0, .int .i64 0, .bool false, .bool false, .bool false, .int .i64 0, .int .i64 0, .int .i64 0, .int .i64 0, .bool false, .bool false, .bool false, .int .i64 0, .int .i64 0, .int .i64 0, .int .i64 0, .bool false, .bool false, .bool false, .int .i64 0, .int .i64 0, .int .i64 0, .int .i64 0, .bool false, .bool false, .bool false, .int .i64 0, .int .i64 0] 88)).heap[W.heap.size]? = some (.cells #[.bool false] 4)) := by
    show _ = _
    rw [Below.heap_alloc _ _ _ (by simp)]
    exact World.alloc_heap_new W _
  clear hz0
  go_wp2_with fail
  refine (kPut_any _ (W.heap.size + 1) [] ⟨1, 0, 0, false, ⟨false, false, 0⟩⟩ HZ0.out).mono ?_
  rintro e w1 ⟨rfl, hc1, hu1⟩
  have hp : putK [] ⟨1, 0, 0, false, ⟨false, false, 0⟩⟩ = [⟨1, 0, 0, false, ⟨false, false, 0⟩⟩] := by simp [putK, cut1, flt]
  rw [hp] at hc1
  have HC1 : Hid (CaL w1 (W.heap.size + 1) [⟨1, 0, 0, false, ⟨false, false, 0⟩⟩]) := hc1
  have HR1 : Hid (w1.heap[W.heap.size]? = some (.cells #[.bool false] 4)) := (hu1.block W.heap.size (Array.getElem?_eq_some_iff.1 HR0.out).1 (by simp)).trans HR0.out
  have HU1 : Hid _ := HU0.out.trans hu1 (fun i hi e => by omega)
  clear hc1 hu1 hp HZ0 HU0 HR0
  go_wp2_with fail
  refine (kFind_yes w1 (W.heap.size + 1) [⟨1, 0, 0, false, ⟨false, false, 0⟩⟩] 1 0 HC1.out 0 (by simp) (idx_self (es := [⟨1, 0, 0, false, ⟨false, false, 0⟩⟩]) (List.pairwise_singleton _ _) (i := 0) (by simp))).mono ?_
  rintro e w2 ⟨rfl, hu2⟩
  have HR2 : Hid (w2.heap[W.heap.size]? = some (.cells #[.bool false] 4)) := (hu2.block W.heap.size (Array.getElem?_eq_some_iff.1 HR1.out).1 (fun f => f)).trans HR1.out
  have HU2 : Hid _ := HU1.out.trans hu2 (fun _ _ f => f)
  clear hu2 HC1 HR1 HU1
  go_wp2_with fail
  refine (light_yes _ _ _ _ hl).mono ?_
  rintro e w3 ⟨rfl, hw3⟩
  have HW3 : Hid _ := hw3
  clear hw3
  go_wp2_with fail
  have hR3 : w3.heap[W.heap.size]? = some (.cells #[.bool false] 4) := by rw [HW3.out, Below.heap_alloc _ _ _ (Array.getElem?_eq_some_iff.1 HR2.out).1]; exact HR2.out
  have hU3 : Upd (fun _ => False) W w3 := by rw [HW3.out]; exact HU2.out.alloc _
  have hlt3 : W.heap.size < w3.heap.size := (Array.getElem?_eq_some_iff.1 hR3).1
  refine wp_loop_ghost_k (tcI W W.heap.size (w3.heap.size + 1) w3.heap.size len (.slice a len cap)) len ?_ ?_
  · refine tcI_intro (i := 0) (es := []) (ds := []) rfl (by omega) rfl rfl rfl rfl ?_
    have hzz := zero_at w3 88
    have u1 := (Upd.refl (fun _ => False) w3).alloc (.cells zeroCa 88)
    have u2 := u1.alloc (.cells #[.pointer (some ⟨w3.heap.size, 0, none⟩)] 83)
    have hR4 := (u2.block W.heap.size hlt3 (fun f => f)).trans hR3
    have hp := box_new (w3.alloc (.cells zeroCa 88)) #[.pointer (some ⟨w3.heap.size, 0, none⟩)] 83
    rw [World.size_alloc] at hp
    exact ⟨⟨_, hzz.upd ((Upd.refl (fun _ => False) _).alloc _) (fun f => f), fun i hi => absurd hi (by simp)⟩, box_cell hp 0, ⟨false, box_cell hR4 0⟩, box_frozen hR4 0, hU3.trans u2 (fun _ _ f => f), Marks.nil _ _, dist_nil, Nat.le_refl _, hlt3, Nat.lt_succ_self _⟩
  · rintro k aa wr ⟨c, es, ds, i, hik, h0, h2, h6, h7, hS, rfl⟩ J K hJ hK
    by_cases hlt : i < len
    · refine tc_round W wr W.heap.size (w3.heap.size + 1) w3.heap.size len cap i k a acts hl HA.out c es ds hik h0 h2 h6 h7 hS hlt ?_
      intro l es' ds' w' hl' h0' h2' h6' h7' hS'
      exact hK _ _ (Handed.intro (k - 1) (by omega) (hJ _ _ _ (tcI_intro (i := i + 1) hl' (by omega) h0' h2' h6' h7' hS')))
    · have hil : i = len := by omega
      subst hil
      obtain ⟨rv, r0⟩ := hS.r0
      have rz := hS.rz
      have HS : Hid _ := hS
      have hd : decide ((i : Int) < (i : Int)) = false := by simp
      rw [show ((List.range 142).map c).toArray = #[c 0, c 1, c 2, c 3, c 4, c 5, c 6, c 7, c 8, c 9, c 10, c 11, c 12, c 13, c 14, c 15, c 16, c 17, c 18, c 19, c 20, c 21, c 22, c 23, c 24, c 25, c 26, c 27, c 28, c 29, c 30, c 31, c 32, c 33, c 34, c 35, c 36, c 37, c 38, c 39, c 40, c 41, c 42, c 43, c 44, c 45, c 46, c 47, c 48, c 49, c 50, c 51, c 52, c 53, c 54, c 55, c 56, c 57, c 58, c 59, c 60, c 61, c 62, c 63, c 64, c 65, c 66, c 67, c 68, c 69, c 70, c 71, c 72, c 73, c 74, c 75, c 76, c 77, c 78, c 79, c 80, c 81, c 82, c 83, c 84, c 85, c 86, c 87, c 88, c 89, c 90, c 91, c 92, c 93, c 94, c 95, c 96, c 97, c 98, c 99, c 100, c 101, c 102, c 103, c 104, c 105, c 106, c 107, c 108, c 109, c 110, c 111, c 112, c 113, c 114, c 115, c 116, c 117, c 118, c 119, c 120, c 121, c 122, c 123, c 124, c 125, c 126, c 127, c 128, c 129, c 130, c 131, c 132, c 133, c 134, c 135, c 136, c 137, c 138, c 139, c 140, c 141] from rfl, h0, h2, h6, h7]
      clear hS HA hR3 hU3 hlt3 HR2 HU2 HW3 hJ hK h0 h2 h6 h7
      go_wp2_with fail
      obtain ⟨hS', hv⟩ := HS.out.store
      exact tc_leaves hS' hv (fun w' hv' hu' => ⟨.bool true, by simp [results, Try.results8, go_sem, hv'], rfl, hu'⟩)
set_option maxHeartbeats 4000000 in
theorem tc_long (W : World) (a : Option Addr) (len cap : Nat) (hl : 80 < len) :
    Calls Try.prog 8 #[.slice a len cap] W fun e w' => e = .returned (.bool true) ∧ Upd (fun _ => False) W w' := by
  go_enter Try.func8, Try.ntmps8
  have hz0 := zero_at (W.alloc (.cells #[.bool false] 4)) 88
  simp only [zeroCa, World.size_alloc] at hz0
  have HZ0 : Hid (CaL _ (W.heap.size + 1) []) := ⟨_, hz0, fun i hi => absurd hi (by simp)⟩
  have HU0 : Hid _ := ((Upd.refl (fun _ => False) W).alloc (.cells #[.bool false] 4)).alloc (.cells #[.int .i64 0, .int .i64 0, .int .i64 0, .bool false, .bool false, .bool false, .int .i64 0, .int .i64 0, .int .i64 0, .int .i64 0, .bool false, .bool false, .bool false, .int .i64 0, .int .i64 0, .int .i64 0, .int .i64 0, .bool false, .bool false, .bool false, .int .i64 0, .int .i64 0, .int .i64 0, .int .i64 0, .bool false, .bool false, .bool false, .int .i64 0, .int .i64 0] 88)
  have HR0 : Hid (((W.alloc (.cells #[.bool false] 4)).alloc (.cells #[.int .i64 0, .int .i64 0, .int .i64 0, .bool false, .bool false, .bool false, .int .i64 0, .int .i64 0, .int .i64 0, .int .i64 0, .bool false, .bool false, .bool false, .int .i64 0, .int .i64 0, .int .i64 0, .int .i64 0, .bool false, .bool false, .bool false, .int .i64 0, .int .i64 0, .int .i64 0, .int .i64 0, .bool false, .bool false, .bool false, .int .i64 0, .int .i64 0] 88)).heap[W.heap.size]? = some (.cells #[.bool false] 4)) := by
    show _ = _
    rw [Below.heap_alloc _ _ _ (by simp)]
    exact World.alloc_heap_new W _
  clear hz0
  go_wp2_with fail
  refine (kPut_any _ (W.heap.size + 1) [] ⟨1, 0, 0, false, ⟨false, false, 0⟩⟩ HZ0.out).mono ?_
  rintro e w1 ⟨rfl, hc1, hu1⟩
  have hp : putK [] ⟨1, 0, 0, false, ⟨false, false, 0⟩⟩ = [⟨1, 0, 0, false, ⟨false, false, 0⟩⟩] := by simp [putK, cut1, flt]
  rw [hp] at hc1
  have HC1 : Hid (CaL w1 (W.heap.size + 1) [⟨1, 0, 0, false, ⟨false, false, 0⟩⟩]) := hc1
  have HR1 : Hid (w1.heap[W.heap.size]? = some (.cells #[.bool false] 4)) := (hu1.block W.heap.size (Array.getElem?_eq_some_iff.1 HR0.out).1 (by simp)).trans HR0.out
  have HU1 : Hid _ := HU0.out.trans hu1 (fun i hi e => by omega)
  clear hc1 hu1 hp HZ0 HU0 HR0
  go_wp2_with fail
  refine (kFind_yes w1 (W.heap.size + 1) [⟨1, 0, 0, false, ⟨false, false, 0⟩⟩] 1 0 HC1.out 0 (by simp) (idx_self (es := [⟨1, 0, 0, false, ⟨false, false, 0⟩⟩]) (List.pairwise_singleton _ _) (i := 0) (by simp))).mono ?_
  rintro e w2 ⟨rfl, hu2⟩
  have HR2 : Hid (w2.heap[W.heap.size]? = some (.cells #[.bool false] 4)) := (hu2.block W.heap.size (Array.getElem?_eq_some_iff.1 HR1.out).1 (fun f => f)).trans HR1.out
  have HU2 : Hid _ := HU1.out.trans hu2 (fun _ _ f => f)
  clear hu2 HC1 HR1 HU1
  go_wp2_with fail
  refine (light_no _ _ _ _ hl).mono ?_
  rintro e w3 ⟨rfl, hw3⟩
  have hR3 : w3.heap[W.heap.size]? = some (.cells #[.bool false] 4) := by rw [hw3, Below.heap_alloc _ _ _ (Array.getElem?_eq_some_iff.1 HR2.out).1]; exact HR2.out
  have HU3 : Hid (Upd (fun _ => False) W w3) := by show Upd _ _ _; rw [hw3]; exact HU2.out.alloc _
  have r0 : w3.cell? ⟨W.heap.size, 0, none⟩ = some (.bool false) := box_cell hR3 0
  have rz : w3.frozen? ⟨W.heap.size, 0, none⟩ = false := box_frozen hR3 0
  clear hw3 hR3 HU2 HR2
  go_wp2_with fail
  have hv := World.cell?_setCell_same w3 ⟨W.heap.size, 0, none⟩ (.bool true) r0
  exact bodyPost_ret (v := .bool true) (by simp [results, Try.results8, go_sem, hv]) rfl ⟨rfl, HU3.out.trans (Upd.one w3 W.heap.size 0 (.bool true)) (fun i hi e => by omega)⟩
end Go.Proofs.Ytadpibcgjgcjhaa
