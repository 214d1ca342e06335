/- undercroftlaw.CacheSays: a round. -/
import Derived.Test.YtehdddmpjimfhaaCsG
namespace Go.Proofs.Ytehdddmpjimfhaa
open Go.ChangeShapes Go.WideShapes Go.ChangeAt Go.RowKit Go.Shelf
set_option maxRecDepth 1000000
attribute [local go_sem ↓] Go.wp_at_zero Go.wp_at_succ

theorem cs_sw (l : List Value) (hl : l.length = 251) (W w : World) (R Bm bc i q : Nat) (vm sl : Value) (x : Ac) (es : List En) (ds : List Nat) (h0 : l.getD 0 undef = sl) (h2 : l.getD 2 undef = .pointer (some ⟨R, 0, none⟩)) (h4 : l.getD 4 undef = .pointer (some ⟨bc, 0, none⟩)) (h5 : l.getD 5 undef = .pointer (some ⟨Bm, 0, none⟩)) (h6 : l.getD 6 undef = .int .i64 i) (h7 : l.getD 7 undef = .pointer (some ⟨q, 0, none⟩)) (h8 : l.getD 8 undef = .bool true) (h49 : l.getD 49 undef = .string x.kind)
    (hB : BoxAt w q x) (hS : CsS W w R Bm bc vm es es ds) (hq : Bm < q) (hq2 : bc < q) {Q : Exit → Act → World → Prop} (hm : csPost W R Bm sl i Q) : Code.wp Try.prog csSw Q ⟨l.toArray, marks ds⟩ w := by
  rw [frame_fn l, hl, show ((List.range 251).map (fun i => l.getD i undef)).toArray = #[l.getD 0 undef, l.getD 1 undef, l.getD 2 undef, l.getD 3 undef, l.getD 4 undef, l.getD 5 undef, l.getD 6 undef, l.getD 7 undef, l.getD 8 undef, l.getD 9 undef, l.getD 10 undef, l.getD 11 undef, l.getD 12 undef, l.getD 13 undef, l.getD 14 undef, l.getD 15 undef, l.getD 16 undef, l.getD 17 undef, l.getD 18 undef, l.getD 19 undef, l.getD 20 undef, l.getD 21 undef, l.getD 22 undef, l.getD 23 undef, l.getD 24 undef, l.getD 25 undef, l.getD 26 undef, l.getD 27 undef, l.getD 28 undef, l.getD 29 undef, l.getD 30 undef, l.getD 31 undef, l.getD 32 undef, l.getD 33 undef, l.getD 34 undef, l.getD 35 undef, l.getD 36 undef, l.getD 37 undef, l.getD 38 undef, l.getD 39 undef, l.getD 40 undef, l.getD 41 undef, l.getD 42 undef, l.getD 43 undef, l.getD 44 undef, l.getD 45 undef, l.getD 46 undef, l.getD 47 undef, l.getD 48 undef, l.getD 49 undef, l.getD 50 undef, l.getD 51 undef, l.getD 52 undef, l.getD 53 undef, l.getD 54 undef, l.getD 55 undef, l.getD 56 undef, l.getD 57 undef, l.getD 58 undef, l.getD 59 undef, l.getD 60 undef, l.getD 61 undef, l.getD 62 undef, l.getD 63 undef, l.getD 64 undef, l.getD 65 undef, l.getD 66 undef, l.getD 67 undef, l.getD 68 undef, l.getD 69 undef, l.getD 70 undef, l.getD 71 undef, l.getD 72 undef, l.getD 73 undef, l.getD 74 undef, l.getD 75 undef, l.getD 76 undef, l.getD 77 undef, l.getD 78 undef, l.getD 79 undef, l.getD 80 undef, l.getD 81 undef, l.getD 82 undef, l.getD 83 undef, l.getD 84 undef, l.getD 85 undef, l.getD 86 undef, l.getD 87 undef, l.getD 88 undef, l.getD 89 undef, l.getD 90 undef, l.getD 91 undef, l.getD 92 undef, l.getD 93 undef, l.getD 94 undef, l.getD 95 undef, l.getD 96 undef, l.getD 97 undef, l.getD 98 undef, l.getD 99 undef, l.getD 100 undef, l.getD 101 undef, l.getD 102 undef, l.getD 103 undef, l.getD 104 undef, l.getD 105 undef, l.getD 106 undef, l.getD 107 undef, l.getD 108 undef, l.getD 109 undef, l.getD 110 undef, l.getD 111 undef, l.getD 112 undef, l.getD 113 undef, l.getD 114 undef, l.getD 115 undef, l.getD 116 undef, l.getD 117 undef, l.getD 118 undef, l.getD 119 undef, l.getD 120 undef, l.getD 121 undef, l.getD 122 undef, l.getD 123 undef, l.getD 124 undef, l.getD 125 undef, l.getD 126 undef, l.getD 127 undef, l.getD 128 undef, l.getD 129 undef, l.getD 130 undef, l.getD 131 undef, l.getD 132 undef, l.getD 133 undef, l.getD 134 undef, l.getD 135 undef, l.getD 136 undef, l.getD 137 undef, l.getD 138 undef, l.getD 139 undef, l.getD 140 undef, l.getD 141 undef, l.getD 142 undef, l.getD 143 undef, l.getD 144 undef, l.getD 145 undef, l.getD 146 undef, l.getD 147 undef, l.getD 148 undef, l.getD 149 undef, l.getD 150 undef, l.getD 151 undef, l.getD 152 undef, l.getD 153 undef, l.getD 154 undef, l.getD 155 undef, l.getD 156 undef, l.getD 157 undef, l.getD 158 undef, l.getD 159 undef, l.getD 160 undef, l.getD 161 undef, l.getD 162 undef, l.getD 163 undef, l.getD 164 undef, l.getD 165 undef, l.getD 166 undef, l.getD 167 undef, l.getD 168 undef, l.getD 169 undef, l.getD 170 undef, l.getD 171 undef, l.getD 172 undef, l.getD 173 undef, l.getD 174 undef, l.getD 175 undef, l.getD 176 undef, l.getD 177 undef, l.getD 178 undef, l.getD 179 undef, l.getD 180 undef, l.getD 181 undef, l.getD 182 undef, l.getD 183 undef, l.getD 184 undef, l.getD 185 undef, l.getD 186 undef, l.getD 187 undef, l.getD 188 undef, l.getD 189 undef, l.getD 190 undef, l.getD 191 undef, l.getD 192 undef, l.getD 193 undef, l.getD 194 undef, l.getD 195 undef, l.getD 196 undef, l.getD 197 undef, l.getD 198 undef, l.getD 199 undef, l.getD 200 undef, l.getD 201 undef, l.getD 202 undef, l.getD 203 undef, l.getD 204 undef, l.getD 205 undef, l.getD 206 undef, l.getD 207 undef, l.getD 208 undef, l.getD 209 undef, l.getD 210 undef, l.getD 211 undef, l.getD 212 undef, l.getD 213 undef, l.getD 214 undef, l.getD 215 undef, l.getD 216 undef, l.getD 217 undef, l.getD 218 undef, l.getD 219 undef, l.getD 220 undef, l.getD 221 undef, l.getD 222 undef, l.getD 223 undef, l.getD 224 undef, l.getD 225 undef, l.getD 226 undef, l.getD 227 undef, l.getD 228 undef, l.getD 229 undef, l.getD 230 undef, l.getD 231 undef, l.getD 232 undef, l.getD 233 undef, l.getD 234 undef, l.getD 235 undef, l.getD 236 undef, l.getD 237 undef, l.getD 238 undef, l.getD 239 undef, l.getD 240 undef, l.getD 241 undef, l.getD 242 undef, l.getD 243 undef, l.getD 244 undef, l.getD 245 undef, l.getD 246 undef, l.getD 247 undef, l.getD 248 undef, l.getD 249 undef, l.getD 250 undef] from rfl]
  rw [h0, h2, h4, h5, h6, h7, h8, h49]
  cases k0 : (x.kind.toList == [112, 117, 116]) with
  | true => exact cs_put (fun i => l.getD i undef) W w R Bm bc i q vm sl x es ds k0 hB hS hq hq2 hm
  | false =>
    cases k1 : (x.kind.toList == [102, 105, 110, 100]) with
    | true => exact cs_find (fun i => l.getD i undef) W w R Bm bc i q vm sl x es ds k0 k1 hB hS hq hq2 hm
    | false =>
      cases k2 : (x.kind.toList == [100, 114, 111, 112]) with
      | true => exact cs_drop (fun i => l.getD i undef) W w R Bm bc i q vm sl x es ds k0 k1 k2 hB hS hq hq2 hm
      | false =>
        cases k3 : (x.kind.toList == [102, 111, 114, 103, 101, 116]) with
        | true => exact cs_forget (fun i => l.getD i undef) W w R Bm bc i q vm sl x es ds k0 k1 k2 k3 hB hS hq hq2 hm
        | false =>
          cases k4 : (x.kind.toList == [112, 111, 105, 110, 116]) with
          | true => exact cs_point (fun i => l.getD i undef) W w R Bm bc i q vm sl x es ds k0 k1 k2 k3 k4 hB hS hq hq2 hm
          | false =>
            cases k5 : (x.kind.toList == [111, 118, 101, 114]) with
            | true => exact cs_over (fun i => l.getD i undef) W w R Bm bc i q vm sl x es ds k0 k1 k2 k3 k4 k5 hB hS hq hq2 hm
            | false =>
              exact cs_other (fun i => l.getD i undef) W w R Bm bc i q vm sl x es ds k0 k1 k2 k3 k4 k5 hB hS hq hq2 hm
noncomputable def csLoop : Code := (Try.f7.body.bind loopIn).getD .skip
set_option maxHeartbeats 40000000 in
theorem cs_round (W wr : World) (R Bm bc len cap i k : Nat) (vm : Value) (a : Option Addr) (acts : Nat → Ac) (hl : len ≤ 80) (hacts : ActsAt W a len acts) (c : Nat → Value) (es : List En) (ds : List Nat) (_hik : i + k = len) (h0 : c 0 = .slice a len cap) (h2 : c 2 = .pointer (some ⟨R, 0, none⟩)) (h4 : c 4 = .pointer (some ⟨bc, 0, none⟩)) (h5 : c 5 = .pointer (some ⟨Bm, 0, none⟩)) (h6 : c 6 = .int .i64 i)
    (hS : CsS W wr R Bm bc vm es es ds) {Q : Exit → Act → World → Prop} (hlt : i < len) {K : Act → World → Prop} (hK : ∀ (l : List Value) (es' : List En) (ds' : List Nat) (bc' : Nat) (vm' : Value) (w' : World), l.length = 251 → l.getD 0 undef = .slice a len cap → l.getD 2 undef = .pointer (some ⟨R, 0, none⟩) → l.getD 4 undef = .pointer (some ⟨bc', 0, none⟩) → l.getD 5 undef = .pointer (some ⟨Bm, 0, none⟩) → l.getD 6 undef = .int .i64 ((i + 1 : Nat) : Int) → CsS W w' R Bm bc' vm' es' es' ds' → K ⟨l.toArray, marks ds'⟩ w') :
    Code.wp Try.prog csLoop (Exit.then K Q) ⟨((List.range 251).map c).toArray, marks ds⟩ wr := by
  have HK : Hid _ := hK
  obtain ⟨ab, ao, rfl, hact⟩ := hacts i hlt
  have hact := hact.upd hS.up (fun f => f)
  generalize acts i = x at hact
  have c0 := hact.c0
  have c1 := hact.c1
  have c2 := hact.c2
  have c3 := hact.c3
  have c4 := hact.c4
  have c5 := hact.c5
  have i0 : (0 : Int) ≤ (i : Int) := by omega
  have i1 : (i : Int) < len := by omega
  have hB := BoxAt.new wr x
  have hu := (Upd.refl (fun _ => False) wr).alloc (.cells #[.string x.kind, .int .i64 x.n, .int .i64 x.a, .int .i64 x.b, .int .u8 x.v, .bool x.on] 38)
  have HB : Hid _ := hB
  have HS1 : Hid _ := hS.same hu
  have b0 := hB.c0
  have HQ : Hid (Bm < wr.heap.size ∧ bc < wr.heap.size) := ⟨(Array.getElem?_eq_some_iff.1 hS.pm).1, hS.ca.lt⟩
  clear hK hS hact hB hu hacts
  rw [show ((List.range 251).map c).toArray = #[c 0, c 1, c 2, c 3, c 4, c 5, c 6, c 7, c 8, c 9, c 10, c 11, c 12, c 13, c 14, c 15, c 16, c 17, c 18, c 19, c 20, c 21, c 22, c 23, c 24, c 25, c 26, c 27, c 28, c 29, c 30, c 31, c 32, c 33, c 34, c 35, c 36, c 37, c 38, c 39, c 40, c 41, c 42, c 43, c 44, c 45, c 46, c 47, c 48, c 49, c 50, c 51, c 52, c 53, c 54, c 55, c 56, c 57, c 58, c 59, c 60, c 61, c 62, c 63, c 64, c 65, c 66, c 67, c 68, c 69, c 70, c 71, c 72, c 73, c 74, c 75, c 76, c 77, c 78, c 79, c 80, c 81, c 82, c 83, c 84, c 85, c 86, c 87, c 88, c 89, c 90, c 91, c 92, c 93, c 94, c 95, c 96, c 97, c 98, c 99, c 100, c 101, c 102, c 103, c 104, c 105, c 106, c 107, c 108, c 109, c 110, c 111, c 112, c 113, c 114, c 115, c 116, c 117, c 118, c 119, c 120, c 121, c 122, c 123, c 124, c 125, c 126, c 127, c 128, c 129, c 130, c 131, c 132, c 133, c 134, c 135, c 136, c 137, c 138, c 139, c 140, c 141, c 142, c 143, c 144, c 145, c 146, c 147, c 148, c 149, c 150, c 151, c 152, c 153, c 154, c 155, c 156, c 157, c 158, c 159, c 160, c 161, c 162, c 163, c 164, c 165, c 166, c 167, c 168, c 169, c 170, c 171, c 172, c 173, c 174, c 175, c 176, c 177, c 178, c 179, c 180, c 181, c 182, c 183, c 184, c 185, c 186, c 187, c 188, c 189, c 190, c 191, c 192, c 193, c 194, c 195, c 196, c 197, c 198, c 199, c 200, c 201, c 202, c 203, c 204, c 205, c 206, c 207, c 208, c 209, c 210, c 211, c 212, c 213, c 214, c 215, c 216, c 217, c 218, c 219, c 220, c 221, c 222, c 223, c 224, c 225, c 226, c 227, c 228, c 229, c 230, c 231, c 232, c 233, c 234, c 235, c 236, c 237, c 238, c 239, c 240, c 241, c 242, c 243, c 244, c 245, c 246, c 247, c 248, c 249, c 250] from rfl, h0, h2, h4, h5, h6]
  conv => arg 2; whnf
  go_upto_block 2 with fail
  refine cs_sw _ rfl W _ R Bm bc i wr.heap.size vm (.slice (some ⟨ab, ao, none⟩) len cap) x es ds rfl rfl rfl rfl rfl rfl rfl rfl HB.out HS1.out HQ.out.1 HQ.out.2 ?_
  intro c' es' ds' bc' vm' w' h0' h2' h4' h5' h6' h8' hS'
  have HS' : Hid _ := hS'
  clear HB HS1 c0 c1 c2 c3 c4 c5 b0 HQ hS'
  rw [show ((List.range 251).map c').toArray = #[c' 0, c' 1, c' 2, c' 3, c' 4, c' 5, c' 6, c' 7, c' 8, c' 9, c' 10, c' 11, c' 12, c' 13, c' 14, c' 15, c' 16, c' 17, c' 18, c' 19, c' 20, c' 21, c' 22, c' 23, c' 24, c' 25, c' 26, c' 27, c' 28, c' 29, c' 30, c' 31, c' 32, c' 33, c' 34, c' 35, c' 36, c' 37, c' 38, c' 39, c' 40, c' 41, c' 42, c' 43, c' 44, c' 45, c' 46, c' 47, c' 48, c' 49, c' 50, c' 51, c' 52, c' 53, c' 54, c' 55, c' 56, c' 57, c' 58, c' 59, c' 60, c' 61, c' 62, c' 63, c' 64, c' 65, c' 66, c' 67, c' 68, c' 69, c' 70, c' 71, c' 72, c' 73, c' 74, c' 75, c' 76, c' 77, c' 78, c' 79, c' 80, c' 81, c' 82, c' 83, c' 84, c' 85, c' 86, c' 87, c' 88, c' 89, c' 90, c' 91, c' 92, c' 93, c' 94, c' 95, c' 96, c' 97, c' 98, c' 99, c' 100, c' 101, c' 102, c' 103, c' 104, c' 105, c' 106, c' 107, c' 108, c' 109, c' 110, c' 111, c' 112, c' 113, c' 114, c' 115, c' 116, c' 117, c' 118, c' 119, c' 120, c' 121, c' 122, c' 123, c' 124, c' 125, c' 126, c' 127, c' 128, c' 129, c' 130, c' 131, c' 132, c' 133, c' 134, c' 135, c' 136, c' 137, c' 138, c' 139, c' 140, c' 141, c' 142, c' 143, c' 144, c' 145, c' 146, c' 147, c' 148, c' 149, c' 150, c' 151, c' 152, c' 153, c' 154, c' 155, c' 156, c' 157, c' 158, c' 159, c' 160, c' 161, c' 162, c' 163, c' 164, c' 165, c' 166, c' 167, c' 168, c' 169, c' 170, c' 171, c' 172, c' 173, c' 174, c' 175, c' 176, c' 177, c' 178, c' 179, c' 180, c' 181, c' 182, c' 183, c' 184, c' 185, c' 186, c' 187, c' 188, c' 189, c' 190, c' 191, c' 192, c' 193, c' 194, c' 195, c' 196, c' 197, c' 198, c' 199, c' 200, c' 201, c' 202, c' 203, c' 204, c' 205, c' 206, c' 207, c' 208, c' 209, c' 210, c' 211, c' 212, c' 213, c' 214, c' 215, c' 216, c' 217, c' 218, c' 219, c' 220, c' 221, c' 222, c' 223, c' 224, c' 225, c' 226, c' 227, c' 228, c' 229, c' 230, c' 231, c' 232, c' 233, c' 234, c' 235, c' 236, c' 237, c' 238, c' 239, c' 240, c' 241, c' 242, c' 243, c' 244, c' 245, c' 246, c' 247, c' 248, c' 249, c' 250] from rfl, h0', h2', h4', h5', h6', h8']
  go_wp2_with fail
  exact HK.out _ _ _ _ _ _ rfl rfl rfl rfl rfl (by show Value.int .i64 _ = _; congr 1) HS'.out
set_option maxHeartbeats 4000000 in
theorem kKeeps_any (w : World) : Calls Try.prog 43 #[] w fun e w' => e = .returned (.bool true) ∧ Upd (fun _ => False) w w' := by
  have hz0 := zero_at w 88
  simp only [zeroCa] at hz0
  have HZ0 : Hid (CaL _ w.heap.size []) := ⟨_, hz0, fun i hi => absurd hi (by simp)⟩
  have HU0 : Hid _ := (Upd.refl (fun _ => False) w).alloc (.cells #[.int .i64 0, .int .i64 0, .int .i64 0, .bool false, .bool false, .bool false, .int .i64 0, .int .i64 0, .int .i64 0, .int .i64 0, .bool false, .bool false, .bool false, .int .i64 0, .int .i64 0, .int .i64 0, .int .i64 0, .bool false, .bool false, .bool false, .int .i64 0, .int .i64 0, .int .i64 0, .int .i64 0, .bool false, .bool false, .bool false, .int .i64 0, .int .i64 0] 88)
  clear hz0
  go_enter Try.func43, Try.ntmps43
  go_wp2_with fail
  refine (kPut_any _ w.heap.size [] ⟨1, 2, 3, false, ⟨false, false, 0⟩⟩ HZ0.out).mono ?_
  rintro e w1 ⟨rfl, hc1, hu1⟩
  have hp : putK [] ⟨1, 2, 3, false, ⟨false, false, 0⟩⟩ = [⟨1, 2, 3, false, ⟨false, false, 0⟩⟩] := by simp [putK, cut1, flt]
  rw [hp] at hc1
  have HC1 : Hid (CaL w1 w.heap.size [⟨1, 2, 3, false, ⟨false, false, 0⟩⟩]) := hc1
  have HU1 : Hid _ := HU0.out.trans hu1 (fun i hi e => by omega)
  clear hc1 hu1 hp HZ0 HU0
  go_wp2_with fail
  refine (kFind_yes w1 w.heap.size [⟨1, 2, 3, false, ⟨false, false, 0⟩⟩] 1 2 HC1.out 0 (by simp) (idx_self (es := [⟨1, 2, 3, false, ⟨false, false, 0⟩⟩]) (List.pairwise_singleton _ _) (i := 0) (by simp))).mono ?_
  rintro e w2 ⟨rfl, hu2⟩
  have HU2 : Hid _ := HU1.out.trans hu2 (fun _ _ f => f)
  have ea : atE [(⟨1, 2, 3, false, ⟨false, false, 0⟩⟩ : En)] 0 = ⟨1, 2, 3, false, ⟨false, false, 0⟩⟩ := rfl
  rw [ea]
  clear hu2 HC1 HU1 ea
  go_wp2_with fail
  go_ret
  exact ⟨rfl, HU2.out.alloc _⟩
end Go.Proofs.Ytehdddmpjimfhaa
