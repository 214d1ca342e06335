/- undercrofttop.TopMap's join: where two leaves are read. -/
import Derived.Test.YtadpibcgjgcjhaaPart08
namespace Go.Proofs.Ytadpibcgjgcjhaa
open Go.ChangeShapes Go.WideShapes Go.ChangeAt Go.RowKit
set_option maxRecDepth 1000000
attribute [local go_sem ↓] Go.wp_at_zero Go.wp_at_succ

/-- The block of that number. -/
def blockAt (n : Nat) : Code → Option Code
  | .block i c => if i = n then some (.block i c) else blockAt n c
  | .seq a b => match blockAt n a with
    | some c => some c
    | none => blockAt n b
  | .cond _ a b => match blockAt n a with
    | some c => some c
    | none => blockAt n b
  | .loop c => blockAt n c
  | _ => none
/-- The region of that number. -/
def regionAt (n : Nat) : Code → Option Code
  | .region i ops b => if i = n then some (.region i ops b) else none
  | .block _ c => regionAt n c
  | .seq a b => match regionAt n a with
    | some c => some c
    | none => regionAt n b
  | .cond _ a b => match regionAt n a with
    | some c => some c
    | none => regionAt n b
  | .loop c => regionAt n c
  | _ => none
noncomputable def swCode : Code := (Try.f6.body.bind (blockAt 6)).getD .skip
noncomputable def rgCode31 : Code := (Try.f6.body.bind (regionAt 31)).getD .skip
noncomputable def rgCode32 : Code := (Try.f6.body.bind (regionAt 32)).getD .skip

set_option maxHeartbeats 4000000 in
theorem lf31_0 {c0 c1 c2 c3 c4 c5 c6 c8 c9 c10 c11 c12 c13 c16 c17 c18 c19 c20 c21 c22 c23 c24 c25 c26 c27 c28 c29 c30 c31 c32 c33 c34 c35 c36 c37 c38 c39 c40 c41 c42 c43 c44 c45 c46 c47 c48 c49 c50 c51 c52 c53 c54 c55 c56 c57 c58 c59 c60 c61 c62 c63 c64 c65 c66 c67 c68 c69 c70 c71 c72 c73 c74 c75 c76 c77 c78 c79 c80 c81 c82 c83 c84 c85 c86 c87 c88 c89 c90 c91 c92 c93 c94 c95 c96 c97 c98 c99 c100 c101 c102 c103 c104 c105 c106 c107 c108 c109 c110 c111 c112 c113 c114 c115 c116 c117 c118 c119 c120 c121 c122 c123 c124 c125 c126 c127 c128 c129 c130 c131 c132 c133 c134 c135 c136 c137 c138 c139 c140 c141 c142 c143 c144 c145 c146 c147 c148 c149 c150 c151 c152 c153 c154 c155 c156 c157 c158 c159 c160 c161 c162 c163 c164 c165 c166 c167 c168 c169 c170 c171 c172 c173 c174 c175 c176 c177 c178 c179 c180 c181 c182 c183 c184 c185 c186 c187 c188 c189 c190 c191 c192 c193 c194 c195 c196 c197 c198 c199 c200 c201 c202 c203 c204 c205 c206 c207 c208 c209 c210 c211 c212 c213 c214 c215 c216 c217 c218 c219 c220 c221 : Value} {W W1 : World} {bl0 bl1 qb n q : Nat} {s : Pl} {ma mb : Mp} {t : Nat → Nat → Int} {x : Ac} (hn : 1 ≤ n) (hJ : T2 W W1 bl0 bl1 qb n s ma mb t) (y3 : W1.cell? ⟨q, 3, none⟩ = some (.int .i64 x.b)) {Q : Exit → Act → World → Prop}
    (hm : ∀ (v17 v112 v113 v114 v115 v116 v117 v118 v119 v120 v121 : Value) (w' : World) (qx : Nat) (l1 : Lf), T2 W w' bl0 bl1 qb n s ma mb t → LfAt w' qx l1 → (l1.there = true → onB x.b = true ∧ both ma mb (16 + x.b.toNat) = l1) → q < qx → qb < qx → Upd (fun x => x = qx) W1 w' → W1.heap.size ≤ qx → Q .normal ⟨#[c0, c1, c2, c3, c4, c5, c6, .pointer (some ⟨W.heap.size + 2, 0, none⟩), c8, c9, c10, c11, c12, c13, .pointer (some ⟨q, 0, none⟩), .int .i64 0, .pointer (some ⟨qx, 0, none⟩), v17, c18, c19, c20, c21, c22, c23, c24, c25, c26, c27, c28, c29, c30, c31, c32, c33, c34, c35, c36, c37, c38, c39, c40, c41, c42, c43, c44, c45, c46, c47, c48, c49, c50, c51, c52, c53, c54, c55, c56, c57, c58, c59, c60, c61, c62, c63, c64, c65, c66, c67, c68, c69, c70, c71, c72, c73, c74, c75, c76, c77, c78, c79, c80, c81, c82, c83, c84, c85, c86, c87, c88, c89, c90, c91, c92, c93, c94, c95, c96, c97, c98, c99, c100, c101, c102, c103, c104, c105, c106, c107, c108, c109, c110, c111, v112, v113, v114, v115, v116, v117, v118, v119, v120, v121, c122, c123, c124, c125, c126, c127, c128, c129, c130, c131, c132, c133, c134, c135, c136, c137, c138, c139, c140, c141, c142, c143, c144, c145, c146, c147, c148, c149, c150, c151, c152, c153, c154, c155, c156, c157, c158, c159, c160, c161, c162, c163, c164, c165, c166, c167, c168, c169, c170, c171, c172, c173, c174, c175, c176, c177, c178, c179, c180, c181, c182, c183, c184, c185, c186, c187, c188, c189, c190, c191, c192, c193, c194, c195, c196, c197, c198, c199, c200, c201, c202, c203, c204, c205, c206, c207, c208, c209, c210, c211, c212, c213, c214, c215, c216, c217, c218, c219, c220, c221], []⟩ w') :
    Code.wp Try.prog rgCode31 Q ⟨#[c0, c1, c2, c3, c4, c5, c6, .pointer (some ⟨W.heap.size + 2, 0, none⟩), c8, c9, c10, c11, c12, c13, .pointer (some ⟨q, 0, none⟩), .int .i64 0, c16, c17, c18, c19, c20, c21, c22, c23, c24, c25, c26, c27, c28, c29, c30, c31, c32, c33, c34, c35, c36, c37, c38, c39, c40, c41, c42, c43, c44, c45, c46, c47, c48, c49, c50, c51, c52, c53, c54, c55, c56, c57, c58, c59, c60, c61, c62, c63, c64, c65, c66, c67, c68, c69, c70, c71, c72, c73, c74, c75, c76, c77, c78, c79, c80, c81, c82, c83, c84, c85, c86, c87, c88, c89, c90, c91, c92, c93, c94, c95, c96, c97, c98, c99, c100, c101, c102, c103, c104, c105, c106, c107, c108, c109, c110, c111, c112, c113, c114, c115, c116, c117, c118, c119, c120, c121, c122, c123, c124, c125, c126, c127, c128, c129, c130, c131, c132, c133, c134, c135, c136, c137, c138, c139, c140, c141, c142, c143, c144, c145, c146, c147, c148, c149, c150, c151, c152, c153, c154, c155, c156, c157, c158, c159, c160, c161, c162, c163, c164, c165, c166, c167, c168, c169, c170, c171, c172, c173, c174, c175, c176, c177, c178, c179, c180, c181, c182, c183, c184, c185, c186, c187, c188, c189, c190, c191, c192, c193, c194, c195, c196, c197, c198, c199, c200, c201, c202, c203, c204, c205, c206, c207, c208, c209, c210, c211, c212, c213, c214, c215, c216, c217, c218, c219, c220, c221], []⟩ W1 := by
  have HM : Hid _ := hm
  have HJ : Hid _ := hJ
  have HJd : Hid _ := hJ.keep hn (Upd.refl _ _).drew
  have kb := hJ.m1
  have ws : IntKind.i64.wrap 1 = 1 := by decide
  have UZ : Hid (Upd (fun _ => False) W1 (W1.alloc (.cells #[.bool false, .bool false, .int .i64 0] 69)).drew) := ((Upd.refl (fun _ => False) W1).alloc (.cells #[.bool false, .bool false, .int .i64 0] 69)).drew
  have HJa : Hid _ := HJ.out.keep hn UZ.out
  have sA : W1.cell? ⟨W.heap.size + 2, 1, none⟩ = some (.pointer (some ⟨bl1, 0, none⟩)) ∧ W1.cell? ⟨q, 3, none⟩ = some (.int .i64 x.b) := ⟨kb, y3⟩
  have sD : W1.drew.cell? ⟨W.heap.size + 2, 1, none⟩ = some (.pointer (some ⟨bl1, 0, none⟩)) ∧ W1.drew.cell? ⟨q, 3, none⟩ = some (.int .i64 x.b) := ⟨kb, y3⟩
  have sZ : (W1.alloc (.cells #[.bool false, .bool false, .int .i64 0] 69)).drew.cell? ⟨W.heap.size + 2, 1, none⟩ = some (.pointer (some ⟨bl1, 0, none⟩)) ∧ (W1.alloc (.cells #[.bool false, .bool false, .int .i64 0] 69)).drew.cell? ⟨q, 3, none⟩ = some (.int .i64 x.b) := ⟨UZ.out.cell kb (fun f => f), UZ.out.cell y3 (fun f => f)⟩
  have zc : ∀ i, (W1.alloc (.cells #[.bool false, .bool false, .int .i64 0] 69)).drew.cell? ⟨W1.heap.size, i, none⟩ = #[Value.bool false, .bool false, .int .i64 0][i]? := fun i => World.cell?_alloc_new W1 #[.bool false, .bool false, .int .i64 0] 69 i
  have zf : ∀ i, (W1.alloc (.cells #[.bool false, .bool false, .int .i64 0] 69)).drew.frozen? ⟨W1.heap.size, i, none⟩ = false := fun i => World.frozen?_alloc_new W1 #[.bool false, .bool false, .int .i64 0] 69 i
  have lq : q < W1.heap.size := World.block_lt_of_cell? W1 _ y3
  have lb : qb < W1.heap.size := World.block_lt_of_cell? W1 _ (HJ.out.row 0 0 (by omega) (by omega))
  have lm : W.heap.size + 2 < W1.heap.size := World.block_lt_of_cell? W1 _ kb
  have NW : Hid (¬ (W.heap.size + 2 = W1.heap.size) ∧ ¬ (q = W1.heap.size)) := show _ ∧ _ by omega
  have NW2 : Hid (qb < W1.heap.size ∧ q < W1.heap.size) := ⟨lb, lq⟩
  have SAL : Hid (∀ (w5 : World) (o : Obj), w5.cell? ⟨W.heap.size + 2, 1, none⟩ = some (.pointer (some ⟨bl1, 0, none⟩)) ∧ w5.cell? ⟨q, 3, none⟩ = some (.int .i64 x.b) → (w5.alloc o).cell? ⟨W.heap.size + 2, 1, none⟩ = some (.pointer (some ⟨bl1, 0, none⟩)) ∧ (w5.alloc o).cell? ⟨q, 3, none⟩ = some (.int .i64 x.b)) := fun w5 o h => ⟨Upd.cell ((Upd.refl (fun _ => False) w5).alloc o) h.1 (fun f => f), Upd.cell ((Upd.refl (fun _ => False) w5).alloc o) h.2 (fun f => f)⟩
  have SST : Hid (∀ (w5 : World) (v0 v1 v2 : Value), w5.cell? ⟨W.heap.size + 2, 1, none⟩ = some (.pointer (some ⟨bl1, 0, none⟩)) ∧ w5.cell? ⟨q, 3, none⟩ = some (.int .i64 x.b) → (((w5.setCell ⟨W1.heap.size, 0, none⟩ v0).setCell ⟨W1.heap.size, 1, none⟩ v1).setCell ⟨W1.heap.size, 2, none⟩ v2).cell? ⟨W.heap.size + 2, 1, none⟩ = some (.pointer (some ⟨bl1, 0, none⟩)) ∧ (((w5.setCell ⟨W1.heap.size, 0, none⟩ v0).setCell ⟨W1.heap.size, 1, none⟩ v1).setCell ⟨W1.heap.size, 2, none⟩ v2).cell? ⟨q, 3, none⟩ = some (.int .i64 x.b)) := fun w5 v0 v1 v2 h => ⟨(Upd.three w5 W1.heap.size 0 1 2 v0 v1 v2).cell h.1 NW.out.1, (Upd.three w5 W1.heap.size 0 1 2 v0 v1 v2).cell h.2 NW.out.2⟩
  have ZC0 : Hid ((W1.alloc (.cells #[.bool false, .bool false, .int .i64 0] 69)).drew.cell? ⟨W1.heap.size, 0, none⟩ = some (.bool false)) := zc 0
  have ZC1 : Hid ((W1.alloc (.cells #[.bool false, .bool false, .int .i64 0] 69)).drew.cell? ⟨W1.heap.size, 1, none⟩ = some (.bool false)) := zc 1
  have ZC2 : Hid ((W1.alloc (.cells #[.bool false, .bool false, .int .i64 0] 69)).drew.cell? ⟨W1.heap.size, 2, none⟩ = some (.int .i64 0)) := zc 2
  have ZF : Hid _ := zf
  clear zc zf lq lb lm hm hJ
  conv => arg 2; whnf
  go_region_held3 (fun w' => w'.cell? ⟨W.heap.size + 2, 1, none⟩ = some (.pointer (some ⟨bl1, 0, none⟩)) ∧ w'.cell? ⟨q, 3, none⟩ = some (.int .i64 x.b)) (first | with_reducible exact h5c | with_reducible exact sA | with_reducible exact sD | with_reducible exact sZ | with_reducible exact SAL.out _ _ h5c | with_reducible exact SST.out _ _ _ _ h5c)
    ((go_at_call 39; refine (Two.leafn1 (by first | with_reducible exact HJ.out.two | with_reducible exact HJd.out.two | with_reducible exact HJa.out.two) x.b).mono ?_; rintro e w5 ⟨l1, er1, rfl, hl1, hu5⟩; (first | (have bx0 : w5.cell? ⟨W1.heap.size, 0, none⟩ = some (.bool false) := hu5.cell (by with_reducible exact ZC0.out) (fun f => f); have bx1 : w5.cell? ⟨W1.heap.size, 1, none⟩ = some (.bool false) := hu5.cell (by with_reducible exact ZC1.out) (fun f => f); have bx2 : w5.cell? ⟨W1.heap.size, 2, none⟩ = some (.int .i64 0) := hu5.cell (by with_reducible exact ZC2.out) (fun f => f); have bf0 : w5.frozen? ⟨W1.heap.size, 0, none⟩ = false := frozen_any hu5 (fun f => f) (by with_reducible exact ZC0.out) ZF.out 0; have bf1 : w5.frozen? ⟨W1.heap.size, 1, none⟩ = false := frozen_any hu5 (fun f => f) (by with_reducible exact ZC0.out) ZF.out 1; have bf2 : w5.frozen? ⟨W1.heap.size, 2, none⟩ = false := frozen_any hu5 (fun f => f) (by with_reducible exact ZC0.out) ZF.out 2) | skip); have h5c : w5.cell? ⟨W.heap.size + 2, 1, none⟩ = some (.pointer (some ⟨bl1, 0, none⟩)) ∧ w5.cell? ⟨q, 3, none⟩ = some (.int .i64 x.b) := ⟨hu5.cell (by first | with_reducible exact sA.1 | with_reducible exact sD.1 | with_reducible exact sZ.1) (fun f => f), hu5.cell (by first | with_reducible exact sA.2 | with_reducible exact sD.2 | with_reducible exact sZ.2) (fun f => f)⟩))
  all_goals (first
    | (have hX := LfAt.three bx0 bx1 bx2 l1
       have hT5 := HJa.out.keep hn hu5
       have uB := Upd.three w5 W1.heap.size 0 1 2 (.bool l1.there) (.bool l1.wr) (.int .i64 l1.fr)
       have hT6 := hT5.far hn uB NW2.out.1
       have uC := ((UZ.out.trans hu5 (fun _ _ f => f)).wide (T := fun x => x = W1.heap.size) (fun _ f => f.elim)).trans uB (fun _ _ e => e)
       exact HM.out _ _ _ _ _ _ _ _ _ _ _ _ _ l1 hT6 hX hl1 NW2.out.2 NW2.out.1 uC (Nat.le_refl _))
    | (have hT5 := HJd.out.keep hn hu5
       have uA := (Upd.refl (fun _ => False) w5).alloc (.cells #[.bool l1.there, .bool l1.wr, .int .i64 l1.fr] 69)
       have hT6 := hT5.keep hn uA
       have hX := LfAt.new w5 69 l1
       have hs5 := hu5.size
       have uC := (((Upd.refl (fun _ => False) W1).drew.trans hu5 (fun _ _ f => f)).trans uA (fun _ _ f => f)).wide (T := fun x => x = w5.heap.size) (fun _ f => f.elim)
       exact HM.out _ _ _ _ _ _ _ _ _ _ _ _ _ l1 hT6 hX hl1 (Nat.lt_of_lt_of_le NW2.out.2 hs5) (Nat.lt_of_lt_of_le NW2.out.1 hs5) uC hs5))
set_option maxHeartbeats 4000000 in
theorem lf32_0 {c0 c1 c2 c3 c4 c5 c6 c8 c9 c10 c11 c12 c13 c16 c17 c18 c19 c20 c21 c22 c23 c24 c25 c26 c27 c28 c29 c30 c31 c32 c33 c34 c35 c36 c37 c38 c39 c40 c41 c42 c43 c44 c45 c46 c47 c48 c49 c50 c51 c52 c53 c54 c55 c56 c57 c58 c59 c60 c61 c62 c63 c64 c65 c66 c67 c68 c69 c70 c71 c72 c73 c74 c75 c76 c77 c78 c79 c80 c81 c82 c83 c84 c85 c86 c87 c88 c89 c90 c91 c92 c93 c94 c95 c96 c97 c98 c99 c100 c101 c102 c103 c104 c105 c106 c107 c108 c109 c110 c111 c112 c113 c114 c115 c116 c117 c118 c119 c120 c121 c122 c123 c124 c125 c126 c127 c128 c129 c130 c131 c132 c133 c134 c135 c136 c137 c138 c139 c140 c141 c142 c143 c144 c145 c146 c147 c148 c149 c150 c151 c152 c153 c154 c155 c156 c157 c158 c159 c160 c161 c162 c163 c164 c165 c166 c167 c168 c169 c170 c171 c172 c173 c174 c175 c176 c177 c178 c179 c180 c181 c182 c183 c184 c185 c186 c187 c188 c189 c190 c191 c192 c193 c194 c195 c196 c197 c198 c199 c200 c201 c202 c203 c204 c205 c206 c207 c208 c209 c210 c211 c212 c213 c214 c215 c216 c217 c218 c219 c220 c221 : Value} {W W1 : World} {bl0 bl1 qb n q : Nat} {s : Pl} {ma mb : Mp} {t : Nat → Nat → Int} {x : Ac} (hn : 1 ≤ n) (hJ : T2 W W1 bl0 bl1 qb n s ma mb t) (y2 : W1.cell? ⟨q, 2, none⟩ = some (.int .i64 x.a)) {Q : Exit → Act → World → Prop}
    (hm : ∀ (v19 v122 v123 v124 v125 v126 v127 v128 v129 v130 : Value) (w' : World) (qx : Nat) (l1 : Lf), T2 W w' bl0 bl1 qb n s ma mb t → LfAt w' qx l1 → (l1.there = true → onB x.a = true ∧ both ma mb x.a.toNat = l1) → q < qx → qb < qx → Upd (fun x => x = qx) W1 w' → W1.heap.size ≤ qx → Q .normal ⟨#[c0, c1, c2, c3, c4, c5, c6, .pointer (some ⟨W.heap.size + 2, 0, none⟩), c8, c9, c10, c11, c12, c13, .pointer (some ⟨q, 0, none⟩), .int .i64 0, c16, c17, .pointer (some ⟨qx, 0, none⟩), v19, c20, c21, c22, c23, c24, c25, c26, c27, c28, c29, c30, c31, c32, c33, c34, c35, c36, c37, c38, c39, c40, c41, c42, c43, c44, c45, c46, c47, c48, c49, c50, c51, c52, c53, c54, c55, c56, c57, c58, c59, c60, c61, c62, c63, c64, c65, c66, c67, c68, c69, c70, c71, c72, c73, c74, c75, c76, c77, c78, c79, c80, c81, c82, c83, c84, c85, c86, c87, c88, c89, c90, c91, c92, c93, c94, c95, c96, c97, c98, c99, c100, c101, c102, c103, c104, c105, c106, c107, c108, c109, c110, c111, c112, c113, c114, c115, c116, c117, c118, c119, c120, c121, v122, v123, v124, v125, v126, v127, v128, v129, v130, c131, c132, c133, c134, c135, c136, c137, c138, c139, c140, c141, c142, c143, c144, c145, c146, c147, c148, c149, c150, c151, c152, c153, c154, c155, c156, c157, c158, c159, c160, c161, c162, c163, c164, c165, c166, c167, c168, c169, c170, c171, c172, c173, c174, c175, c176, c177, c178, c179, c180, c181, c182, c183, c184, c185, c186, c187, c188, c189, c190, c191, c192, c193, c194, c195, c196, c197, c198, c199, c200, c201, c202, c203, c204, c205, c206, c207, c208, c209, c210, c211, c212, c213, c214, c215, c216, c217, c218, c219, c220, c221], []⟩ w') :
    Code.wp Try.prog rgCode32 Q ⟨#[c0, c1, c2, c3, c4, c5, c6, .pointer (some ⟨W.heap.size + 2, 0, none⟩), c8, c9, c10, c11, c12, c13, .pointer (some ⟨q, 0, none⟩), .int .i64 0, c16, c17, c18, c19, c20, c21, c22, c23, c24, c25, c26, c27, c28, c29, c30, c31, c32, c33, c34, c35, c36, c37, c38, c39, c40, c41, c42, c43, c44, c45, c46, c47, c48, c49, c50, c51, c52, c53, c54, c55, c56, c57, c58, c59, c60, c61, c62, c63, c64, c65, c66, c67, c68, c69, c70, c71, c72, c73, c74, c75, c76, c77, c78, c79, c80, c81, c82, c83, c84, c85, c86, c87, c88, c89, c90, c91, c92, c93, c94, c95, c96, c97, c98, c99, c100, c101, c102, c103, c104, c105, c106, c107, c108, c109, c110, c111, c112, c113, c114, c115, c116, c117, c118, c119, c120, c121, c122, c123, c124, c125, c126, c127, c128, c129, c130, c131, c132, c133, c134, c135, c136, c137, c138, c139, c140, c141, c142, c143, c144, c145, c146, c147, c148, c149, c150, c151, c152, c153, c154, c155, c156, c157, c158, c159, c160, c161, c162, c163, c164, c165, c166, c167, c168, c169, c170, c171, c172, c173, c174, c175, c176, c177, c178, c179, c180, c181, c182, c183, c184, c185, c186, c187, c188, c189, c190, c191, c192, c193, c194, c195, c196, c197, c198, c199, c200, c201, c202, c203, c204, c205, c206, c207, c208, c209, c210, c211, c212, c213, c214, c215, c216, c217, c218, c219, c220, c221], []⟩ W1 := by
  have HM : Hid _ := hm
  have HJ : Hid _ := hJ
  have HJd : Hid _ := hJ.keep hn (Upd.refl _ _).drew
  have ka := hJ.m0

  have UZ : Hid (Upd (fun _ => False) W1 (W1.alloc (.cells #[.bool false, .bool false, .int .i64 0] 69)).drew) := ((Upd.refl (fun _ => False) W1).alloc (.cells #[.bool false, .bool false, .int .i64 0] 69)).drew
  have HJa : Hid _ := HJ.out.keep hn UZ.out
  have sA : W1.cell? ⟨W.heap.size + 2, 0, none⟩ = some (.pointer (some ⟨bl0, 0, none⟩)) ∧ W1.cell? ⟨q, 2, none⟩ = some (.int .i64 x.a) := ⟨ka, y2⟩
  have sD : W1.drew.cell? ⟨W.heap.size + 2, 0, none⟩ = some (.pointer (some ⟨bl0, 0, none⟩)) ∧ W1.drew.cell? ⟨q, 2, none⟩ = some (.int .i64 x.a) := ⟨ka, y2⟩
  have sZ : (W1.alloc (.cells #[.bool false, .bool false, .int .i64 0] 69)).drew.cell? ⟨W.heap.size + 2, 0, none⟩ = some (.pointer (some ⟨bl0, 0, none⟩)) ∧ (W1.alloc (.cells #[.bool false, .bool false, .int .i64 0] 69)).drew.cell? ⟨q, 2, none⟩ = some (.int .i64 x.a) := ⟨UZ.out.cell ka (fun f => f), UZ.out.cell y2 (fun f => f)⟩
  have zc : ∀ i, (W1.alloc (.cells #[.bool false, .bool false, .int .i64 0] 69)).drew.cell? ⟨W1.heap.size, i, none⟩ = #[Value.bool false, .bool false, .int .i64 0][i]? := fun i => World.cell?_alloc_new W1 #[.bool false, .bool false, .int .i64 0] 69 i
  have zf : ∀ i, (W1.alloc (.cells #[.bool false, .bool false, .int .i64 0] 69)).drew.frozen? ⟨W1.heap.size, i, none⟩ = false := fun i => World.frozen?_alloc_new W1 #[.bool false, .bool false, .int .i64 0] 69 i
  have lq : q < W1.heap.size := World.block_lt_of_cell? W1 _ y2
  have lb : qb < W1.heap.size := World.block_lt_of_cell? W1 _ (HJ.out.row 0 0 (by omega) (by omega))
  have lm : W.heap.size + 2 < W1.heap.size := World.block_lt_of_cell? W1 _ ka
  have NW : Hid (¬ (W.heap.size + 2 = W1.heap.size) ∧ ¬ (q = W1.heap.size)) := show _ ∧ _ by omega
  have NW2 : Hid (qb < W1.heap.size ∧ q < W1.heap.size) := ⟨lb, lq⟩
  have SAL : Hid (∀ (w5 : World) (o : Obj), w5.cell? ⟨W.heap.size + 2, 0, none⟩ = some (.pointer (some ⟨bl0, 0, none⟩)) ∧ w5.cell? ⟨q, 2, none⟩ = some (.int .i64 x.a) → (w5.alloc o).cell? ⟨W.heap.size + 2, 0, none⟩ = some (.pointer (some ⟨bl0, 0, none⟩)) ∧ (w5.alloc o).cell? ⟨q, 2, none⟩ = some (.int .i64 x.a)) := fun w5 o h => ⟨Upd.cell ((Upd.refl (fun _ => False) w5).alloc o) h.1 (fun f => f), Upd.cell ((Upd.refl (fun _ => False) w5).alloc o) h.2 (fun f => f)⟩
  have SST : Hid (∀ (w5 : World) (v0 v1 v2 : Value), w5.cell? ⟨W.heap.size + 2, 0, none⟩ = some (.pointer (some ⟨bl0, 0, none⟩)) ∧ w5.cell? ⟨q, 2, none⟩ = some (.int .i64 x.a) → (((w5.setCell ⟨W1.heap.size, 0, none⟩ v0).setCell ⟨W1.heap.size, 1, none⟩ v1).setCell ⟨W1.heap.size, 2, none⟩ v2).cell? ⟨W.heap.size + 2, 0, none⟩ = some (.pointer (some ⟨bl0, 0, none⟩)) ∧ (((w5.setCell ⟨W1.heap.size, 0, none⟩ v0).setCell ⟨W1.heap.size, 1, none⟩ v1).setCell ⟨W1.heap.size, 2, none⟩ v2).cell? ⟨q, 2, none⟩ = some (.int .i64 x.a)) := fun w5 v0 v1 v2 h => ⟨(Upd.three w5 W1.heap.size 0 1 2 v0 v1 v2).cell h.1 NW.out.1, (Upd.three w5 W1.heap.size 0 1 2 v0 v1 v2).cell h.2 NW.out.2⟩
  have ZC0 : Hid ((W1.alloc (.cells #[.bool false, .bool false, .int .i64 0] 69)).drew.cell? ⟨W1.heap.size, 0, none⟩ = some (.bool false)) := zc 0
  have ZC1 : Hid ((W1.alloc (.cells #[.bool false, .bool false, .int .i64 0] 69)).drew.cell? ⟨W1.heap.size, 1, none⟩ = some (.bool false)) := zc 1
  have ZC2 : Hid ((W1.alloc (.cells #[.bool false, .bool false, .int .i64 0] 69)).drew.cell? ⟨W1.heap.size, 2, none⟩ = some (.int .i64 0)) := zc 2
  have ZF : Hid _ := zf
  clear zc zf lq lb lm hm hJ
  conv => arg 2; whnf
  go_region_held3 (fun w' => w'.cell? ⟨W.heap.size + 2, 0, none⟩ = some (.pointer (some ⟨bl0, 0, none⟩)) ∧ w'.cell? ⟨q, 2, none⟩ = some (.int .i64 x.a)) (first | with_reducible exact h5c | with_reducible exact sA | with_reducible exact sD | with_reducible exact sZ | with_reducible exact SAL.out _ _ h5c | with_reducible exact SST.out _ _ _ _ h5c)
    ((go_at_call 39; refine (Two.leafn0 (by first | with_reducible exact HJ.out.two | with_reducible exact HJd.out.two | with_reducible exact HJa.out.two) x.a).mono ?_; rintro e w5 ⟨l1, er1, rfl, hl1, hu5⟩; (first | (have bx0 : w5.cell? ⟨W1.heap.size, 0, none⟩ = some (.bool false) := hu5.cell (by with_reducible exact ZC0.out) (fun f => f); have bx1 : w5.cell? ⟨W1.heap.size, 1, none⟩ = some (.bool false) := hu5.cell (by with_reducible exact ZC1.out) (fun f => f); have bx2 : w5.cell? ⟨W1.heap.size, 2, none⟩ = some (.int .i64 0) := hu5.cell (by with_reducible exact ZC2.out) (fun f => f); have bf0 : w5.frozen? ⟨W1.heap.size, 0, none⟩ = false := frozen_any hu5 (fun f => f) (by with_reducible exact ZC0.out) ZF.out 0; have bf1 : w5.frozen? ⟨W1.heap.size, 1, none⟩ = false := frozen_any hu5 (fun f => f) (by with_reducible exact ZC0.out) ZF.out 1; have bf2 : w5.frozen? ⟨W1.heap.size, 2, none⟩ = false := frozen_any hu5 (fun f => f) (by with_reducible exact ZC0.out) ZF.out 2) | skip); have h5c : w5.cell? ⟨W.heap.size + 2, 0, none⟩ = some (.pointer (some ⟨bl0, 0, none⟩)) ∧ w5.cell? ⟨q, 2, none⟩ = some (.int .i64 x.a) := ⟨hu5.cell (by first | with_reducible exact sA.1 | with_reducible exact sD.1 | with_reducible exact sZ.1) (fun f => f), hu5.cell (by first | with_reducible exact sA.2 | with_reducible exact sD.2 | with_reducible exact sZ.2) (fun f => f)⟩))
  all_goals (first
    | (have hX := LfAt.three bx0 bx1 bx2 l1
       have hT5 := HJa.out.keep hn hu5
       have uB := Upd.three w5 W1.heap.size 0 1 2 (.bool l1.there) (.bool l1.wr) (.int .i64 l1.fr)
       have hT6 := hT5.far hn uB NW2.out.1
       have uC := ((UZ.out.trans hu5 (fun _ _ f => f)).wide (T := fun x => x = W1.heap.size) (fun _ f => f.elim)).trans uB (fun _ _ e => e)
       exact HM.out _ _ _ _ _ _ _ _ _ _ _ _ l1 hT6 hX hl1 NW2.out.2 NW2.out.1 uC (Nat.le_refl _))
    | (have hT5 := HJd.out.keep hn hu5
       have uA := (Upd.refl (fun _ => False) w5).alloc (.cells #[.bool l1.there, .bool l1.wr, .int .i64 l1.fr] 69)
       have hT6 := hT5.keep hn uA
       have hX := LfAt.new w5 69 l1
       have hs5 := hu5.size
       have uC := (((Upd.refl (fun _ => False) W1).drew.trans hu5 (fun _ _ f => f)).trans uA (fun _ _ f => f)).wide (T := fun x => x = w5.heap.size) (fun _ f => f.elim)
       exact HM.out _ _ _ _ _ _ _ _ _ _ _ _ l1 hT6 hX hl1 (Nat.lt_of_lt_of_le NW2.out.2 hs5) (Nat.lt_of_lt_of_le NW2.out.1 hs5) uC hs5))
end Go.Proofs.Ytadpibcgjgcjhaa
/- undercrofttop.TopMap's join: where two leaves are read. -/
namespace Go.Proofs.Ytadpibcgjgcjhaa
open Go.ChangeShapes Go.WideShapes Go.ChangeAt Go.RowKit
set_option maxRecDepth 1000000
attribute [local go_sem ↓] Go.wp_at_zero Go.wp_at_succ

set_option maxHeartbeats 4000000 in
theorem lf31_1 {c0 c1 c2 c3 c4 c5 c6 c8 c9 c10 c11 c12 c13 c16 c17 c18 c19 c20 c21 c22 c23 c24 c25 c26 c27 c28 c29 c30 c31 c32 c33 c34 c35 c36 c37 c38 c39 c40 c41 c42 c43 c44 c45 c46 c47 c48 c49 c50 c51 c52 c53 c54 c55 c56 c57 c58 c59 c60 c61 c62 c63 c64 c65 c66 c67 c68 c69 c70 c71 c72 c73 c74 c75 c76 c77 c78 c79 c80 c81 c82 c83 c84 c85 c86 c87 c88 c89 c90 c91 c92 c93 c94 c95 c96 c97 c98 c99 c100 c101 c102 c103 c104 c105 c106 c107 c108 c109 c110 c111 c112 c113 c114 c115 c116 c117 c118 c119 c120 c121 c122 c123 c124 c125 c126 c127 c128 c129 c130 c131 c132 c133 c134 c135 c136 c137 c138 c139 c140 c141 c142 c143 c144 c145 c146 c147 c148 c149 c150 c151 c152 c153 c154 c155 c156 c157 c158 c159 c160 c161 c162 c163 c164 c165 c166 c167 c168 c169 c170 c171 c172 c173 c174 c175 c176 c177 c178 c179 c180 c181 c182 c183 c184 c185 c186 c187 c188 c189 c190 c191 c192 c193 c194 c195 c196 c197 c198 c199 c200 c201 c202 c203 c204 c205 c206 c207 c208 c209 c210 c211 c212 c213 c214 c215 c216 c217 c218 c219 c220 c221 : Value} {W W1 : World} {bl0 bl1 qb n q : Nat} {s : Pl} {ma mb : Mp} {t : Nat → Nat → Int} {x : Ac} (hn : 1 ≤ n) (hJ : T2 W W1 bl0 bl1 qb n s ma mb t) (y3 : W1.cell? ⟨q, 3, none⟩ = some (.int .i64 x.b)) {Q : Exit → Act → World → Prop}
    (hm : ∀ (v17 v112 v113 v114 v115 v116 v117 v118 v119 v120 v121 : Value) (w' : World) (qx : Nat) (l1 : Lf), T2 W w' bl0 bl1 qb n s ma mb t → LfAt w' qx l1 → (l1.there = true → onB x.b = true ∧ both ma mb x.b.toNat = l1) → q < qx → qb < qx → Upd (fun x => x = qx) W1 w' → W1.heap.size ≤ qx → Q .normal ⟨#[c0, c1, c2, c3, c4, c5, c6, .pointer (some ⟨W.heap.size + 2, 0, none⟩), c8, c9, c10, c11, c12, c13, .pointer (some ⟨q, 0, none⟩), .int .i64 1, .pointer (some ⟨qx, 0, none⟩), v17, c18, c19, c20, c21, c22, c23, c24, c25, c26, c27, c28, c29, c30, c31, c32, c33, c34, c35, c36, c37, c38, c39, c40, c41, c42, c43, c44, c45, c46, c47, c48, c49, c50, c51, c52, c53, c54, c55, c56, c57, c58, c59, c60, c61, c62, c63, c64, c65, c66, c67, c68, c69, c70, c71, c72, c73, c74, c75, c76, c77, c78, c79, c80, c81, c82, c83, c84, c85, c86, c87, c88, c89, c90, c91, c92, c93, c94, c95, c96, c97, c98, c99, c100, c101, c102, c103, c104, c105, c106, c107, c108, c109, c110, c111, v112, v113, v114, v115, v116, v117, v118, v119, v120, v121, c122, c123, c124, c125, c126, c127, c128, c129, c130, c131, c132, c133, c134, c135, c136, c137, c138, c139, c140, c141, c142, c143, c144, c145, c146, c147, c148, c149, c150, c151, c152, c153, c154, c155, c156, c157, c158, c159, c160, c161, c162, c163, c164, c165, c166, c167, c168, c169, c170, c171, c172, c173, c174, c175, c176, c177, c178, c179, c180, c181, c182, c183, c184, c185, c186, c187, c188, c189, c190, c191, c192, c193, c194, c195, c196, c197, c198, c199, c200, c201, c202, c203, c204, c205, c206, c207, c208, c209, c210, c211, c212, c213, c214, c215, c216, c217, c218, c219, c220, c221], []⟩ w') :
    Code.wp Try.prog rgCode31 Q ⟨#[c0, c1, c2, c3, c4, c5, c6, .pointer (some ⟨W.heap.size + 2, 0, none⟩), c8, c9, c10, c11, c12, c13, .pointer (some ⟨q, 0, none⟩), .int .i64 1, c16, c17, c18, c19, c20, c21, c22, c23, c24, c25, c26, c27, c28, c29, c30, c31, c32, c33, c34, c35, c36, c37, c38, c39, c40, c41, c42, c43, c44, c45, c46, c47, c48, c49, c50, c51, c52, c53, c54, c55, c56, c57, c58, c59, c60, c61, c62, c63, c64, c65, c66, c67, c68, c69, c70, c71, c72, c73, c74, c75, c76, c77, c78, c79, c80, c81, c82, c83, c84, c85, c86, c87, c88, c89, c90, c91, c92, c93, c94, c95, c96, c97, c98, c99, c100, c101, c102, c103, c104, c105, c106, c107, c108, c109, c110, c111, c112, c113, c114, c115, c116, c117, c118, c119, c120, c121, c122, c123, c124, c125, c126, c127, c128, c129, c130, c131, c132, c133, c134, c135, c136, c137, c138, c139, c140, c141, c142, c143, c144, c145, c146, c147, c148, c149, c150, c151, c152, c153, c154, c155, c156, c157, c158, c159, c160, c161, c162, c163, c164, c165, c166, c167, c168, c169, c170, c171, c172, c173, c174, c175, c176, c177, c178, c179, c180, c181, c182, c183, c184, c185, c186, c187, c188, c189, c190, c191, c192, c193, c194, c195, c196, c197, c198, c199, c200, c201, c202, c203, c204, c205, c206, c207, c208, c209, c210, c211, c212, c213, c214, c215, c216, c217, c218, c219, c220, c221], []⟩ W1 := by
  have HM : Hid _ := hm
  have HJ : Hid _ := hJ
  have HJd : Hid _ := hJ.keep hn (Upd.refl _ _).drew
  have ka := hJ.m0
  have ws : IntKind.i64.wrap 0 = 0 := by decide
  have UZ : Hid (Upd (fun _ => False) W1 (W1.alloc (.cells #[.bool false, .bool false, .int .i64 0] 69)).drew) := ((Upd.refl (fun _ => False) W1).alloc (.cells #[.bool false, .bool false, .int .i64 0] 69)).drew
  have HJa : Hid _ := HJ.out.keep hn UZ.out
  have sA : W1.cell? ⟨W.heap.size + 2, 0, none⟩ = some (.pointer (some ⟨bl0, 0, none⟩)) ∧ W1.cell? ⟨q, 3, none⟩ = some (.int .i64 x.b) := ⟨ka, y3⟩
  have sD : W1.drew.cell? ⟨W.heap.size + 2, 0, none⟩ = some (.pointer (some ⟨bl0, 0, none⟩)) ∧ W1.drew.cell? ⟨q, 3, none⟩ = some (.int .i64 x.b) := ⟨ka, y3⟩
  have sZ : (W1.alloc (.cells #[.bool false, .bool false, .int .i64 0] 69)).drew.cell? ⟨W.heap.size + 2, 0, none⟩ = some (.pointer (some ⟨bl0, 0, none⟩)) ∧ (W1.alloc (.cells #[.bool false, .bool false, .int .i64 0] 69)).drew.cell? ⟨q, 3, none⟩ = some (.int .i64 x.b) := ⟨UZ.out.cell ka (fun f => f), UZ.out.cell y3 (fun f => f)⟩
  have zc : ∀ i, (W1.alloc (.cells #[.bool false, .bool false, .int .i64 0] 69)).drew.cell? ⟨W1.heap.size, i, none⟩ = #[Value.bool false, .bool false, .int .i64 0][i]? := fun i => World.cell?_alloc_new W1 #[.bool false, .bool false, .int .i64 0] 69 i
  have zf : ∀ i, (W1.alloc (.cells #[.bool false, .bool false, .int .i64 0] 69)).drew.frozen? ⟨W1.heap.size, i, none⟩ = false := fun i => World.frozen?_alloc_new W1 #[.bool false, .bool false, .int .i64 0] 69 i
  have lq : q < W1.heap.size := World.block_lt_of_cell? W1 _ y3
  have lb : qb < W1.heap.size := World.block_lt_of_cell? W1 _ (HJ.out.row 0 0 (by omega) (by omega))
  have lm : W.heap.size + 2 < W1.heap.size := World.block_lt_of_cell? W1 _ ka
  have NW : Hid (¬ (W.heap.size + 2 = W1.heap.size) ∧ ¬ (q = W1.heap.size)) := show _ ∧ _ by omega
  have NW2 : Hid (qb < W1.heap.size ∧ q < W1.heap.size) := ⟨lb, lq⟩
  have SAL : Hid (∀ (w5 : World) (o : Obj), w5.cell? ⟨W.heap.size + 2, 0, none⟩ = some (.pointer (some ⟨bl0, 0, none⟩)) ∧ w5.cell? ⟨q, 3, none⟩ = some (.int .i64 x.b) → (w5.alloc o).cell? ⟨W.heap.size + 2, 0, none⟩ = some (.pointer (some ⟨bl0, 0, none⟩)) ∧ (w5.alloc o).cell? ⟨q, 3, none⟩ = some (.int .i64 x.b)) := fun w5 o h => ⟨Upd.cell ((Upd.refl (fun _ => False) w5).alloc o) h.1 (fun f => f), Upd.cell ((Upd.refl (fun _ => False) w5).alloc o) h.2 (fun f => f)⟩
  have SST : Hid (∀ (w5 : World) (v0 v1 v2 : Value), w5.cell? ⟨W.heap.size + 2, 0, none⟩ = some (.pointer (some ⟨bl0, 0, none⟩)) ∧ w5.cell? ⟨q, 3, none⟩ = some (.int .i64 x.b) → (((w5.setCell ⟨W1.heap.size, 0, none⟩ v0).setCell ⟨W1.heap.size, 1, none⟩ v1).setCell ⟨W1.heap.size, 2, none⟩ v2).cell? ⟨W.heap.size + 2, 0, none⟩ = some (.pointer (some ⟨bl0, 0, none⟩)) ∧ (((w5.setCell ⟨W1.heap.size, 0, none⟩ v0).setCell ⟨W1.heap.size, 1, none⟩ v1).setCell ⟨W1.heap.size, 2, none⟩ v2).cell? ⟨q, 3, none⟩ = some (.int .i64 x.b)) := fun w5 v0 v1 v2 h => ⟨(Upd.three w5 W1.heap.size 0 1 2 v0 v1 v2).cell h.1 NW.out.1, (Upd.three w5 W1.heap.size 0 1 2 v0 v1 v2).cell h.2 NW.out.2⟩
  have ZC0 : Hid ((W1.alloc (.cells #[.bool false, .bool false, .int .i64 0] 69)).drew.cell? ⟨W1.heap.size, 0, none⟩ = some (.bool false)) := zc 0
  have ZC1 : Hid ((W1.alloc (.cells #[.bool false, .bool false, .int .i64 0] 69)).drew.cell? ⟨W1.heap.size, 1, none⟩ = some (.bool false)) := zc 1
  have ZC2 : Hid ((W1.alloc (.cells #[.bool false, .bool false, .int .i64 0] 69)).drew.cell? ⟨W1.heap.size, 2, none⟩ = some (.int .i64 0)) := zc 2
  have ZF : Hid _ := zf
  clear zc zf lq lb lm hm hJ
  conv => arg 2; whnf
  go_region_held3 (fun w' => w'.cell? ⟨W.heap.size + 2, 0, none⟩ = some (.pointer (some ⟨bl0, 0, none⟩)) ∧ w'.cell? ⟨q, 3, none⟩ = some (.int .i64 x.b)) (first | with_reducible exact h5c | with_reducible exact sA | with_reducible exact sD | with_reducible exact sZ | with_reducible exact SAL.out _ _ h5c | with_reducible exact SST.out _ _ _ _ h5c)
    ((go_at_call 39; refine (Two.leafn0 (by first | with_reducible exact HJ.out.two | with_reducible exact HJd.out.two | with_reducible exact HJa.out.two) x.b).mono ?_; rintro e w5 ⟨l1, er1, rfl, hl1, hu5⟩; (first | (have bx0 : w5.cell? ⟨W1.heap.size, 0, none⟩ = some (.bool false) := hu5.cell (by with_reducible exact ZC0.out) (fun f => f); have bx1 : w5.cell? ⟨W1.heap.size, 1, none⟩ = some (.bool false) := hu5.cell (by with_reducible exact ZC1.out) (fun f => f); have bx2 : w5.cell? ⟨W1.heap.size, 2, none⟩ = some (.int .i64 0) := hu5.cell (by with_reducible exact ZC2.out) (fun f => f); have bf0 : w5.frozen? ⟨W1.heap.size, 0, none⟩ = false := frozen_any hu5 (fun f => f) (by with_reducible exact ZC0.out) ZF.out 0; have bf1 : w5.frozen? ⟨W1.heap.size, 1, none⟩ = false := frozen_any hu5 (fun f => f) (by with_reducible exact ZC0.out) ZF.out 1; have bf2 : w5.frozen? ⟨W1.heap.size, 2, none⟩ = false := frozen_any hu5 (fun f => f) (by with_reducible exact ZC0.out) ZF.out 2) | skip); have h5c : w5.cell? ⟨W.heap.size + 2, 0, none⟩ = some (.pointer (some ⟨bl0, 0, none⟩)) ∧ w5.cell? ⟨q, 3, none⟩ = some (.int .i64 x.b) := ⟨hu5.cell (by first | with_reducible exact sA.1 | with_reducible exact sD.1 | with_reducible exact sZ.1) (fun f => f), hu5.cell (by first | with_reducible exact sA.2 | with_reducible exact sD.2 | with_reducible exact sZ.2) (fun f => f)⟩))
  all_goals (first
    | (have hX := LfAt.three bx0 bx1 bx2 l1
       have hT5 := HJa.out.keep hn hu5
       have uB := Upd.three w5 W1.heap.size 0 1 2 (.bool l1.there) (.bool l1.wr) (.int .i64 l1.fr)
       have hT6 := hT5.far hn uB NW2.out.1
       have uC := ((UZ.out.trans hu5 (fun _ _ f => f)).wide (T := fun x => x = W1.heap.size) (fun _ f => f.elim)).trans uB (fun _ _ e => e)
       exact HM.out _ _ _ _ _ _ _ _ _ _ _ _ _ l1 hT6 hX hl1 NW2.out.2 NW2.out.1 uC (Nat.le_refl _))
    | (have hT5 := HJd.out.keep hn hu5
       have uA := (Upd.refl (fun _ => False) w5).alloc (.cells #[.bool l1.there, .bool l1.wr, .int .i64 l1.fr] 69)
       have hT6 := hT5.keep hn uA
       have hX := LfAt.new w5 69 l1
       have hs5 := hu5.size
       have uC := (((Upd.refl (fun _ => False) W1).drew.trans hu5 (fun _ _ f => f)).trans uA (fun _ _ f => f)).wide (T := fun x => x = w5.heap.size) (fun _ f => f.elim)
       exact HM.out _ _ _ _ _ _ _ _ _ _ _ _ _ l1 hT6 hX hl1 (Nat.lt_of_lt_of_le NW2.out.2 hs5) (Nat.lt_of_lt_of_le NW2.out.1 hs5) uC hs5))
set_option maxHeartbeats 4000000 in
theorem lf32_1 {c0 c1 c2 c3 c4 c5 c6 c8 c9 c10 c11 c12 c13 c16 c17 c18 c19 c20 c21 c22 c23 c24 c25 c26 c27 c28 c29 c30 c31 c32 c33 c34 c35 c36 c37 c38 c39 c40 c41 c42 c43 c44 c45 c46 c47 c48 c49 c50 c51 c52 c53 c54 c55 c56 c57 c58 c59 c60 c61 c62 c63 c64 c65 c66 c67 c68 c69 c70 c71 c72 c73 c74 c75 c76 c77 c78 c79 c80 c81 c82 c83 c84 c85 c86 c87 c88 c89 c90 c91 c92 c93 c94 c95 c96 c97 c98 c99 c100 c101 c102 c103 c104 c105 c106 c107 c108 c109 c110 c111 c112 c113 c114 c115 c116 c117 c118 c119 c120 c121 c122 c123 c124 c125 c126 c127 c128 c129 c130 c131 c132 c133 c134 c135 c136 c137 c138 c139 c140 c141 c142 c143 c144 c145 c146 c147 c148 c149 c150 c151 c152 c153 c154 c155 c156 c157 c158 c159 c160 c161 c162 c163 c164 c165 c166 c167 c168 c169 c170 c171 c172 c173 c174 c175 c176 c177 c178 c179 c180 c181 c182 c183 c184 c185 c186 c187 c188 c189 c190 c191 c192 c193 c194 c195 c196 c197 c198 c199 c200 c201 c202 c203 c204 c205 c206 c207 c208 c209 c210 c211 c212 c213 c214 c215 c216 c217 c218 c219 c220 c221 : Value} {W W1 : World} {bl0 bl1 qb n q : Nat} {s : Pl} {ma mb : Mp} {t : Nat → Nat → Int} {x : Ac} (hn : 1 ≤ n) (hJ : T2 W W1 bl0 bl1 qb n s ma mb t) (y2 : W1.cell? ⟨q, 2, none⟩ = some (.int .i64 x.a)) {Q : Exit → Act → World → Prop}
    (hm : ∀ (v19 v122 v123 v124 v125 v126 v127 v128 v129 v130 : Value) (w' : World) (qx : Nat) (l1 : Lf), T2 W w' bl0 bl1 qb n s ma mb t → LfAt w' qx l1 → (l1.there = true → onB x.a = true ∧ both ma mb (16 + x.a.toNat) = l1) → q < qx → qb < qx → Upd (fun x => x = qx) W1 w' → W1.heap.size ≤ qx → Q .normal ⟨#[c0, c1, c2, c3, c4, c5, c6, .pointer (some ⟨W.heap.size + 2, 0, none⟩), c8, c9, c10, c11, c12, c13, .pointer (some ⟨q, 0, none⟩), .int .i64 1, c16, c17, .pointer (some ⟨qx, 0, none⟩), v19, c20, c21, c22, c23, c24, c25, c26, c27, c28, c29, c30, c31, c32, c33, c34, c35, c36, c37, c38, c39, c40, c41, c42, c43, c44, c45, c46, c47, c48, c49, c50, c51, c52, c53, c54, c55, c56, c57, c58, c59, c60, c61, c62, c63, c64, c65, c66, c67, c68, c69, c70, c71, c72, c73, c74, c75, c76, c77, c78, c79, c80, c81, c82, c83, c84, c85, c86, c87, c88, c89, c90, c91, c92, c93, c94, c95, c96, c97, c98, c99, c100, c101, c102, c103, c104, c105, c106, c107, c108, c109, c110, c111, c112, c113, c114, c115, c116, c117, c118, c119, c120, c121, v122, v123, v124, v125, v126, v127, v128, v129, v130, c131, c132, c133, c134, c135, c136, c137, c138, c139, c140, c141, c142, c143, c144, c145, c146, c147, c148, c149, c150, c151, c152, c153, c154, c155, c156, c157, c158, c159, c160, c161, c162, c163, c164, c165, c166, c167, c168, c169, c170, c171, c172, c173, c174, c175, c176, c177, c178, c179, c180, c181, c182, c183, c184, c185, c186, c187, c188, c189, c190, c191, c192, c193, c194, c195, c196, c197, c198, c199, c200, c201, c202, c203, c204, c205, c206, c207, c208, c209, c210, c211, c212, c213, c214, c215, c216, c217, c218, c219, c220, c221], []⟩ w') :
    Code.wp Try.prog rgCode32 Q ⟨#[c0, c1, c2, c3, c4, c5, c6, .pointer (some ⟨W.heap.size + 2, 0, none⟩), c8, c9, c10, c11, c12, c13, .pointer (some ⟨q, 0, none⟩), .int .i64 1, c16, c17, c18, c19, c20, c21, c22, c23, c24, c25, c26, c27, c28, c29, c30, c31, c32, c33, c34, c35, c36, c37, c38, c39, c40, c41, c42, c43, c44, c45, c46, c47, c48, c49, c50, c51, c52, c53, c54, c55, c56, c57, c58, c59, c60, c61, c62, c63, c64, c65, c66, c67, c68, c69, c70, c71, c72, c73, c74, c75, c76, c77, c78, c79, c80, c81, c82, c83, c84, c85, c86, c87, c88, c89, c90, c91, c92, c93, c94, c95, c96, c97, c98, c99, c100, c101, c102, c103, c104, c105, c106, c107, c108, c109, c110, c111, c112, c113, c114, c115, c116, c117, c118, c119, c120, c121, c122, c123, c124, c125, c126, c127, c128, c129, c130, c131, c132, c133, c134, c135, c136, c137, c138, c139, c140, c141, c142, c143, c144, c145, c146, c147, c148, c149, c150, c151, c152, c153, c154, c155, c156, c157, c158, c159, c160, c161, c162, c163, c164, c165, c166, c167, c168, c169, c170, c171, c172, c173, c174, c175, c176, c177, c178, c179, c180, c181, c182, c183, c184, c185, c186, c187, c188, c189, c190, c191, c192, c193, c194, c195, c196, c197, c198, c199, c200, c201, c202, c203, c204, c205, c206, c207, c208, c209, c210, c211, c212, c213, c214, c215, c216, c217, c218, c219, c220, c221], []⟩ W1 := by
  have HM : Hid _ := hm
  have HJ : Hid _ := hJ
  have HJd : Hid _ := hJ.keep hn (Upd.refl _ _).drew
  have kb := hJ.m1

  have UZ : Hid (Upd (fun _ => False) W1 (W1.alloc (.cells #[.bool false, .bool false, .int .i64 0] 69)).drew) := ((Upd.refl (fun _ => False) W1).alloc (.cells #[.bool false, .bool false, .int .i64 0] 69)).drew
  have HJa : Hid _ := HJ.out.keep hn UZ.out
  have sA : W1.cell? ⟨W.heap.size + 2, 1, none⟩ = some (.pointer (some ⟨bl1, 0, none⟩)) ∧ W1.cell? ⟨q, 2, none⟩ = some (.int .i64 x.a) := ⟨kb, y2⟩
  have sD : W1.drew.cell? ⟨W.heap.size + 2, 1, none⟩ = some (.pointer (some ⟨bl1, 0, none⟩)) ∧ W1.drew.cell? ⟨q, 2, none⟩ = some (.int .i64 x.a) := ⟨kb, y2⟩
  have sZ : (W1.alloc (.cells #[.bool false, .bool false, .int .i64 0] 69)).drew.cell? ⟨W.heap.size + 2, 1, none⟩ = some (.pointer (some ⟨bl1, 0, none⟩)) ∧ (W1.alloc (.cells #[.bool false, .bool false, .int .i64 0] 69)).drew.cell? ⟨q, 2, none⟩ = some (.int .i64 x.a) := ⟨UZ.out.cell kb (fun f => f), UZ.out.cell y2 (fun f => f)⟩
  have zc : ∀ i, (W1.alloc (.cells #[.bool false, .bool false, .int .i64 0] 69)).drew.cell? ⟨W1.heap.size, i, none⟩ = #[Value.bool false, .bool false, .int .i64 0][i]? := fun i => World.cell?_alloc_new W1 #[.bool false, .bool false, .int .i64 0] 69 i
  have zf : ∀ i, (W1.alloc (.cells #[.bool false, .bool false, .int .i64 0] 69)).drew.frozen? ⟨W1.heap.size, i, none⟩ = false := fun i => World.frozen?_alloc_new W1 #[.bool false, .bool false, .int .i64 0] 69 i
  have lq : q < W1.heap.size := World.block_lt_of_cell? W1 _ y2
  have lb : qb < W1.heap.size := World.block_lt_of_cell? W1 _ (HJ.out.row 0 0 (by omega) (by omega))
  have lm : W.heap.size + 2 < W1.heap.size := World.block_lt_of_cell? W1 _ kb
  have NW : Hid (¬ (W.heap.size + 2 = W1.heap.size) ∧ ¬ (q = W1.heap.size)) := show _ ∧ _ by omega
  have NW2 : Hid (qb < W1.heap.size ∧ q < W1.heap.size) := ⟨lb, lq⟩
  have SAL : Hid (∀ (w5 : World) (o : Obj), w5.cell? ⟨W.heap.size + 2, 1, none⟩ = some (.pointer (some ⟨bl1, 0, none⟩)) ∧ w5.cell? ⟨q, 2, none⟩ = some (.int .i64 x.a) → (w5.alloc o).cell? ⟨W.heap.size + 2, 1, none⟩ = some (.pointer (some ⟨bl1, 0, none⟩)) ∧ (w5.alloc o).cell? ⟨q, 2, none⟩ = some (.int .i64 x.a)) := fun w5 o h => ⟨Upd.cell ((Upd.refl (fun _ => False) w5).alloc o) h.1 (fun f => f), Upd.cell ((Upd.refl (fun _ => False) w5).alloc o) h.2 (fun f => f)⟩
  have SST : Hid (∀ (w5 : World) (v0 v1 v2 : Value), w5.cell? ⟨W.heap.size + 2, 1, none⟩ = some (.pointer (some ⟨bl1, 0, none⟩)) ∧ w5.cell? ⟨q, 2, none⟩ = some (.int .i64 x.a) → (((w5.setCell ⟨W1.heap.size, 0, none⟩ v0).setCell ⟨W1.heap.size, 1, none⟩ v1).setCell ⟨W1.heap.size, 2, none⟩ v2).cell? ⟨W.heap.size + 2, 1, none⟩ = some (.pointer (some ⟨bl1, 0, none⟩)) ∧ (((w5.setCell ⟨W1.heap.size, 0, none⟩ v0).setCell ⟨W1.heap.size, 1, none⟩ v1).setCell ⟨W1.heap.size, 2, none⟩ v2).cell? ⟨q, 2, none⟩ = some (.int .i64 x.a)) := fun w5 v0 v1 v2 h => ⟨(Upd.three w5 W1.heap.size 0 1 2 v0 v1 v2).cell h.1 NW.out.1, (Upd.three w5 W1.heap.size 0 1 2 v0 v1 v2).cell h.2 NW.out.2⟩
  have ZC0 : Hid ((W1.alloc (.cells #[.bool false, .bool false, .int .i64 0] 69)).drew.cell? ⟨W1.heap.size, 0, none⟩ = some (.bool false)) := zc 0
  have ZC1 : Hid ((W1.alloc (.cells #[.bool false, .bool false, .int .i64 0] 69)).drew.cell? ⟨W1.heap.size, 1, none⟩ = some (.bool false)) := zc 1
  have ZC2 : Hid ((W1.alloc (.cells #[.bool false, .bool false, .int .i64 0] 69)).drew.cell? ⟨W1.heap.size, 2, none⟩ = some (.int .i64 0)) := zc 2
  have ZF : Hid _ := zf
  clear zc zf lq lb lm hm hJ
  conv => arg 2; whnf
  go_region_held3 (fun w' => w'.cell? ⟨W.heap.size + 2, 1, none⟩ = some (.pointer (some ⟨bl1, 0, none⟩)) ∧ w'.cell? ⟨q, 2, none⟩ = some (.int .i64 x.a)) (first | with_reducible exact h5c | with_reducible exact sA | with_reducible exact sD | with_reducible exact sZ | with_reducible exact SAL.out _ _ h5c | with_reducible exact SST.out _ _ _ _ h5c)
    ((go_at_call 39; refine (Two.leafn1 (by first | with_reducible exact HJ.out.two | with_reducible exact HJd.out.two | with_reducible exact HJa.out.two) x.a).mono ?_; rintro e w5 ⟨l1, er1, rfl, hl1, hu5⟩; (first | (have bx0 : w5.cell? ⟨W1.heap.size, 0, none⟩ = some (.bool false) := hu5.cell (by with_reducible exact ZC0.out) (fun f => f); have bx1 : w5.cell? ⟨W1.heap.size, 1, none⟩ = some (.bool false) := hu5.cell (by with_reducible exact ZC1.out) (fun f => f); have bx2 : w5.cell? ⟨W1.heap.size, 2, none⟩ = some (.int .i64 0) := hu5.cell (by with_reducible exact ZC2.out) (fun f => f); have bf0 : w5.frozen? ⟨W1.heap.size, 0, none⟩ = false := frozen_any hu5 (fun f => f) (by with_reducible exact ZC0.out) ZF.out 0; have bf1 : w5.frozen? ⟨W1.heap.size, 1, none⟩ = false := frozen_any hu5 (fun f => f) (by with_reducible exact ZC0.out) ZF.out 1; have bf2 : w5.frozen? ⟨W1.heap.size, 2, none⟩ = false := frozen_any hu5 (fun f => f) (by with_reducible exact ZC0.out) ZF.out 2) | skip); have h5c : w5.cell? ⟨W.heap.size + 2, 1, none⟩ = some (.pointer (some ⟨bl1, 0, none⟩)) ∧ w5.cell? ⟨q, 2, none⟩ = some (.int .i64 x.a) := ⟨hu5.cell (by first | with_reducible exact sA.1 | with_reducible exact sD.1 | with_reducible exact sZ.1) (fun f => f), hu5.cell (by first | with_reducible exact sA.2 | with_reducible exact sD.2 | with_reducible exact sZ.2) (fun f => f)⟩))
  all_goals (first
    | (have hX := LfAt.three bx0 bx1 bx2 l1
       have hT5 := HJa.out.keep hn hu5
       have uB := Upd.three w5 W1.heap.size 0 1 2 (.bool l1.there) (.bool l1.wr) (.int .i64 l1.fr)
       have hT6 := hT5.far hn uB NW2.out.1
       have uC := ((UZ.out.trans hu5 (fun _ _ f => f)).wide (T := fun x => x = W1.heap.size) (fun _ f => f.elim)).trans uB (fun _ _ e => e)
       exact HM.out _ _ _ _ _ _ _ _ _ _ _ _ l1 hT6 hX hl1 NW2.out.2 NW2.out.1 uC (Nat.le_refl _))
    | (have hT5 := HJd.out.keep hn hu5
       have uA := (Upd.refl (fun _ => False) w5).alloc (.cells #[.bool l1.there, .bool l1.wr, .int .i64 l1.fr] 69)
       have hT6 := hT5.keep hn uA
       have hX := LfAt.new w5 69 l1
       have hs5 := hu5.size
       have uC := (((Upd.refl (fun _ => False) W1).drew.trans hu5 (fun _ _ f => f)).trans uA (fun _ _ f => f)).wide (T := fun x => x = w5.heap.size) (fun _ f => f.elim)
       exact HM.out _ _ _ _ _ _ _ _ _ _ _ _ l1 hT6 hX hl1 (Nat.lt_of_lt_of_le NW2.out.2 hs5) (Nat.lt_of_lt_of_le NW2.out.1 hs5) uC hs5))
end Go.Proofs.Ytadpibcgjgcjhaa
