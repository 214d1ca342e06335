/- undercrofttop.TopMap's switch, where the act is the second map's. -/
import Derived.Test.YtadpibcgjgcjhaaPart09
namespace Go.Proofs.Ytadpibcgjgcjhaa
open Go.ChangeShapes Go.WideShapes Go.ChangeAt Go.RowKit
set_option maxRecDepth 1000000
attribute [local go_sem ↓] Go.wp_at_zero Go.wp_at_succ

set_option maxHeartbeats 4000000 in
theorem sw1_join {c0 c1 c2 c3 c4 c6 c8 c9 c10 c11 c13 c16 c17 c18 c19 c20 c21 c22 c23 c24 c25 c26 c27 c28 c29 c30 c31 c32 c33 c34 c35 c36 c37 c38 c39 c40 c41 c42 c43 c44 c45 c46 c47 c48 c49 c50 c51 c52 c53 c54 c55 c56 c57 c58 c59 c60 c61 c62 c63 c64 c65 c66 c67 c68 c69 c70 c71 c72 c73 c74 c75 c76 c77 c78 c79 c80 c81 c82 c83 c84 c85 c86 c87 c89 c90 c91 c92 c93 c94 c95 c96 c97 c98 c99 c100 c101 c102 c103 c104 c105 c106 c107 c108 c109 c110 c111 c112 c113 c114 c115 c116 c117 c118 c119 c120 c121 c122 c123 c124 c125 c126 c127 c128 c129 c130 c131 c132 c133 c134 c135 c136 c137 c138 c139 c140 c141 c142 c143 c144 c145 c146 c147 c148 c149 c150 c151 c152 c153 c154 c155 c156 c157 c158 c159 c160 c161 c162 c163 c164 c165 c166 c167 c168 c169 c170 c171 c172 c173 c174 c175 c176 c177 c178 c179 c180 c181 c182 c183 c184 c185 c186 c187 c188 c189 c190 c191 c192 c193 c194 c195 c196 c197 c198 c199 c200 c201 c202 c203 c204 c205 c206 c207 c208 c209 c210 c211 c212 c213 c214 c215 c216 c217 c218 c219 c220 c221 : Value} {W W1 : World} {bl0 bl1 qb n q : Nat} {s : Pl} {ma mb : Mp} {t : Nat → Nat → Int} {x : Ac} (hn : 1 ≤ n) (hJ : T2 W W1 bl0 bl1 qb n s ma mb t) (y2 : W1.cell? ⟨q, 2, none⟩ = some (.int .i64 x.a)) (y3 : W1.cell? ⟨q, 3, none⟩ = some (.int .i64 x.b)) (_y4 : W1.cell? ⟨q, 4, none⟩ = some (.int .u8 x.v)) (hq : bl0 < q ∧ bl1 < q ∧ qb < q ∧ W.heap.size + 2 < q) (k1 : (x.kind.toList == [106, 111, 105, 110]) = true) {Q : Exit → Act → World → Prop}
    (hm : ∀ (v4 v16 v17 v18 v19 v20 v21 v22 v89 v90 v91 v92 v93 v94 v95 v96 v97 v98 v99 v100 v101 v102 v103 v104 v105 v106 v107 v108 v109 v110 v111 v112 v113 v114 v115 v116 v117 v118 v119 v120 v121 v122 v123 v124 v125 v126 v127 v128 v129 v130 v131 v132 v133 v134 v135 v136 v137 v138 v139 v140 v141 v142 v143 v144 v145 v146 v147 v148 v149 v150 v151 v152 v153 v154 v155 v156 v157 v158 v159 v160 v161 v162 v163 v164 v165 v166 v167 v168 v169 v170 v171 v172 v173 v174 v175 v176 v177 v178 v179 v180 v181 v182 v183 v184 v185 v186 v187 v188 v189 v190 v191 v192 v193 v194 v195 v196 v197 v198 v199 v200 v201 v202 v203 v204 v205 v206 v207 v208 v209 v210 v211 v212 v213 v214 v215 : Value) (w' : World), (∃ s' a' b' t', T2 W w' bl0 bl1 qb n s' a' b' t') → Q .normal ⟨#[c0, c1, c2, c3, v4, .pointer (some ⟨W.heap.size + 1, 0, none⟩), c6, .pointer (some ⟨W.heap.size + 2, 0, none⟩), c8, c9, c10, c11, .pointer (some ⟨qb, 0, none⟩), c13, .pointer (some ⟨q, 0, none⟩), .int .i64 1, v16, v17, v18, v19, v20, v21, v22, c23, c24, c25, c26, c27, c28, c29, c30, c31, c32, c33, c34, c35, c36, c37, c38, c39, c40, c41, c42, c43, c44, c45, c46, c47, c48, c49, c50, c51, c52, c53, c54, c55, c56, c57, c58, c59, c60, c61, c62, c63, c64, c65, c66, c67, c68, c69, c70, c71, c72, c73, c74, c75, c76, c77, c78, c79, c80, c81, c82, c83, c84, c85, c86, c87, .string x.kind, v89, v90, v91, v92, v93, v94, v95, v96, v97, v98, v99, v100, v101, v102, v103, v104, v105, v106, v107, v108, v109, v110, v111, v112, v113, v114, v115, v116, v117, v118, v119, v120, v121, v122, v123, v124, v125, v126, v127, v128, v129, v130, v131, v132, v133, v134, v135, v136, v137, v138, v139, v140, v141, v142, v143, v144, v145, v146, v147, v148, v149, v150, v151, v152, v153, v154, v155, v156, v157, v158, v159, v160, v161, v162, v163, v164, v165, v166, v167, v168, v169, v170, v171, v172, v173, v174, v175, v176, v177, v178, v179, v180, v181, v182, v183, v184, v185, v186, v187, v188, v189, v190, v191, v192, v193, v194, v195, v196, v197, v198, v199, v200, v201, v202, v203, v204, v205, v206, v207, v208, v209, v210, v211, v212, v213, v214, v215, c216, c217, c218, c219, c220, c221], []⟩ w') :
    Code.wp Try.prog swCode Q ⟨#[c0, c1, c2, c3, c4, .pointer (some ⟨W.heap.size + 1, 0, none⟩), c6, .pointer (some ⟨W.heap.size + 2, 0, none⟩), c8, c9, c10, c11, .pointer (some ⟨qb, 0, none⟩), c13, .pointer (some ⟨q, 0, none⟩), .int .i64 1, c16, c17, c18, c19, c20, c21, c22, c23, c24, c25, c26, c27, c28, c29, c30, c31, c32, c33, c34, c35, c36, c37, c38, c39, c40, c41, c42, c43, c44, c45, c46, c47, c48, c49, c50, c51, c52, c53, c54, c55, c56, c57, c58, c59, c60, c61, c62, c63, c64, c65, c66, c67, c68, c69, c70, c71, c72, c73, c74, c75, c76, c77, c78, c79, c80, c81, c82, c83, c84, c85, c86, c87, .string x.kind, c89, c90, c91, c92, c93, c94, c95, c96, c97, c98, c99, c100, c101, c102, c103, c104, c105, c106, c107, c108, c109, c110, c111, c112, c113, c114, c115, c116, c117, c118, c119, c120, c121, c122, c123, c124, c125, c126, c127, c128, c129, c130, c131, c132, c133, c134, c135, c136, c137, c138, c139, c140, c141, c142, c143, c144, c145, c146, c147, c148, c149, c150, c151, c152, c153, c154, c155, c156, c157, c158, c159, c160, c161, c162, c163, c164, c165, c166, c167, c168, c169, c170, c171, c172, c173, c174, c175, c176, c177, c178, c179, c180, c181, c182, c183, c184, c185, c186, c187, c188, c189, c190, c191, c192, c193, c194, c195, c196, c197, c198, c199, c200, c201, c202, c203, c204, c205, c206, c207, c208, c209, c210, c211, c212, c213, c214, c215, c216, c217, c218, c219, c220, c221], []⟩ W1 := by
  have HM : Hid _ := hm
  have AP : Hid _ := hJ.ap
  have NQ : Hid (¬ (q = W.heap.size ∨ q = bl0 ∨ q = bl1)) := show ¬ _ by omega
  have NB : Hid (¬ (q = W.heap.size) ∧ q ≠ qb) := show _ ∧ _ by omega
  have hs0 : 0 < s.n := by rw [hJ.sn]; exact hn
  have ka := hJ.m0
  have kb := hJ.m1
  have HJ : Hid _ := hJ
  have HJd : Hid _ := hJ.keep hn (Upd.refl _ _).drew
  have NA : Hid (¬ (W.heap.size + 2 = W.heap.size ∨ W.heap.size + 2 = bl0 ∨ W.heap.size + 2 = bl1)) := show ¬ _ by have := hJ.ne; omega
  clear hq hm hJ
  conv => arg 2; whnf
  by_cases hbb : 0 ≤ x.b ∧ x.b < 16
  · obtain ⟨i0, i1⟩ := hbb
    go_upto_region 31 with fail
    refine lf31_1 hn HJ.out y3 (fun v17 v112 v113 v114 v115 v116 v117 v118 v119 v120 v121 W2 qx lx hT hX hl1 lqx lbx uC gq => ?_)
    have z2 := uC.cell y2 (Nat.ne_of_lt lqx)
    have HT : Hid _ := hT
    have HX : Hid _ := hX
    have HL1 : Hid _ := hl1
    have LX : Hid (qx < W2.heap.size) := World.block_lt_of_cell? W2 _ hX.c0
    have LQ : Hid (q < qx ∧ qb < qx) := ⟨lqx, lbx⟩
    clear hT hX hl1 lqx lbx uC gq ka kb y2 y3 _y4 HJ HJd
    go_upto_region 32 with fail
    refine lf32_1 hn HT.out z2 (fun v19 v122 v123 v124 v125 v126 v127 v128 v129 v130 W3 qy ly hT2 hX2 hl2 lqy lby uD gy => ?_)
    have hxy : qx < qy := Nat.lt_of_lt_of_le LX.out gy
    have hX1 := HX.out.upd uD (Nat.ne_of_lt hxy)
    have z3 := uD.cell z2 (Nat.ne_of_lt lqy)
    have d0 := hX1.c0
    have d2 := hX1.c2
    have e0 := hX2.c0
    have e2 := hX2.c2
    have HT2 : Hid _ := hT2
    have HX1 : Hid _ := hX1
    have HL2 : Hid _ := hl2
    have ka3 := hT2.m0
    have kb3 := hT2.m1
    clear hT2 hX1 hX2 hl2 lqy lby uD gy hxy z2 HT HX LX
    cases ht1 : lx.there with
    | false =>
      rw [ht1] at d0
      clear ht1
      go_wp2_with fail
      exact HM.out _ _ _ _ _ _ _ _ _ _ _ _ _ _ _ _ _ _ _ _ _ _ _ _ _ _ _ _ _ _ _ _ _ _ _ _ _ _ _ _ _ _ _ _ _ _ _ _ _ _ _ _ _ _ _ _ _ _ _ _ _ _ _ _ _ _ _ _ _ _ _ _ _ _ _ _ _ _ _ _ _ _ _ _ _ _ _ _ _ _ _ _ _ _ _ _ _ _ _ _ _ _ _ _ _ _ _ _ _ _ _ _ _ _ _ _ _ _ _ _ _ _ _ _ _ _ _ _ _ _ _ _ _ _ _ _ ⟨_, _, _, _, HT2.out⟩
    | true =>
      rw [ht1] at d0
      cases ht2 : ly.there with
      | false =>
        rw [ht2] at e0
        clear ht1 ht2
        go_wp2_with fail
        exact HM.out _ _ _ _ _ _ _ _ _ _ _ _ _ _ _ _ _ _ _ _ _ _ _ _ _ _ _ _ _ _ _ _ _ _ _ _ _ _ _ _ _ _ _ _ _ _ _ _ _ _ _ _ _ _ _ _ _ _ _ _ _ _ _ _ _ _ _ _ _ _ _ _ _ _ _ _ _ _ _ _ _ _ _ _ _ _ _ _ _ _ _ _ _ _ _ _ _ _ _ _ _ _ _ _ _ _ _ _ _ _ _ _ _ _ _ _ _ _ _ _ _ _ _ _ _ _ _ _ _ _ _ _ _ _ _ _ ⟨_, _, _, _, HT2.out⟩
      | true =>
        rw [ht2] at e0
        obtain ⟨oa, ea⟩ := HL2.out ht2
        have EA : Hid _ := ea
        have HOA : Hid _ := oa
        have HTY : Hid _ := ht2
        clear ht1 ht2 ea oa HL1 HL2
        cases hs : s.same lx.fr ly.fr with
        | false =>
          have HS : Hid _ := hs
          clear hs
          go_wp2_with fail
          refine (lvSame_is _ _ _ _ _ s HT2.out.two.pool HS.out).mono ?_
          rintro e w4 ⟨rfl, nq, rfl⟩
          have NE : Hid _ := HT2.out.keep hn ((Upd.refl _ _).drewN nq)
          have d2q : (W3.drewN nq).cell? ⟨qx, 2, none⟩ = some (.int .i64 lx.fr) := d2
          have e2q : (W3.drewN nq).cell? ⟨qy, 2, none⟩ = some (.int .i64 ly.fr) := e2
          go_wp2_with fail
          exact HM.out _ _ _ _ _ _ _ _ _ _ _ _ _ _ _ _ _ _ _ _ _ _ _ _ _ _ _ _ _ _ _ _ _ _ _ _ _ _ _ _ _ _ _ _ _ _ _ _ _ _ _ _ _ _ _ _ _ _ _ _ _ _ _ _ _ _ _ _ _ _ _ _ _ _ _ _ _ _ _ _ _ _ _ _ _ _ _ _ _ _ _ _ _ _ _ _ _ _ _ _ _ _ _ _ _ _ _ _ _ _ _ _ _ _ _ _ _ _ _ _ _ _ _ _ _ _ _ _ _ _ _ _ _ _ _ _ ⟨_, _, _, _, NE.out⟩
        | true =>
          have HS : Hid _ := hs
          clear hs
          cases hf : (lx.fr != ly.fr) with
          | false =>
            go_wp2_with fail
            refine (lvSame_is _ _ _ _ _ s HT2.out.two.pool HS.out).mono ?_
            rintro e w4 ⟨rfl, nq, rfl⟩
            have NE : Hid _ := HT2.out.keep hn ((Upd.refl _ _).drewN nq)
            have d2q : (W3.drewN nq).cell? ⟨qx, 2, none⟩ = some (.int .i64 lx.fr) := d2
            have e2q : (W3.drewN nq).cell? ⟨qy, 2, none⟩ = some (.int .i64 ly.fr) := e2
            go_wp2_with fail
            exact HM.out _ _ _ _ _ _ _ _ _ _ _ _ _ _ _ _ _ _ _ _ _ _ _ _ _ _ _ _ _ _ _ _ _ _ _ _ _ _ _ _ _ _ _ _ _ _ _ _ _ _ _ _ _ _ _ _ _ _ _ _ _ _ _ _ _ _ _ _ _ _ _ _ _ _ _ _ _ _ _ _ _ _ _ _ _ _ _ _ _ _ _ _ _ _ _ _ _ _ _ _ _ _ _ _ _ _ _ _ _ _ _ _ _ _ _ _ _ _ _ _ _ _ _ _ _ _ _ _ _ _ _ _ _ _ _ _ ⟨_, _, _, _, NE.out⟩
          | true =>
            go_wp2_with fail
            refine (lvSame_is _ _ _ _ _ s HT2.out.two.pool HS.out).mono ?_
            rintro e w4 ⟨rfl, nq, rfl⟩
            have hT4 := HT2.out.keep hn ((Upd.refl (fun _ => False) W3).drewN nq)
            have d2q : (W3.drewN nq).cell? ⟨qx, 2, none⟩ = some (.int .i64 lx.fr) := d2
            have e2q : (W3.drewN nq).cell? ⟨qy, 2, none⟩ = some (.int .i64 ly.fr) := e2
            have z2q : (W3.drewN nq).cell? ⟨q, 2, none⟩ = some (.int .i64 x.a) := z3
            have ka4 : (W3.drewN nq).cell? ⟨W.heap.size + 2, 0, none⟩ = some (.pointer (some ⟨bl0, 0, none⟩)) := ka3
            have kb4 : (W3.drewN nq).cell? ⟨W.heap.size + 2, 1, none⟩ = some (.pointer (some ⟨bl1, 0, none⟩)) := kb3
            have HT4 : Hid _ := hT4
            clear hT4 d0 d2 e0 e2 z3 ka3 kb3 HX1
            revert d2q e2q z2q ka4 kb4 HT4
            generalize W3.drewN nq = W4
            intro d2q e2q z2q ka4 kb4 HT4
            go_wp2_with fail
            refine (seal_any _ _ _ _ _ lx.fr s ma mb t HT4.out.two hs0 AP.out).mono ?_
            rintro e w5 ⟨rfl, a', b', h5, hS5, hu5⟩
            have h6 := HT4.out.act h5 rfl hu5
            have NX : Hid (¬ (qx = W.heap.size ∨ qx = bl0 ∨ qx = bl1)) := show ¬ _ by have := LQ.out; have := HT4.out.ne; omega
            have d5 := hu5.cell d2q NX.out
            have z5 := hu5.cell z2q NQ.out
            have k5 := hu5.cell kb4 NA.out
            have H6 : Hid _ := h6
            have H6d : Hid _ := h6.keep hn (Upd.refl _ _).drew
            have HS5 : Hid _ := hS5
            have HF : Hid _ := hf
            have sA : w5.cell? ⟨W.heap.size + 2, 1, none⟩ = some (.pointer (some ⟨bl1, 0, none⟩)) ∧ w5.cell? ⟨q, 2, none⟩ = some (.int .i64 x.a) ∧ w5.cell? ⟨qx, 2, none⟩ = some (.int .i64 lx.fr) := ⟨k5, z5, d5⟩
            have sD : w5.drew.cell? ⟨W.heap.size + 2, 1, none⟩ = some (.pointer (some ⟨bl1, 0, none⟩)) ∧ w5.drew.cell? ⟨q, 2, none⟩ = some (.int .i64 x.a) ∧ w5.drew.cell? ⟨qx, 2, none⟩ = some (.int .i64 lx.fr) := ⟨k5, z5, d5⟩
            clear h5 hS5 hu5 h6 d2q e2q z2q ka4 kb4 hf
            go_wp2_with fail
            go_region_held3 (fun w' => w'.cell? ⟨W.heap.size + 2, 1, none⟩ = some (.pointer (some ⟨bl1, 0, none⟩)) ∧ w'.cell? ⟨q, 2, none⟩ = some (.int .i64 x.a) ∧ w'.cell? ⟨qx, 2, none⟩ = some (.int .i64 lx.fr)) (first | with_reducible exact h7c | with_reducible exact sA | with_reducible exact sD)
              ((go_at_call 41; refine (HS5.out.join1 hs0 AP.out HOA.out EA.out HTY.out HF.out HS.out (by first | with_reducible exact H6.out.two | with_reducible exact H6d.out.two)).mono ?_; rintro e w7 ⟨rfl, s7, a7, b7, h7, hs7, hu7⟩; have h7c : w7.cell? ⟨W.heap.size + 2, 1, none⟩ = some (.pointer (some ⟨bl1, 0, none⟩)) ∧ w7.cell? ⟨q, 2, none⟩ = some (.int .i64 x.a) ∧ w7.cell? ⟨qx, 2, none⟩ = some (.int .i64 lx.fr) := ⟨hu7.cell (by first | with_reducible exact sA.1 | with_reducible exact sD.1) NA.out, hu7.cell (by first | with_reducible exact sA.2.1 | with_reducible exact sD.2.1) NQ.out, hu7.cell (by first | with_reducible exact sA.2.2 | with_reducible exact sD.2.2) NX.out⟩))
            have H8 : Hid _ := H6d.out.act h7 hs7 hu7
            clear h7 hs7 hu7 h7c sA sD k5 z5 d5
            go_wp2_with fail
            exact HM.out _ _ _ _ _ _ _ _ _ _ _ _ _ _ _ _ _ _ _ _ _ _ _ _ _ _ _ _ _ _ _ _ _ _ _ _ _ _ _ _ _ _ _ _ _ _ _ _ _ _ _ _ _ _ _ _ _ _ _ _ _ _ _ _ _ _ _ _ _ _ _ _ _ _ _ _ _ _ _ _ _ _ _ _ _ _ _ _ _ _ _ _ _ _ _ _ _ _ _ _ _ _ _ _ _ _ _ _ _ _ _ _ _ _ _ _ _ _ _ _ _ _ _ _ _ _ _ _ _ _ _ _ _ _ _ _ ⟨_, _, _, _, H8.out⟩
  · by_cases h0 : 0 ≤ x.b
    · have h1 : ¬ x.b < 16 := by omega
      clear hbb
      go_wp2_with fail
      exact HM.out _ _ _ _ _ _ _ _ _ _ _ _ _ _ _ _ _ _ _ _ _ _ _ _ _ _ _ _ _ _ _ _ _ _ _ _ _ _ _ _ _ _ _ _ _ _ _ _ _ _ _ _ _ _ _ _ _ _ _ _ _ _ _ _ _ _ _ _ _ _ _ _ _ _ _ _ _ _ _ _ _ _ _ _ _ _ _ _ _ _ _ _ _ _ _ _ _ _ _ _ _ _ _ _ _ _ _ _ _ _ _ _ _ _ _ _ _ _ _ _ _ _ _ _ _ _ _ _ _ _ _ _ _ _ _ _ ⟨_, _, _, _, HJ.out⟩
    · clear hbb
      go_wp2_with fail
      exact HM.out _ _ _ _ _ _ _ _ _ _ _ _ _ _ _ _ _ _ _ _ _ _ _ _ _ _ _ _ _ _ _ _ _ _ _ _ _ _ _ _ _ _ _ _ _ _ _ _ _ _ _ _ _ _ _ _ _ _ _ _ _ _ _ _ _ _ _ _ _ _ _ _ _ _ _ _ _ _ _ _ _ _ _ _ _ _ _ _ _ _ _ _ _ _ _ _ _ _ _ _ _ _ _ _ _ _ _ _ _ _ _ _ _ _ _ _ _ _ _ _ _ _ _ _ _ _ _ _ _ _ _ _ _ _ _ _ ⟨_, _, _, _, HJ.out⟩
set_option maxHeartbeats 4000000 in
theorem sw1_seal {c0 c1 c2 c3 c4 c6 c8 c9 c10 c11 c13 c16 c17 c18 c19 c20 c21 c22 c23 c24 c25 c26 c27 c28 c29 c30 c31 c32 c33 c34 c35 c36 c37 c38 c39 c40 c41 c42 c43 c44 c45 c46 c47 c48 c49 c50 c51 c52 c53 c54 c55 c56 c57 c58 c59 c60 c61 c62 c63 c64 c65 c66 c67 c68 c69 c70 c71 c72 c73 c74 c75 c76 c77 c78 c79 c80 c81 c82 c83 c84 c85 c86 c87 c89 c90 c91 c92 c93 c94 c95 c96 c97 c98 c99 c100 c101 c102 c103 c104 c105 c106 c107 c108 c109 c110 c111 c112 c113 c114 c115 c116 c117 c118 c119 c120 c121 c122 c123 c124 c125 c126 c127 c128 c129 c130 c131 c132 c133 c134 c135 c136 c137 c138 c139 c140 c141 c142 c143 c144 c145 c146 c147 c148 c149 c150 c151 c152 c153 c154 c155 c156 c157 c158 c159 c160 c161 c162 c163 c164 c165 c166 c167 c168 c169 c170 c171 c172 c173 c174 c175 c176 c177 c178 c179 c180 c181 c182 c183 c184 c185 c186 c187 c188 c189 c190 c191 c192 c193 c194 c195 c196 c197 c198 c199 c200 c201 c202 c203 c204 c205 c206 c207 c208 c209 c210 c211 c212 c213 c214 c215 c216 c217 c218 c219 c220 c221 : Value} {W W1 : World} {bl0 bl1 qb n q : Nat} {s : Pl} {ma mb : Mp} {t : Nat → Nat → Int} {x : Ac} (hn : 1 ≤ n) (hJ : T2 W W1 bl0 bl1 qb n s ma mb t) (y2 : W1.cell? ⟨q, 2, none⟩ = some (.int .i64 x.a)) (_y3 : W1.cell? ⟨q, 3, none⟩ = some (.int .i64 x.b)) (_y4 : W1.cell? ⟨q, 4, none⟩ = some (.int .u8 x.v)) (hq : bl0 < q ∧ bl1 < q ∧ qb < q ∧ W.heap.size + 2 < q) (k1' : (x.kind.toList == [106, 111, 105, 110]) = false) (k2 : (x.kind.toList == [115, 101, 97, 108]) = true) {Q : Exit → Act → World → Prop}
    (hm : ∀ (v4 v16 v17 v18 v19 v20 v21 v22 v89 v90 v91 v92 v93 v94 v95 v96 v97 v98 v99 v100 v101 v102 v103 v104 v105 v106 v107 v108 v109 v110 v111 v112 v113 v114 v115 v116 v117 v118 v119 v120 v121 v122 v123 v124 v125 v126 v127 v128 v129 v130 v131 v132 v133 v134 v135 v136 v137 v138 v139 v140 v141 v142 v143 v144 v145 v146 v147 v148 v149 v150 v151 v152 v153 v154 v155 v156 v157 v158 v159 v160 v161 v162 v163 v164 v165 v166 v167 v168 v169 v170 v171 v172 v173 v174 v175 v176 v177 v178 v179 v180 v181 v182 v183 v184 v185 v186 v187 v188 v189 v190 v191 v192 v193 v194 v195 v196 v197 v198 v199 v200 v201 v202 v203 v204 v205 v206 v207 v208 v209 v210 v211 v212 v213 v214 v215 : Value) (w' : World), (∃ s' a' b' t', T2 W w' bl0 bl1 qb n s' a' b' t') → Q .normal ⟨#[c0, c1, c2, c3, v4, .pointer (some ⟨W.heap.size + 1, 0, none⟩), c6, .pointer (some ⟨W.heap.size + 2, 0, none⟩), c8, c9, c10, c11, .pointer (some ⟨qb, 0, none⟩), c13, .pointer (some ⟨q, 0, none⟩), .int .i64 1, v16, v17, v18, v19, v20, v21, v22, c23, c24, c25, c26, c27, c28, c29, c30, c31, c32, c33, c34, c35, c36, c37, c38, c39, c40, c41, c42, c43, c44, c45, c46, c47, c48, c49, c50, c51, c52, c53, c54, c55, c56, c57, c58, c59, c60, c61, c62, c63, c64, c65, c66, c67, c68, c69, c70, c71, c72, c73, c74, c75, c76, c77, c78, c79, c80, c81, c82, c83, c84, c85, c86, c87, .string x.kind, v89, v90, v91, v92, v93, v94, v95, v96, v97, v98, v99, v100, v101, v102, v103, v104, v105, v106, v107, v108, v109, v110, v111, v112, v113, v114, v115, v116, v117, v118, v119, v120, v121, v122, v123, v124, v125, v126, v127, v128, v129, v130, v131, v132, v133, v134, v135, v136, v137, v138, v139, v140, v141, v142, v143, v144, v145, v146, v147, v148, v149, v150, v151, v152, v153, v154, v155, v156, v157, v158, v159, v160, v161, v162, v163, v164, v165, v166, v167, v168, v169, v170, v171, v172, v173, v174, v175, v176, v177, v178, v179, v180, v181, v182, v183, v184, v185, v186, v187, v188, v189, v190, v191, v192, v193, v194, v195, v196, v197, v198, v199, v200, v201, v202, v203, v204, v205, v206, v207, v208, v209, v210, v211, v212, v213, v214, v215, c216, c217, c218, c219, c220, c221], []⟩ w') :
    Code.wp Try.prog swCode Q ⟨#[c0, c1, c2, c3, c4, .pointer (some ⟨W.heap.size + 1, 0, none⟩), c6, .pointer (some ⟨W.heap.size + 2, 0, none⟩), c8, c9, c10, c11, .pointer (some ⟨qb, 0, none⟩), c13, .pointer (some ⟨q, 0, none⟩), .int .i64 1, c16, c17, c18, c19, c20, c21, c22, c23, c24, c25, c26, c27, c28, c29, c30, c31, c32, c33, c34, c35, c36, c37, c38, c39, c40, c41, c42, c43, c44, c45, c46, c47, c48, c49, c50, c51, c52, c53, c54, c55, c56, c57, c58, c59, c60, c61, c62, c63, c64, c65, c66, c67, c68, c69, c70, c71, c72, c73, c74, c75, c76, c77, c78, c79, c80, c81, c82, c83, c84, c85, c86, c87, .string x.kind, c89, c90, c91, c92, c93, c94, c95, c96, c97, c98, c99, c100, c101, c102, c103, c104, c105, c106, c107, c108, c109, c110, c111, c112, c113, c114, c115, c116, c117, c118, c119, c120, c121, c122, c123, c124, c125, c126, c127, c128, c129, c130, c131, c132, c133, c134, c135, c136, c137, c138, c139, c140, c141, c142, c143, c144, c145, c146, c147, c148, c149, c150, c151, c152, c153, c154, c155, c156, c157, c158, c159, c160, c161, c162, c163, c164, c165, c166, c167, c168, c169, c170, c171, c172, c173, c174, c175, c176, c177, c178, c179, c180, c181, c182, c183, c184, c185, c186, c187, c188, c189, c190, c191, c192, c193, c194, c195, c196, c197, c198, c199, c200, c201, c202, c203, c204, c205, c206, c207, c208, c209, c210, c211, c212, c213, c214, c215, c216, c217, c218, c219, c220, c221], []⟩ W1 := by
  have HM : Hid _ := hm
  have AP : Hid _ := hJ.ap
  have NQ : Hid (¬ (q = W.heap.size ∨ q = bl0 ∨ q = bl1)) := show ¬ _ by omega
  have NB : Hid (¬ (q = W.heap.size) ∧ q ≠ qb) := show _ ∧ _ by omega
  have hs0 : 0 < s.n := by rw [hJ.sn]; exact hn
  have ka := hJ.m0
  have kb := hJ.m1
  have HJ : Hid _ := hJ
  have HJd : Hid _ := hJ.keep hn (Upd.refl _ _).drew
  have NA : Hid (¬ (W.heap.size + 2 = W.heap.size ∨ W.heap.size + 2 = bl0 ∨ W.heap.size + 2 = bl1)) := show ¬ _ by have := hJ.ne; omega
  clear hq hm hJ
  conv => arg 2; whnf
  go_wp2_with fail
  go_region_held3 (fun w' => w'.cell? ⟨W.heap.size + 2, 1, none⟩ = some (.pointer (some ⟨bl1, 0, none⟩)) ∧ w'.cell? ⟨q, 2, none⟩ = some (.int .i64 x.a)) (first | exact ⟨kb, y2⟩ | exact h5c)
    ((go_at_call 42; refine (Two.sealn1 (by first | with_reducible exact HJ.out.two | with_reducible exact HJd.out.two) hs0 AP.out x.a).mono ?_; rintro e w5 ⟨er, rfl, a', b', h5, hu5⟩; have h5c : w5.cell? ⟨W.heap.size + 2, 1, none⟩ = some (.pointer (some ⟨bl1, 0, none⟩)) ∧ w5.cell? ⟨q, 2, none⟩ = some (.int .i64 x.a) := ⟨hu5.cell (by exact kb) NA.out, hu5.cell (by exact y2) NQ.out⟩))
  have H6 : Hid _ := HJd.out.act h5 rfl hu5
  clear h5 hu5 h5c
  go_wp2_with fail
  exact HM.out _ _ _ _ _ _ _ _ _ _ _ _ _ _ _ _ _ _ _ _ _ _ _ _ _ _ _ _ _ _ _ _ _ _ _ _ _ _ _ _ _ _ _ _ _ _ _ _ _ _ _ _ _ _ _ _ _ _ _ _ _ _ _ _ _ _ _ _ _ _ _ _ _ _ _ _ _ _ _ _ _ _ _ _ _ _ _ _ _ _ _ _ _ _ _ _ _ _ _ _ _ _ _ _ _ _ _ _ _ _ _ _ _ _ _ _ _ _ _ _ _ _ _ _ _ _ _ _ _ _ _ _ _ _ _ _ ⟨_, _, _, _, H6.out⟩
set_option maxHeartbeats 4000000 in
theorem sw1_set {c0 c1 c2 c3 c4 c6 c8 c9 c10 c11 c13 c16 c17 c18 c19 c20 c21 c22 c23 c24 c25 c26 c27 c28 c29 c30 c31 c32 c33 c34 c35 c36 c37 c38 c39 c40 c41 c42 c43 c44 c45 c46 c47 c48 c49 c50 c51 c52 c53 c54 c55 c56 c57 c58 c59 c60 c61 c62 c63 c64 c65 c66 c67 c68 c69 c70 c71 c72 c73 c74 c75 c76 c77 c78 c79 c80 c81 c82 c83 c84 c85 c86 c87 c89 c90 c91 c92 c93 c94 c95 c96 c97 c98 c99 c100 c101 c102 c103 c104 c105 c106 c107 c108 c109 c110 c111 c112 c113 c114 c115 c116 c117 c118 c119 c120 c121 c122 c123 c124 c125 c126 c127 c128 c129 c130 c131 c132 c133 c134 c135 c136 c137 c138 c139 c140 c141 c142 c143 c144 c145 c146 c147 c148 c149 c150 c151 c152 c153 c154 c155 c156 c157 c158 c159 c160 c161 c162 c163 c164 c165 c166 c167 c168 c169 c170 c171 c172 c173 c174 c175 c176 c177 c178 c179 c180 c181 c182 c183 c184 c185 c186 c187 c188 c189 c190 c191 c192 c193 c194 c195 c196 c197 c198 c199 c200 c201 c202 c203 c204 c205 c206 c207 c208 c209 c210 c211 c212 c213 c214 c215 c216 c217 c218 c219 c220 c221 : Value} {W W1 : World} {bl0 bl1 qb n q : Nat} {s : Pl} {ma mb : Mp} {t : Nat → Nat → Int} {x : Ac} (hn : 1 ≤ n) (hJ : T2 W W1 bl0 bl1 qb n s ma mb t) (y2 : W1.cell? ⟨q, 2, none⟩ = some (.int .i64 x.a)) (y3 : W1.cell? ⟨q, 3, none⟩ = some (.int .i64 x.b)) (y4 : W1.cell? ⟨q, 4, none⟩ = some (.int .u8 x.v)) (hq : bl0 < q ∧ bl1 < q ∧ qb < q ∧ W.heap.size + 2 < q) (k1' : (x.kind.toList == [106, 111, 105, 110]) = false) (k2' : (x.kind.toList == [115, 101, 97, 108]) = false) (k3 : (x.kind.toList == [115, 101, 116]) = true) {Q : Exit → Act → World → Prop}
    (hm : ∀ (v4 v16 v17 v18 v19 v20 v21 v22 v89 v90 v91 v92 v93 v94 v95 v96 v97 v98 v99 v100 v101 v102 v103 v104 v105 v106 v107 v108 v109 v110 v111 v112 v113 v114 v115 v116 v117 v118 v119 v120 v121 v122 v123 v124 v125 v126 v127 v128 v129 v130 v131 v132 v133 v134 v135 v136 v137 v138 v139 v140 v141 v142 v143 v144 v145 v146 v147 v148 v149 v150 v151 v152 v153 v154 v155 v156 v157 v158 v159 v160 v161 v162 v163 v164 v165 v166 v167 v168 v169 v170 v171 v172 v173 v174 v175 v176 v177 v178 v179 v180 v181 v182 v183 v184 v185 v186 v187 v188 v189 v190 v191 v192 v193 v194 v195 v196 v197 v198 v199 v200 v201 v202 v203 v204 v205 v206 v207 v208 v209 v210 v211 v212 v213 v214 v215 : Value) (w' : World), (∃ s' a' b' t', T2 W w' bl0 bl1 qb n s' a' b' t') → Q .normal ⟨#[c0, c1, c2, c3, v4, .pointer (some ⟨W.heap.size + 1, 0, none⟩), c6, .pointer (some ⟨W.heap.size + 2, 0, none⟩), c8, c9, c10, c11, .pointer (some ⟨qb, 0, none⟩), c13, .pointer (some ⟨q, 0, none⟩), .int .i64 1, v16, v17, v18, v19, v20, v21, v22, c23, c24, c25, c26, c27, c28, c29, c30, c31, c32, c33, c34, c35, c36, c37, c38, c39, c40, c41, c42, c43, c44, c45, c46, c47, c48, c49, c50, c51, c52, c53, c54, c55, c56, c57, c58, c59, c60, c61, c62, c63, c64, c65, c66, c67, c68, c69, c70, c71, c72, c73, c74, c75, c76, c77, c78, c79, c80, c81, c82, c83, c84, c85, c86, c87, .string x.kind, v89, v90, v91, v92, v93, v94, v95, v96, v97, v98, v99, v100, v101, v102, v103, v104, v105, v106, v107, v108, v109, v110, v111, v112, v113, v114, v115, v116, v117, v118, v119, v120, v121, v122, v123, v124, v125, v126, v127, v128, v129, v130, v131, v132, v133, v134, v135, v136, v137, v138, v139, v140, v141, v142, v143, v144, v145, v146, v147, v148, v149, v150, v151, v152, v153, v154, v155, v156, v157, v158, v159, v160, v161, v162, v163, v164, v165, v166, v167, v168, v169, v170, v171, v172, v173, v174, v175, v176, v177, v178, v179, v180, v181, v182, v183, v184, v185, v186, v187, v188, v189, v190, v191, v192, v193, v194, v195, v196, v197, v198, v199, v200, v201, v202, v203, v204, v205, v206, v207, v208, v209, v210, v211, v212, v213, v214, v215, c216, c217, c218, c219, c220, c221], []⟩ w') :
    Code.wp Try.prog swCode Q ⟨#[c0, c1, c2, c3, c4, .pointer (some ⟨W.heap.size + 1, 0, none⟩), c6, .pointer (some ⟨W.heap.size + 2, 0, none⟩), c8, c9, c10, c11, .pointer (some ⟨qb, 0, none⟩), c13, .pointer (some ⟨q, 0, none⟩), .int .i64 1, c16, c17, c18, c19, c20, c21, c22, c23, c24, c25, c26, c27, c28, c29, c30, c31, c32, c33, c34, c35, c36, c37, c38, c39, c40, c41, c42, c43, c44, c45, c46, c47, c48, c49, c50, c51, c52, c53, c54, c55, c56, c57, c58, c59, c60, c61, c62, c63, c64, c65, c66, c67, c68, c69, c70, c71, c72, c73, c74, c75, c76, c77, c78, c79, c80, c81, c82, c83, c84, c85, c86, c87, .string x.kind, c89, c90, c91, c92, c93, c94, c95, c96, c97, c98, c99, c100, c101, c102, c103, c104, c105, c106, c107, c108, c109, c110, c111, c112, c113, c114, c115, c116, c117, c118, c119, c120, c121, c122, c123, c124, c125, c126, c127, c128, c129, c130, c131, c132, c133, c134, c135, c136, c137, c138, c139, c140, c141, c142, c143, c144, c145, c146, c147, c148, c149, c150, c151, c152, c153, c154, c155, c156, c157, c158, c159, c160, c161, c162, c163, c164, c165, c166, c167, c168, c169, c170, c171, c172, c173, c174, c175, c176, c177, c178, c179, c180, c181, c182, c183, c184, c185, c186, c187, c188, c189, c190, c191, c192, c193, c194, c195, c196, c197, c198, c199, c200, c201, c202, c203, c204, c205, c206, c207, c208, c209, c210, c211, c212, c213, c214, c215, c216, c217, c218, c219, c220, c221], []⟩ W1 := by
  have HM : Hid _ := hm
  have AP : Hid _ := hJ.ap
  have NQ : Hid (¬ (q = W.heap.size ∨ q = bl0 ∨ q = bl1)) := show ¬ _ by omega
  have NB : Hid (¬ (q = W.heap.size) ∧ q ≠ qb) := show _ ∧ _ by omega
  have hs0 : 0 < s.n := by rw [hJ.sn]; exact hn
  have ka := hJ.m0
  have kb := hJ.m1
  have HJ : Hid _ := hJ
  have HJd : Hid _ := hJ.keep hn (Upd.refl _ _).drew
  have NA : Hid (¬ (W.heap.size + 2 = W.heap.size ∨ W.heap.size + 2 = bl0 ∨ W.heap.size + 2 = bl1)) := show ¬ _ by have := hJ.ne; omega
  clear hq hm hJ
  conv => arg 2; whnf
  go_wp2_with fail
  go_region_held3 (fun w' => w'.cell? ⟨W.heap.size + 2, 1, none⟩ = some (.pointer (some ⟨bl1, 0, none⟩)) ∧ w'.cell? ⟨q, 2, none⟩ = some (.int .i64 x.a)) (first | exact ⟨kb, y2⟩ | exact h5c)
    ((go_at_call 35; refine (Two.touch1 (by first | with_reducible exact HJ.out.two | with_reducible exact HJd.out.two) hs0 AP.out x.a true).mono ?_; rintro e w5 ⟨fr, mv, er, rfl, s', a', b', h5, hs5, hu5, hc5⟩; have h5c : w5.cell? ⟨W.heap.size + 2, 1, none⟩ = some (.pointer (some ⟨bl1, 0, none⟩)) ∧ w5.cell? ⟨q, 2, none⟩ = some (.int .i64 x.a) := ⟨hu5.cell (by exact kb) NA.out, hu5.cell (by exact y2) NQ.out⟩))
  have h6 := HJd.out.act h5 hs5 hu5
  have z2 : w5.cell? ⟨q, 2, none⟩ = some (.int .i64 x.a) := h5c.2
  have z3 : w5.cell? ⟨q, 3, none⟩ = some (.int .i64 x.b) := hu5.cell (by exact y3) NQ.out
  have z4 : w5.cell? ⟨q, 4, none⟩ = some (.int .u8 x.v) := hu5.cell (by exact y4) NQ.out
  have H6 : Hid _ := h6
  clear h5 hu5 h5c ka kb y2 y3 y4 h6
  by_cases her : er = 0
  · subst her
    rw [errV_zero]
    obtain ⟨hoa, hc⟩ := hc5 rfl
    obtain ⟨c1', c2', c3'⟩ := hc (by simp)
    obtain ⟨p0, p1⟩ := (onB_iff x.a).1 hoa
    clear hc5 hc hoa
    by_cases hbb : 0 ≤ x.b ∧ x.b < 16
    · obtain ⟨i0, i1⟩ := hbb
      have hpp : (16 + x.a.toNat) < 32 := by omega
      have hus := H6.out.two.inv.cn.used hpp c1'
      have hone := H6.out.two.r.one _ hpp c1' c2'
      rw [c3'] at hus hone
      have HUS : Hid _ := hus
      have HONE : Hid (s'.refs fr.toNat ≤ 1) := show _ ≤ _ by omega
      have C1 : Hid _ := c1'
      have C2 : Hid _ := c2'
      have C3 : Hid _ := c3'
      clear hus hone c1' c2' c3'
      go_wp2_with fail
      refine (set_at _ _ _ fr x.b x.v s' H6.out.two.pool i0 i1 HUS.out HONE.out).mono ?_
      rintro e w7 ⟨rfl, hp7, hu7⟩
      rw [← C3.out] at hp7
      have h8 := H6.out.two.byte AP.out hpp C1.out C2.out hp7 hu7
      have h9 := H6.out.byte hn h8 rfl hu7 hpp (show x.b.toNat < 16 by omega)
      have r7 : w7.cell? ⟨qb, (16 + x.a.toNat) * 16 + x.b.toNat, none⟩ = some (.int .u8 (t (16 + x.a.toNat) x.b.toNat)) := hu7.cell (H6.out.row (16 + x.a.toNat) x.b.toNat hpp (by omega)) (by show ¬ (qb = W.heap.size); have := H6.out.ne; omega)
      have f7 : w7.frozen? ⟨qb, (16 + x.a.toNat) * 16 + x.b.toNat, none⟩ = false := frozen_any hu7 (by have := H6.out.ne; omega) (H6.out.row 0 0 (by omega) (by omega)) H6.out.fz _
      have v2 := hu7.cell z2 NB.out.1
      have v3 := hu7.cell z3 NB.out.1
      have v4 := hu7.cell z4 NB.out.1
      have H9 : Hid _ := h9
      clear h8 h9 hp7 hu7 z2 z3 z4
      have w0 : IntKind.i64.wrap 16 = 16 := (by rw [IntKind.wrap_i64]; omega)
      have wa : IntKind.i64.wrap (16 + x.a) = 16 + x.a := (by rw [IntKind.wrap_i64]; omega)
      have ip : 16 + x.a.toNat = (16 + x.a).toNat := by omega
      have q0 : 0 ≤ 16 + x.a := by omega
      have q1 : 16 + x.a < 32 := by omega
      rw [ip] at r7 f7
      have H9' : Hid _ := H9.out
      rw [ip] at H9'
      go_wp2_with fail
      have ne : ∀ o1 o2 : Nat, (⟨qb, o1, none⟩ : Addr) ≠ ⟨q, o2, none⟩ := fun _ _ => addr_ne (Or.inl (Ne.symm NB.out.2))
      have e2 : (w7.setCell ⟨qb, (16 + x.a).toNat * 16 + x.b.toNat, none⟩ (.int .u8 x.v)).cell? ⟨q, 2, none⟩ = some (.int .i64 x.a) := by rw [World.cell?_setCell_other _ _ _ _ (ne _ _)]; exact v2
      have e3 : (w7.setCell ⟨qb, (16 + x.a).toNat * 16 + x.b.toNat, none⟩ (.int .u8 x.v)).cell? ⟨q, 3, none⟩ = some (.int .i64 x.b) := by rw [World.cell?_setCell_other _ _ _ _ (ne _ _)]; exact v3
      have e4 : (w7.setCell ⟨qb, (16 + x.a).toNat * 16 + x.b.toNat, none⟩ (.int .u8 x.v)).cell? ⟨q, 4, none⟩ = some (.int .u8 x.v) := by rw [World.cell?_setCell_other _ _ _ _ (ne _ _)]; exact v4
      go_region_held3 (fun w' => w'.cell? ⟨q, 2, none⟩ = some (.int .i64 x.a) ∧ w'.cell? ⟨q, 3, none⟩ = some (.int .i64 x.b) ∧ w'.cell? ⟨q, 4, none⟩ = some (.int .u8 x.v)) (first | go_keep | (exact ⟨e2, e3, e4⟩)) (fail)
      clear ne e2 e3 e4 v2 v3 v4 r7 f7
      go_wp2_with fail
      exact HM.out _ _ _ _ _ _ _ _ _ _ _ _ _ _ _ _ _ _ _ _ _ _ _ _ _ _ _ _ _ _ _ _ _ _ _ _ _ _ _ _ _ _ _ _ _ _ _ _ _ _ _ _ _ _ _ _ _ _ _ _ _ _ _ _ _ _ _ _ _ _ _ _ _ _ _ _ _ _ _ _ _ _ _ _ _ _ _ _ _ _ _ _ _ _ _ _ _ _ _ _ _ _ _ _ _ _ _ _ _ _ _ _ _ _ _ _ _ _ _ _ _ _ _ _ _ _ _ _ _ _ _ _ _ _ _ _ ⟨_, _, _, _, H9'.out.keep hn (Upd.refl _ _).drew⟩
    · by_cases h0 : 0 ≤ x.b
      · have h1 : ¬ x.b < 16 := by omega
        clear hbb
        go_wp2_with fail
        exact HM.out _ _ _ _ _ _ _ _ _ _ _ _ _ _ _ _ _ _ _ _ _ _ _ _ _ _ _ _ _ _ _ _ _ _ _ _ _ _ _ _ _ _ _ _ _ _ _ _ _ _ _ _ _ _ _ _ _ _ _ _ _ _ _ _ _ _ _ _ _ _ _ _ _ _ _ _ _ _ _ _ _ _ _ _ _ _ _ _ _ _ _ _ _ _ _ _ _ _ _ _ _ _ _ _ _ _ _ _ _ _ _ _ _ _ _ _ _ _ _ _ _ _ _ _ _ _ _ _ _ _ _ _ _ _ _ _ ⟨_, _, _, _, H6.out⟩
      · clear hbb
        go_wp2_with fail
        exact HM.out _ _ _ _ _ _ _ _ _ _ _ _ _ _ _ _ _ _ _ _ _ _ _ _ _ _ _ _ _ _ _ _ _ _ _ _ _ _ _ _ _ _ _ _ _ _ _ _ _ _ _ _ _ _ _ _ _ _ _ _ _ _ _ _ _ _ _ _ _ _ _ _ _ _ _ _ _ _ _ _ _ _ _ _ _ _ _ _ _ _ _ _ _ _ _ _ _ _ _ _ _ _ _ _ _ _ _ _ _ _ _ _ _ _ _ _ _ _ _ _ _ _ _ _ _ _ _ _ _ _ _ _ _ _ _ _ ⟨_, _, _, _, H6.out⟩
  · rw [errV_ne her]
    clear hc5
    go_wp2_with fail
    exact HM.out _ _ _ _ _ _ _ _ _ _ _ _ _ _ _ _ _ _ _ _ _ _ _ _ _ _ _ _ _ _ _ _ _ _ _ _ _ _ _ _ _ _ _ _ _ _ _ _ _ _ _ _ _ _ _ _ _ _ _ _ _ _ _ _ _ _ _ _ _ _ _ _ _ _ _ _ _ _ _ _ _ _ _ _ _ _ _ _ _ _ _ _ _ _ _ _ _ _ _ _ _ _ _ _ _ _ _ _ _ _ _ _ _ _ _ _ _ _ _ _ _ _ _ _ _ _ _ _ _ _ _ _ _ _ _ _ ⟨_, _, _, _, H6.out⟩
set_option maxHeartbeats 4000000 in
theorem sw1_else {c0 c1 c2 c3 c4 c6 c8 c9 c10 c11 c13 c16 c17 c18 c19 c20 c21 c22 c23 c24 c25 c26 c27 c28 c29 c30 c31 c32 c33 c34 c35 c36 c37 c38 c39 c40 c41 c42 c43 c44 c45 c46 c47 c48 c49 c50 c51 c52 c53 c54 c55 c56 c57 c58 c59 c60 c61 c62 c63 c64 c65 c66 c67 c68 c69 c70 c71 c72 c73 c74 c75 c76 c77 c78 c79 c80 c81 c82 c83 c84 c85 c86 c87 c89 c90 c91 c92 c93 c94 c95 c96 c97 c98 c99 c100 c101 c102 c103 c104 c105 c106 c107 c108 c109 c110 c111 c112 c113 c114 c115 c116 c117 c118 c119 c120 c121 c122 c123 c124 c125 c126 c127 c128 c129 c130 c131 c132 c133 c134 c135 c136 c137 c138 c139 c140 c141 c142 c143 c144 c145 c146 c147 c148 c149 c150 c151 c152 c153 c154 c155 c156 c157 c158 c159 c160 c161 c162 c163 c164 c165 c166 c167 c168 c169 c170 c171 c172 c173 c174 c175 c176 c177 c178 c179 c180 c181 c182 c183 c184 c185 c186 c187 c188 c189 c190 c191 c192 c193 c194 c195 c196 c197 c198 c199 c200 c201 c202 c203 c204 c205 c206 c207 c208 c209 c210 c211 c212 c213 c214 c215 c216 c217 c218 c219 c220 c221 : Value} {W W1 : World} {bl0 bl1 qb n q : Nat} {s : Pl} {ma mb : Mp} {t : Nat → Nat → Int} {x : Ac} (hn : 1 ≤ n) (hJ : T2 W W1 bl0 bl1 qb n s ma mb t) (y2 : W1.cell? ⟨q, 2, none⟩ = some (.int .i64 x.a)) (y3 : W1.cell? ⟨q, 3, none⟩ = some (.int .i64 x.b)) (_y4 : W1.cell? ⟨q, 4, none⟩ = some (.int .u8 x.v)) (hq : bl0 < q ∧ bl1 < q ∧ qb < q ∧ W.heap.size + 2 < q) (k1' : (x.kind.toList == [106, 111, 105, 110]) = false) (k2' : (x.kind.toList == [115, 101, 97, 108]) = false) (k3' : (x.kind.toList == [115, 101, 116]) = false) {Q : Exit → Act → World → Prop}
    (hm : ∀ (v4 v16 v17 v18 v19 v20 v21 v22 v89 v90 v91 v92 v93 v94 v95 v96 v97 v98 v99 v100 v101 v102 v103 v104 v105 v106 v107 v108 v109 v110 v111 v112 v113 v114 v115 v116 v117 v118 v119 v120 v121 v122 v123 v124 v125 v126 v127 v128 v129 v130 v131 v132 v133 v134 v135 v136 v137 v138 v139 v140 v141 v142 v143 v144 v145 v146 v147 v148 v149 v150 v151 v152 v153 v154 v155 v156 v157 v158 v159 v160 v161 v162 v163 v164 v165 v166 v167 v168 v169 v170 v171 v172 v173 v174 v175 v176 v177 v178 v179 v180 v181 v182 v183 v184 v185 v186 v187 v188 v189 v190 v191 v192 v193 v194 v195 v196 v197 v198 v199 v200 v201 v202 v203 v204 v205 v206 v207 v208 v209 v210 v211 v212 v213 v214 v215 : Value) (w' : World), (∃ s' a' b' t', T2 W w' bl0 bl1 qb n s' a' b' t') → Q .normal ⟨#[c0, c1, c2, c3, v4, .pointer (some ⟨W.heap.size + 1, 0, none⟩), c6, .pointer (some ⟨W.heap.size + 2, 0, none⟩), c8, c9, c10, c11, .pointer (some ⟨qb, 0, none⟩), c13, .pointer (some ⟨q, 0, none⟩), .int .i64 1, v16, v17, v18, v19, v20, v21, v22, c23, c24, c25, c26, c27, c28, c29, c30, c31, c32, c33, c34, c35, c36, c37, c38, c39, c40, c41, c42, c43, c44, c45, c46, c47, c48, c49, c50, c51, c52, c53, c54, c55, c56, c57, c58, c59, c60, c61, c62, c63, c64, c65, c66, c67, c68, c69, c70, c71, c72, c73, c74, c75, c76, c77, c78, c79, c80, c81, c82, c83, c84, c85, c86, c87, .string x.kind, v89, v90, v91, v92, v93, v94, v95, v96, v97, v98, v99, v100, v101, v102, v103, v104, v105, v106, v107, v108, v109, v110, v111, v112, v113, v114, v115, v116, v117, v118, v119, v120, v121, v122, v123, v124, v125, v126, v127, v128, v129, v130, v131, v132, v133, v134, v135, v136, v137, v138, v139, v140, v141, v142, v143, v144, v145, v146, v147, v148, v149, v150, v151, v152, v153, v154, v155, v156, v157, v158, v159, v160, v161, v162, v163, v164, v165, v166, v167, v168, v169, v170, v171, v172, v173, v174, v175, v176, v177, v178, v179, v180, v181, v182, v183, v184, v185, v186, v187, v188, v189, v190, v191, v192, v193, v194, v195, v196, v197, v198, v199, v200, v201, v202, v203, v204, v205, v206, v207, v208, v209, v210, v211, v212, v213, v214, v215, c216, c217, c218, c219, c220, c221], []⟩ w') :
    Code.wp Try.prog swCode Q ⟨#[c0, c1, c2, c3, c4, .pointer (some ⟨W.heap.size + 1, 0, none⟩), c6, .pointer (some ⟨W.heap.size + 2, 0, none⟩), c8, c9, c10, c11, .pointer (some ⟨qb, 0, none⟩), c13, .pointer (some ⟨q, 0, none⟩), .int .i64 1, c16, c17, c18, c19, c20, c21, c22, c23, c24, c25, c26, c27, c28, c29, c30, c31, c32, c33, c34, c35, c36, c37, c38, c39, c40, c41, c42, c43, c44, c45, c46, c47, c48, c49, c50, c51, c52, c53, c54, c55, c56, c57, c58, c59, c60, c61, c62, c63, c64, c65, c66, c67, c68, c69, c70, c71, c72, c73, c74, c75, c76, c77, c78, c79, c80, c81, c82, c83, c84, c85, c86, c87, .string x.kind, c89, c90, c91, c92, c93, c94, c95, c96, c97, c98, c99, c100, c101, c102, c103, c104, c105, c106, c107, c108, c109, c110, c111, c112, c113, c114, c115, c116, c117, c118, c119, c120, c121, c122, c123, c124, c125, c126, c127, c128, c129, c130, c131, c132, c133, c134, c135, c136, c137, c138, c139, c140, c141, c142, c143, c144, c145, c146, c147, c148, c149, c150, c151, c152, c153, c154, c155, c156, c157, c158, c159, c160, c161, c162, c163, c164, c165, c166, c167, c168, c169, c170, c171, c172, c173, c174, c175, c176, c177, c178, c179, c180, c181, c182, c183, c184, c185, c186, c187, c188, c189, c190, c191, c192, c193, c194, c195, c196, c197, c198, c199, c200, c201, c202, c203, c204, c205, c206, c207, c208, c209, c210, c211, c212, c213, c214, c215, c216, c217, c218, c219, c220, c221], []⟩ W1 := by
  have HM : Hid _ := hm
  have AP : Hid _ := hJ.ap
  have NQ : Hid (¬ (q = W.heap.size ∨ q = bl0 ∨ q = bl1)) := show ¬ _ by omega
  have NB : Hid (¬ (q = W.heap.size) ∧ q ≠ qb) := show _ ∧ _ by omega
  have hs0 : 0 < s.n := by rw [hJ.sn]; exact hn
  have ka := hJ.m0
  have kb := hJ.m1
  have HJ : Hid _ := hJ
  have HJd : Hid _ := hJ.keep hn (Upd.refl _ _).drew
  have NA : Hid (¬ (W.heap.size + 2 = W.heap.size ∨ W.heap.size + 2 = bl0 ∨ W.heap.size + 2 = bl1)) := show ¬ _ by have := hJ.ne; omega
  clear hq hm hJ
  conv => arg 2; whnf
  go_wp2_with fail
  go_region_held3 (fun w' => w'.cell? ⟨W.heap.size + 2, 1, none⟩ = some (.pointer (some ⟨bl1, 0, none⟩)) ∧ w'.cell? ⟨q, 2, none⟩ = some (.int .i64 x.a) ∧ w'.cell? ⟨q, 3, none⟩ = some (.int .i64 x.b)) (first | exact ⟨kb, y2, y3⟩ | exact h5c)
    ((go_at_call 35; refine (Two.touch1 (by first | with_reducible exact HJ.out.two | with_reducible exact HJd.out.two) hs0 AP.out x.a (decide (0 < x.b))).mono ?_; rintro e w5 ⟨fr, mv, er, rfl, s', a', b', h5, hs5, hu5, _⟩; have h5c : w5.cell? ⟨W.heap.size + 2, 1, none⟩ = some (.pointer (some ⟨bl1, 0, none⟩)) ∧ w5.cell? ⟨q, 2, none⟩ = some (.int .i64 x.a) ∧ w5.cell? ⟨q, 3, none⟩ = some (.int .i64 x.b) := ⟨hu5.cell (by exact kb) NA.out, hu5.cell (by exact y2) NQ.out, hu5.cell (by exact y3) NQ.out⟩))
  have H6 : Hid _ := HJd.out.act h5 hs5 hu5
  clear h5 hu5 hs5 h5c
  go_wp2_with fail
  exact HM.out _ _ _ _ _ _ _ _ _ _ _ _ _ _ _ _ _ _ _ _ _ _ _ _ _ _ _ _ _ _ _ _ _ _ _ _ _ _ _ _ _ _ _ _ _ _ _ _ _ _ _ _ _ _ _ _ _ _ _ _ _ _ _ _ _ _ _ _ _ _ _ _ _ _ _ _ _ _ _ _ _ _ _ _ _ _ _ _ _ _ _ _ _ _ _ _ _ _ _ _ _ _ _ _ _ _ _ _ _ _ _ _ _ _ _ _ _ _ _ _ _ _ _ _ _ _ _ _ _ _ _ _ _ _ _ _ ⟨_, _, _, _, H6.out⟩
theorem sw1 {c0 c1 c2 c3 c4 c6 c8 c9 c10 c11 c13 c16 c17 c18 c19 c20 c21 c22 c23 c24 c25 c26 c27 c28 c29 c30 c31 c32 c33 c34 c35 c36 c37 c38 c39 c40 c41 c42 c43 c44 c45 c46 c47 c48 c49 c50 c51 c52 c53 c54 c55 c56 c57 c58 c59 c60 c61 c62 c63 c64 c65 c66 c67 c68 c69 c70 c71 c72 c73 c74 c75 c76 c77 c78 c79 c80 c81 c82 c83 c84 c85 c86 c87 c89 c90 c91 c92 c93 c94 c95 c96 c97 c98 c99 c100 c101 c102 c103 c104 c105 c106 c107 c108 c109 c110 c111 c112 c113 c114 c115 c116 c117 c118 c119 c120 c121 c122 c123 c124 c125 c126 c127 c128 c129 c130 c131 c132 c133 c134 c135 c136 c137 c138 c139 c140 c141 c142 c143 c144 c145 c146 c147 c148 c149 c150 c151 c152 c153 c154 c155 c156 c157 c158 c159 c160 c161 c162 c163 c164 c165 c166 c167 c168 c169 c170 c171 c172 c173 c174 c175 c176 c177 c178 c179 c180 c181 c182 c183 c184 c185 c186 c187 c188 c189 c190 c191 c192 c193 c194 c195 c196 c197 c198 c199 c200 c201 c202 c203 c204 c205 c206 c207 c208 c209 c210 c211 c212 c213 c214 c215 c216 c217 c218 c219 c220 c221 : Value} {W W1 : World} {bl0 bl1 qb n q : Nat} {s : Pl} {ma mb : Mp} {t : Nat → Nat → Int} {x : Ac} (hn : 1 ≤ n) (hJ : T2 W W1 bl0 bl1 qb n s ma mb t) (y2 : W1.cell? ⟨q, 2, none⟩ = some (.int .i64 x.a)) (y3 : W1.cell? ⟨q, 3, none⟩ = some (.int .i64 x.b)) (y4 : W1.cell? ⟨q, 4, none⟩ = some (.int .u8 x.v)) (hq : bl0 < q ∧ bl1 < q ∧ qb < q ∧ W.heap.size + 2 < q)  {Q : Exit → Act → World → Prop}
    (hm : ∀ (v4 v16 v17 v18 v19 v20 v21 v22 v89 v90 v91 v92 v93 v94 v95 v96 v97 v98 v99 v100 v101 v102 v103 v104 v105 v106 v107 v108 v109 v110 v111 v112 v113 v114 v115 v116 v117 v118 v119 v120 v121 v122 v123 v124 v125 v126 v127 v128 v129 v130 v131 v132 v133 v134 v135 v136 v137 v138 v139 v140 v141 v142 v143 v144 v145 v146 v147 v148 v149 v150 v151 v152 v153 v154 v155 v156 v157 v158 v159 v160 v161 v162 v163 v164 v165 v166 v167 v168 v169 v170 v171 v172 v173 v174 v175 v176 v177 v178 v179 v180 v181 v182 v183 v184 v185 v186 v187 v188 v189 v190 v191 v192 v193 v194 v195 v196 v197 v198 v199 v200 v201 v202 v203 v204 v205 v206 v207 v208 v209 v210 v211 v212 v213 v214 v215 : Value) (w' : World), (∃ s' a' b' t', T2 W w' bl0 bl1 qb n s' a' b' t') → Q .normal ⟨#[c0, c1, c2, c3, v4, .pointer (some ⟨W.heap.size + 1, 0, none⟩), c6, .pointer (some ⟨W.heap.size + 2, 0, none⟩), c8, c9, c10, c11, .pointer (some ⟨qb, 0, none⟩), c13, .pointer (some ⟨q, 0, none⟩), .int .i64 1, v16, v17, v18, v19, v20, v21, v22, c23, c24, c25, c26, c27, c28, c29, c30, c31, c32, c33, c34, c35, c36, c37, c38, c39, c40, c41, c42, c43, c44, c45, c46, c47, c48, c49, c50, c51, c52, c53, c54, c55, c56, c57, c58, c59, c60, c61, c62, c63, c64, c65, c66, c67, c68, c69, c70, c71, c72, c73, c74, c75, c76, c77, c78, c79, c80, c81, c82, c83, c84, c85, c86, c87, .string x.kind, v89, v90, v91, v92, v93, v94, v95, v96, v97, v98, v99, v100, v101, v102, v103, v104, v105, v106, v107, v108, v109, v110, v111, v112, v113, v114, v115, v116, v117, v118, v119, v120, v121, v122, v123, v124, v125, v126, v127, v128, v129, v130, v131, v132, v133, v134, v135, v136, v137, v138, v139, v140, v141, v142, v143, v144, v145, v146, v147, v148, v149, v150, v151, v152, v153, v154, v155, v156, v157, v158, v159, v160, v161, v162, v163, v164, v165, v166, v167, v168, v169, v170, v171, v172, v173, v174, v175, v176, v177, v178, v179, v180, v181, v182, v183, v184, v185, v186, v187, v188, v189, v190, v191, v192, v193, v194, v195, v196, v197, v198, v199, v200, v201, v202, v203, v204, v205, v206, v207, v208, v209, v210, v211, v212, v213, v214, v215, c216, c217, c218, c219, c220, c221], []⟩ w') :
    Code.wp Try.prog swCode Q ⟨#[c0, c1, c2, c3, c4, .pointer (some ⟨W.heap.size + 1, 0, none⟩), c6, .pointer (some ⟨W.heap.size + 2, 0, none⟩), c8, c9, c10, c11, .pointer (some ⟨qb, 0, none⟩), c13, .pointer (some ⟨q, 0, none⟩), .int .i64 1, c16, c17, c18, c19, c20, c21, c22, c23, c24, c25, c26, c27, c28, c29, c30, c31, c32, c33, c34, c35, c36, c37, c38, c39, c40, c41, c42, c43, c44, c45, c46, c47, c48, c49, c50, c51, c52, c53, c54, c55, c56, c57, c58, c59, c60, c61, c62, c63, c64, c65, c66, c67, c68, c69, c70, c71, c72, c73, c74, c75, c76, c77, c78, c79, c80, c81, c82, c83, c84, c85, c86, c87, .string x.kind, c89, c90, c91, c92, c93, c94, c95, c96, c97, c98, c99, c100, c101, c102, c103, c104, c105, c106, c107, c108, c109, c110, c111, c112, c113, c114, c115, c116, c117, c118, c119, c120, c121, c122, c123, c124, c125, c126, c127, c128, c129, c130, c131, c132, c133, c134, c135, c136, c137, c138, c139, c140, c141, c142, c143, c144, c145, c146, c147, c148, c149, c150, c151, c152, c153, c154, c155, c156, c157, c158, c159, c160, c161, c162, c163, c164, c165, c166, c167, c168, c169, c170, c171, c172, c173, c174, c175, c176, c177, c178, c179, c180, c181, c182, c183, c184, c185, c186, c187, c188, c189, c190, c191, c192, c193, c194, c195, c196, c197, c198, c199, c200, c201, c202, c203, c204, c205, c206, c207, c208, c209, c210, c211, c212, c213, c214, c215, c216, c217, c218, c219, c220, c221], []⟩ W1 := by
  by_cases k1 : (x.kind.toList == [106, 111, 105, 110]) = true
  · exact sw1_join hn hJ y2 y3 y4 hq k1 hm
  · have k1' : (x.kind.toList == [106, 111, 105, 110]) = false := by simpa using k1
    by_cases k2 : (x.kind.toList == [115, 101, 97, 108]) = true
    · exact sw1_seal hn hJ y2 y3 y4 hq k1' k2 hm
    · have k2' : (x.kind.toList == [115, 101, 97, 108]) = false := by simpa using k2
      by_cases k3 : (x.kind.toList == [115, 101, 116]) = true
      · exact sw1_set hn hJ y2 y3 y4 hq k1' k2' k3 hm
      · have k3' : (x.kind.toList == [115, 101, 116]) = false := by simpa using k3
        exact sw1_else hn hJ y2 y3 y4 hq k1' k2' k3' hm
end Go.Proofs.Ytadpibcgjgcjhaa
