/- The walk of undercrofttop.TopMap. -/
import Derived.Test.YtadpibcgjgcjhaaPart10
import Derived.Test.YtadpibcgjgcjhaaPart11
namespace Go.Proofs.Ytadpibcgjgcjhaa
open Go.ChangeShapes Go.WideShapes Go.ChangeAt Go.RowKit
set_option maxRecDepth 100000
attribute [local go_sem ↓] Go.wp_at_zero Go.wp_at_succ
theorem info78 : (Try.prog.info? 78).map (·.size) = some 512 := by kernel_rfl
theorem zeroM (w : World) : (zeroValue 64).run Try.prog w = .ok (.agg #[.pointer none, .pointer none]) w := by kernel_rfl

set_option maxHeartbeats 4000000 in
theorem tm_walk (W : World) (n : Nat) (a : Option Addr) (len cap : Nat) (acts : Nat → Ac) (hn : 1 ≤ n) (hn2 : n ≤ 64) (hl : len ≤ 80) (hacts : ActsAt W a len acts) :
    Calls Try.prog 6 #[.int .i64 n, .slice a len cap] W fun e w' => e = .returned (.bool true) ∧ Upd (fun _ => False) W w' := by
  have HA : Hid _ := hacts
  clear hacts
  have z1 := zeroM
  have z2 := zero78
  go_enter Try.func6, Try.ntmps6
  go_wp2_with fail
  refine (new_any _ n hn hn2).mono ?_
  rintro e w1 ⟨rfl, hp, hu, hz⟩
  have HS0 : Hid _ := Sa.start hp hu hz
  clear hp hu
  go_wp2_with fail
  refine (light_yes _ _ _ _ hl).mono ?_
  rintro e w2 ⟨rfl, rfl⟩
  go_wp2_with fail
  revert HS0
  generalize w2.alloc (.cells #[.pointer none, .pointer none] 64) = w3
  intro HS0
  clear hz w2 z1
  go_loopg [8] 2 (fun g i w => (g = 2 ∧ i = .int .i64 0 ∧ Sa W w n) ∨
      (g = 1 ∧ i = .int .i64 1 ∧ ∃ bl : Nat, Sa W w n ∧ LvAt w bl (W.heap.size + 1) (mpk 16) ∧ w.cell? ⟨W.heap.size + 2, 0, none⟩ = some (.pointer (some ⟨bl, 0, none⟩)) ∧ W.heap.size + 3 ≤ bl) ∨
      (g = 0 ∧ i = .int .i64 2 ∧ ∃ bl0 bl1 : Nat, PoolAt w (W.heap.size + 1) W.heap.size (pl0 n) ∧ LvAt w bl0 (W.heap.size + 1) (mpk 16) ∧ LvAt w bl1 (W.heap.size + 1) (mpk 16) ∧ w.cell? ⟨W.heap.size + 2, 0, none⟩ = some (.pointer (some ⟨bl0, 0, none⟩)) ∧ w.cell? ⟨W.heap.size + 2, 1, none⟩ = some (.pointer (some ⟨bl1, 0, none⟩)) ∧ Upd (fun _ => False) W w ∧ W.heap.size + 2 < bl0 ∧ bl0 < bl1))
  case atStart => exact Or.inl ⟨rfl, rfl, HS0.out⟩
  case round =>
    clear HS0
    rcases hrel with ⟨rfl, rfl, h⟩ | ⟨rfl, rfl, bl, h, hl0, c0, g0⟩ | ⟨rfl, rfl, bl0, bl1, hp, hl0, hl1, c0, c1, hu, g0, g1⟩
    · go_wp2_with fail
      refine (lvNew _ _).mono ?_
      rintro e w5 ⟨bl, rfl, hl5, gl, hu5⟩
      obtain ⟨v0, a0⟩ := h.a0
      obtain ⟨v1, a1⟩ := h.a1
      have d0 := hu5.cell a0 (fun f => f)
      have d1 := hu5.cell a1 (fun f => f)
      have f0 := frozen_any hu5 (fun f => f) a0 h.fz
      have fz0 := f0 0
      have sz := h.sz
      have su := hu5.size
      have hp5 := h.pool.upd hu5 (fun f => f) (fun f => f) (by omega)
      have u6 := Upd.one w5 (W.heap.size + 2) 0 (.pointer (some ⟨bl, 0, none⟩))
      have hp6 := hp5.upd u6 (by omega) (by omega) (by omega)
      have hl6 := hl5.upd u6 (by omega)
      rw [← mpk_zero] at hl6
      have e0 := World.cell?_setCell_same _ _ (.pointer (some ⟨bl, 0, none⟩)) d0
      have e1 : (w5.setCell ⟨W.heap.size + 2, 0, none⟩ (.pointer (some ⟨bl, 0, none⟩))).cell? ⟨W.heap.size + 2, 1, none⟩ = some v1 := by
        rw [World.cell?_setCell_other _ _ _ _ (addr_ne (Or.inr (by omega)))]; exact d1
      have f6 : ∀ o, (w5.setCell ⟨W.heap.size + 2, 0, none⟩ (.pointer (some ⟨bl, 0, none⟩))).frozen? ⟨W.heap.size + 2, o, none⟩ = false := fun o => by rw [World.frozen?_setCell]; exact f0 o
      have hU6 := (h.upd.trans hu5 (fun _ _ f => f)).trans u6 (fun i hi e => by omega)
      have sz6 : W.heap.size + 3 ≤ (w5.setCell ⟨W.heap.size + 2, 0, none⟩ (.pointer (some ⟨bl, 0, none⟩))).heap.size := by have := u6.size; omega
      have HP6 : Hid _ := hp6
      have HL6 : Hid _ := hl6
      have E0 : Hid _ := e0
      have E1 : Hid _ := e1
      have F6 : Hid _ := f6
      have HU6 : Hid _ := hU6
      have SZ6 : Hid _ := sz6
      have GL : Hid (W.heap.size + 3 ≤ bl) := show _ ≤ _ by omega
      clear hp6 hl6 e0 e1 f6 hU6 sz6 u6 hp5 f0 a0 a1 h hl5 hu5 sz su gl d1
      go_wp2_with fail
      clear d0 fz0
      revert HP6 HL6 E0 E1 F6 HU6 SZ6
      generalize w5.setCell ⟨W.heap.size + 2, 0, none⟩ (.pointer (some ⟨bl, 0, none⟩)) = w6
      intro HP6 HL6 E0 E1 F6 HU6 SZ6
      go_loopg [11] 16 (fun g i wi => ∃ j : Nat, j + g = 16 ∧ i = .int .i64 j ∧ PoolAt wi (W.heap.size + 1) W.heap.size (pl0 n) ∧ LvAt wi bl (W.heap.size + 1) (mpk j) ∧ Upd (fun x => x = W.heap.size ∨ x = bl) w6 wi)
      case atStart => exact ⟨0, by omega, rfl, HP6.out, HL6.out, Upd.refl _ _⟩
      case round =>
        obtain ⟨j, hj, rfl, hpj, hlj, huj⟩ := hrel
        have HJ : Hid _ := hj
        clear HP6 HL6
        by_cases hlt : j < 16
        · clear hj
          have n1 : Hid (bl ≠ W.heap.size + 1) := show _ ≠ _ by have := GL.out; omega
          have n2 : Hid (bl ≠ W.heap.size) := show _ ≠ _ by have := GL.out; omega
          go_wp2_with fail
          refine (lvPlug_at _ _ _ _ n j 16 hlj hpj n1.out n2.out hn hlt).mono ?_
          rintro e w7 ⟨rfl, hp7, hl7, hu7⟩
          have hu8 := huj.trans hu7 (fun _ _ e => e)
          clear hu7 huj hpj hlj
          go_wp2_with fail
          go_roundg (16 - (j + 1))
          case rel => exact ⟨j + 1, by omega, by go_num, hp7, hl7, hu8⟩
          case measure => have := HJ.out; omega
        · have ej : j = 16 := by omega
          subst ej
          clear hj HJ
          have n3 : ¬ (W.heap.size + 2 = W.heap.size ∨ W.heap.size + 2 = bl) := by have := GL.out; omega
          have x0 := huj.cell E0.out n3
          have x1 := huj.cell E1.out n3
          have xf := frozen_any huj n3 E0.out F6.out
          have xu := HU6.out.trans huj (fun i hi e => by have := GL.out; omega)
          have xs : W.heap.size + 3 ≤ wr.heap.size := by have := SZ6.out; have := huj.size; omega
          have HR : Hid _ := show Sa W wr n from ⟨hpj, ⟨_, x0⟩, ⟨_, x1⟩, xf, xu, xs⟩
          have X0 : Hid _ := x0
          clear x0 x1 xf xu xs n3
          go_wp2_with fail
          go_roundg 1
          case rel => exact Or.inr (Or.inl ⟨rfl, rfl, bl, HR.out, hlj, X0.out, GL.out⟩)
          case measure => omega
    · go_wp2_with fail
      refine (lvNew _ _).mono ?_
      rintro e w5 ⟨bl1, rfl, hl5, gl, hu5⟩
      obtain ⟨v1, a1⟩ := h.a1
      have d0 := hu5.cell a1 (fun f => f)
      have d1 := hu5.cell c0 (fun f => f)
      have f0 := frozen_any hu5 (fun f => f) a1 h.fz
      have fz0 := f0 1
      have sz := h.sz
      have su := hu5.size
      have lb := hl0.lt
      have hp5 := h.pool.upd hu5 (fun f => f) (fun f => f) (by omega)
      have u6 := Upd.one w5 (W.heap.size + 2) 1 (.pointer (some ⟨bl1, 0, none⟩))
      have hp6 := hp5.upd u6 (by omega) (by omega) (by omega)
      have hl6 := hl5.upd u6 (by omega)
      have hb6 := (hl0.upd hu5 (fun f => f)).upd u6 (by omega)
      rw [← mpk_zero] at hl6
      have e1 := World.cell?_setCell_same _ _ (.pointer (some ⟨bl1, 0, none⟩)) d0
      have e0 : (w5.setCell ⟨W.heap.size + 2, 1, none⟩ (.pointer (some ⟨bl1, 0, none⟩))).cell? ⟨W.heap.size + 2, 0, none⟩ = some (.pointer (some ⟨bl, 0, none⟩)) := by
        rw [World.cell?_setCell_other _ _ _ _ (addr_ne (Or.inr (by omega)))]; exact d1
      have f6 : ∀ o, (w5.setCell ⟨W.heap.size + 2, 1, none⟩ (.pointer (some ⟨bl1, 0, none⟩))).frozen? ⟨W.heap.size + 2, o, none⟩ = false := fun o => by rw [World.frozen?_setCell]; exact f0 o
      have hU6 := (h.upd.trans hu5 (fun _ _ f => f)).trans u6 (fun i hi e => by omega)
      have sz6 : W.heap.size + 3 ≤ (w5.setCell ⟨W.heap.size + 2, 1, none⟩ (.pointer (some ⟨bl1, 0, none⟩))).heap.size := by have := u6.size; omega
      have HP6 : Hid _ := hp6
      have HL6 : Hid _ := hl6
      have E0 : Hid _ := e0
      have E1 : Hid _ := e1
      have F6 : Hid _ := f6
      have HU6 : Hid _ := hU6
      have SZ6 : Hid _ := sz6
      have HB6 : Hid _ := hb6
      have GL : Hid (W.heap.size + 3 ≤ bl1) := show _ ≤ _ by omega
      have GB : Hid (W.heap.size + 3 ≤ bl ∧ bl < bl1) := show _ ∧ _ by omega
      clear hp6 hl6 hb6 e0 e1 f6 hU6 sz6 u6 hp5 f0 a1 h hl5 hu5 sz su gl d1 c0 hl0 lb g0
      go_wp2_with fail
      clear d0 fz0
      revert HP6 HL6 E0 E1 F6 HU6 SZ6 HB6
      generalize w5.setCell ⟨W.heap.size + 2, 1, none⟩ (.pointer (some ⟨bl1, 0, none⟩)) = w6
      intro HP6 HL6 E0 E1 F6 HU6 SZ6 HB6
      go_loopg [11] 16 (fun g i wi => ∃ j : Nat, j + g = 16 ∧ i = .int .i64 j ∧ PoolAt wi (W.heap.size + 1) W.heap.size (pl0 n) ∧ LvAt wi bl1 (W.heap.size + 1) (mpk j) ∧ Upd (fun x => x = W.heap.size ∨ x = bl1) w6 wi)
      case atStart => exact ⟨0, by omega, rfl, HP6.out, HL6.out, Upd.refl _ _⟩
      case round =>
        obtain ⟨j, hj, rfl, hpj, hlj, huj⟩ := hrel
        have HJ : Hid _ := hj
        clear HP6 HL6
        by_cases hlt : j < 16
        · clear hj
          have n1 : Hid (bl1 ≠ W.heap.size + 1) := show _ ≠ _ by have := GL.out; omega
          have n2 : Hid (bl1 ≠ W.heap.size) := show _ ≠ _ by have := GL.out; omega
          go_wp2_with fail
          refine (lvPlug_at _ _ _ _ n j 16 hlj hpj n1.out n2.out hn hlt).mono ?_
          rintro e w7 ⟨rfl, hp7, hl7, hu7⟩
          have hu8 := huj.trans hu7 (fun _ _ e => e)
          clear hu7 huj hpj hlj
          go_wp2_with fail
          go_roundg (16 - (j + 1))
          case rel => exact ⟨j + 1, by omega, by go_num, hp7, hl7, hu8⟩
          case measure => have := HJ.out; omega
        · have ej : j = 16 := by omega
          subst ej
          clear hj HJ
          have n3 : ¬ (W.heap.size + 2 = W.heap.size ∨ W.heap.size + 2 = bl1) := by have := GL.out; omega
          have n4 : ¬ (bl = W.heap.size ∨ bl = bl1) := by have := GB.out; omega
          have X0 : Hid _ := huj.cell E0.out n3
          have X1 : Hid _ := huj.cell E1.out n3
          have XU : Hid _ := HU6.out.trans huj (fun i hi e => by have := GL.out; omega)
          have XL : Hid _ := HB6.out.upd huj n4
          clear n3 n4
          go_wp2_with fail
          go_roundg 0
          case rel => exact Or.inr (Or.inr ⟨rfl, rfl, bl, bl1, hpj, XL.out, hlj, X0.out, X1.out, XU.out, by have := GB.out; omega, GB.out.2⟩)
          case measure => omega
    · go_wp2_with fail
      have h0 := T2.start hn hp hl0 hl1 c0 c1 hu ⟨g0, g1⟩
      have H0 : Hid _ := h0
      clear h0 hp hl0 hl1 c0 c1 hu z2
      revert H0
      generalize wr.alloc (.cells zeroT 78) = w4
      generalize wr.heap.size = qb
      intro H0
      go_loopg [13] len (fun g i w => ∃ (k : Nat) (s : Pl) (ma mb : Mp) (t : Nat → Nat → Int), k + g = len ∧ i = .int .i64 k ∧ T2 W w bl0 bl1 qb n s ma mb t)
      case atStart => exact ⟨0, _, _, _, _, by omega, rfl, H0.out⟩
      case round =>
        obtain ⟨k, s, ma, mb, t, hk, rfl, hI⟩ := hrel
        have HK : Hid _ := hk
        clear H0
        by_cases hlt : k < len
        · obtain ⟨b, o, rfl, hx⟩ := HA.out k hlt
          clear HA hk
          generalize acts k = x at hx
          obtain ⟨x1, x2, x3, x4, x5, x6⟩ := hx.upd hI.upd (fun f => f)
          clear hx
          cases hon : x.on
          · rw [hon] at x6
            go_upto_block 6 with fail
            have hB := BoxAt.new wr x
            have hJ := hI.keep hn ((Upd.refl (fun _ => False) wr).alloc (.cells #[.string x.kind, .int .i64 x.n, .int .i64 x.a, .int .i64 x.b, .int .u8 x.v, .bool x.on] 38))
            rw [hon] at hB hJ
            have hq : bl0 < wr.heap.size ∧ bl1 < wr.heap.size ∧ qb < wr.heap.size ∧ W.heap.size + 2 < wr.heap.size := ⟨hI.two.lv0.lt, hI.two.lv1.lt, World.block_lt_of_cell? _ _ (hI.row 0 0 (by omega) (by omega)), World.block_lt_of_cell? _ _ hI.m0⟩
            clear x1 x2 x3 x4 x5 x6 hI
            revert hB hJ hq
            generalize wr.alloc (.cells #[.string x.kind, .int .i64 x.n, .int .i64 x.a, .int .i64 x.b, .int .u8 x.v, .bool false] 38) = W1
            generalize wr.heap.size = q
            intro hB hJ hq
            obtain ⟨y0, y1, y2, y3, y4, y5⟩ := hB
            refine sw0 hn hJ y2 y3 y4 hq (fun v4 v16 v17 v18 v19 v20 v21 v22 v89 v90 v91 v92 v93 v94 v95 v96 v97 v98 v99 v100 v101 v102 v103 v104 v105 v106 v107 v108 v109 v110 v111 v112 v113 v114 v115 v116 v117 v118 v119 v120 v121 v122 v123 v124 v125 v126 v127 v128 v129 v130 v131 v132 v133 v134 v135 v136 v137 v138 v139 v140 v141 v142 v143 v144 v145 v146 v147 v148 v149 v150 v151 v152 v153 v154 v155 v156 v157 v158 v159 v160 v161 v162 v163 v164 v165 v166 v167 v168 v169 v170 v171 v172 v173 v174 v175 v176 v177 v178 v179 v180 v181 v182 v183 v184 v185 v186 v187 v188 v189 v190 v191 v192 v193 v194 v195 v196 v197 v198 v199 v200 v201 v202 v203 v204 v205 v206 v207 v208 v209 v210 v211 v212 v213 v214 v215 wc hcut => ?_)
            obtain ⟨s', a', b', t', hT⟩ := hcut
            clear hJ y0 y1 y2 y3 y4 y5 hq
            have hs1 : 0 < s'.n := by rw [hT.sn]; exact hn
            have ka := hT.m0
            have kb := hT.m1
            have hr : wc.rangeAt qb 0 (tCells t') := by
              intro j v hv
              have hj : j < 512 := by have := (List.getElem?_eq_some_iff.1 hv).1; rw [tCells_length] at this; exact this
              have e := tCells_get t' (j / 16) (j % 16) (by omega) (by omega)
              rw [show j / 16 * 16 + j % 16 = j by omega, hv] at e
              have c := hT.row (j / 16) (j % 16) (by omega) (by omega)
              rw [show j / 16 * 16 + j % 16 = 0 + j by omega] at c
              rw [c]; exact e.symm
            have hlen := tCells_length t'
            have i1 : (Try.prog.info? 78).map (·.size) = some (tCells t').length := by rw [hlen]; exact info78
            go_wp2_with (refine wpList_load_mid (by rfl) 78 _ (by rfl) qb 0 (by rfl) (tCells t') _ hr Try.underlying78 (by rfl) i1 ?_)
            refine (held_any _ _ _ _ _ s' a' b' t' hT.two hs1).mono ?_
            rintro e w6 ⟨rfl, hu6⟩
            have H7 : Hid _ := hT.keep hn hu6
            clear hT hu6 hr i1 ka kb
            go_wp2_with fail
            go_roundg (len - (k + 1))
            case rel => exact ⟨k + 1, s', a', b', t', by omega, by go_num, H7.out⟩
            case measure => have := HK.out; omega
          · rw [hon] at x6
            go_upto_block 6 with fail
            have hB := BoxAt.new wr x
            have hJ := hI.keep hn ((Upd.refl (fun _ => False) wr).alloc (.cells #[.string x.kind, .int .i64 x.n, .int .i64 x.a, .int .i64 x.b, .int .u8 x.v, .bool x.on] 38))
            rw [hon] at hB hJ
            have hq : bl0 < wr.heap.size ∧ bl1 < wr.heap.size ∧ qb < wr.heap.size ∧ W.heap.size + 2 < wr.heap.size := ⟨hI.two.lv0.lt, hI.two.lv1.lt, World.block_lt_of_cell? _ _ (hI.row 0 0 (by omega) (by omega)), World.block_lt_of_cell? _ _ hI.m0⟩
            clear x1 x2 x3 x4 x5 x6 hI
            revert hB hJ hq
            generalize wr.alloc (.cells #[.string x.kind, .int .i64 x.n, .int .i64 x.a, .int .i64 x.b, .int .u8 x.v, .bool true] 38) = W1
            generalize wr.heap.size = q
            intro hB hJ hq
            obtain ⟨y0, y1, y2, y3, y4, y5⟩ := hB
            refine sw1 hn hJ y2 y3 y4 hq (fun v4 v16 v17 v18 v19 v20 v21 v22 v89 v90 v91 v92 v93 v94 v95 v96 v97 v98 v99 v100 v101 v102 v103 v104 v105 v106 v107 v108 v109 v110 v111 v112 v113 v114 v115 v116 v117 v118 v119 v120 v121 v122 v123 v124 v125 v126 v127 v128 v129 v130 v131 v132 v133 v134 v135 v136 v137 v138 v139 v140 v141 v142 v143 v144 v145 v146 v147 v148 v149 v150 v151 v152 v153 v154 v155 v156 v157 v158 v159 v160 v161 v162 v163 v164 v165 v166 v167 v168 v169 v170 v171 v172 v173 v174 v175 v176 v177 v178 v179 v180 v181 v182 v183 v184 v185 v186 v187 v188 v189 v190 v191 v192 v193 v194 v195 v196 v197 v198 v199 v200 v201 v202 v203 v204 v205 v206 v207 v208 v209 v210 v211 v212 v213 v214 v215 wc hcut => ?_)
            obtain ⟨s', a', b', t', hT⟩ := hcut
            clear hJ y0 y1 y2 y3 y4 y5 hq
            have hs1 : 0 < s'.n := by rw [hT.sn]; exact hn
            have ka := hT.m0
            have kb := hT.m1
            have hr : wc.rangeAt qb 0 (tCells t') := by
              intro j v hv
              have hj : j < 512 := by have := (List.getElem?_eq_some_iff.1 hv).1; rw [tCells_length] at this; exact this
              have e := tCells_get t' (j / 16) (j % 16) (by omega) (by omega)
              rw [show j / 16 * 16 + j % 16 = j by omega, hv] at e
              have c := hT.row (j / 16) (j % 16) (by omega) (by omega)
              rw [show j / 16 * 16 + j % 16 = 0 + j by omega] at c
              rw [c]; exact e.symm
            have hlen := tCells_length t'
            have i1 : (Try.prog.info? 78).map (·.size) = some (tCells t').length := by rw [hlen]; exact info78
            go_wp2_with (refine wpList_load_mid (by rfl) 78 _ (by rfl) qb 0 (by rfl) (tCells t') _ hr Try.underlying78 (by rfl) i1 ?_)
            refine (held_any _ _ _ _ _ s' a' b' t' hT.two hs1).mono ?_
            rintro e w6 ⟨rfl, hu6⟩
            have H7 : Hid _ := hT.keep hn hu6
            clear hT hu6 hr i1 ka kb
            go_wp2_with fail
            go_roundg (len - (k + 1))
            case rel => exact ⟨k + 1, s', a', b', t', by omega, by go_num, H7.out⟩
            case measure => have := HK.out; omega
        · clear hk
          go_wp2_with fail
          go_ret
          exact ⟨rfl, hI.upd⟩
end Go.Proofs.Ytadpibcgjgcjhaa
