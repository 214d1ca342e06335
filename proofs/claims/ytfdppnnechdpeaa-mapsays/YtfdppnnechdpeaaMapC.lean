/- The walk of undercroftlaw.MapSays. -/
import Derived.Test.YtfdppnnechdpeaaMapE
import Derived.Test.YtfdppnnechdpeaaActs
namespace Go.Proofs.Ytfdppnnechdpeaa
open Go.ChangeShapes Go.WideShapes Go.ChangeAt Go.RowKit
set_option maxRecDepth 100000
attribute [local go_sem ↓] Go.wp_at_zero Go.wp_at_succ

theorem zero64 (w : World) : (zeroValue 64).run Try.prog w = .ok (.agg #[.pointer none, .pointer none]) w := by kernel_rfl
theorem zero66 (w : World) : (zeroValue 66).run Try.prog w = .ok (.agg #[.pointer none, .pointer none]) w := by kernel_rfl
theorem same2 (w : World) : Calls Try.prog 10 #[errV 2, .int .i64 2] w fun e w' => e = .returned (.bool true) ∧ w' = w := sameE 2 w (by omega)

theorem mapped_at (w : World) (bp bf bm bl bx : Nat) (s : Pl) (m m' : Mp) (x : Ac) (v : Bool) (hon : x.on = v) (h : MI w bp bf bm bl bx s m) (hi : Inv s m m') (hn : 0 < s.n) (d : Apart bp bf bm bl bx) :
    Calls Try.prog 33 #[.pointer (some ⟨bl, 0, none⟩), .pointer (some ⟨bx, 0, none⟩), .pointer (some ⟨bp, 0, none⟩), .pointer (some ⟨bm, 0, none⟩), .agg #[.string x.kind, .int .i64 x.n, .int .i64 x.a, .int .i64 x.b, .int .u8 x.v, .bool v]] w
      fun e w' => e = .returned (.bool true) ∧ ∃ s2 m2, MI w' bp bf bm bl bx s2 m2 ∧ Inv s2 m2 m' ∧ s2.n = s.n ∧ Upd (Foot bf bm bl bx) w w' := by
  subst hon
  exact mapped_any w bp bf bm bl bx s m m' x h hi hn d

set_option maxHeartbeats 2000000 in
theorem map_walk (W : World) (n : Nat) (a : Option Addr) (len cap : Nat) (acts : Nat → Ac) (hn : 1 ≤ n) (hn2 : n ≤ 64) (hl : len ≤ 80) (hacts : ActsAt W a len acts) :
    Calls Try.prog 5 #[.int .i64 n, .slice a len cap] W fun e w' => e = .returned (.bool true) ∧ Upd (fun _ => False) W w' := by
  have HA : Hid _ := hacts
  clear hacts
  have z1 := zero36
  have z2 := refZero_ne
  have z3 := refZero_set
  have y1 := zero72
  have y2 := rmZero_ne
  have y3 := rmZero_set
  go_enter Try.func5, Try.ntmps5
  go_wp2_with fail
  refine (maps_any _).mono ?_
  rintro e w0 ⟨rfl, hu0⟩
  go_wp2_with fail
  refine (light_yes _ _ _ _ hl).mono ?_
  rintro e w1 ⟨rfl, rfl⟩
  go_wp2_with fail
  refine (lvNil _).mono ?_
  rintro e w2 ⟨rfl, hu2⟩
  go_wp2_with fail
  refine (same2 _).mono ?_
  rintro e w2 ⟨rfl, rfl⟩
  have hU2 := hu0.trans hu2 (fun _ _ f => f)
  go_wp2_with fail
  refine (new_any _ n hn hn2).mono ?_
  rintro e w3 ⟨rfl, hp, hu, hz⟩
  have hg : W.heap.size ≤ w2.heap.size := hU2.size
  have hS0 := Se.start hn2 hp (hU2.trans hu (fun _ _ f => f)) hz hg
  have HS0 : Hid _ := hS0
  clear hS0 hp hu hU2 hu0 hu2
  go_wp2_with fail
  revert HS0
  generalize ((w3.alloc (.cells (refZero n) 36)).alloc (.cells #[.pointer none, .pointer none] 64)).alloc (.cells #[.pointer none, .pointer none] 66) = w4
  clear hz
  generalize w2.heap.size = N
  intro HS0
  clear z1 z2 z3
  go_loopg [12] 2 (fun g i w => (g = 2 ∧ i = .int .i64 0 ∧ Se W w N n) ∨
      (g = 1 ∧ i = .int .i64 1 ∧ ∃ bl bx : Nat, Se W w N n ∧ LvAt w bl (N + 1) mp0 ∧ RMap w bx (N + 2) mp0 ∧ w.cell? ⟨N + 2 + 1, 0, none⟩ = some (.pointer (some ⟨bl, 0, none⟩)) ∧ w.cell? ⟨N + 2 + 1 + 1, 0, none⟩ = some (.pointer (some ⟨bx, 0, none⟩)) ∧ N + 5 ≤ bl ∧ bl < bx ∧ bx < w.heap.size) ∨
      (g = 0 ∧ i = .int .i64 2 ∧ ∃ bl0 bl1 bx0 bx1 : Nat, M2 W w (N + 1) N (N + 2) (N + 2 + 1) (N + 2 + 1 + 1) bl0 bl1 bx0 bx1 n (pl0 n) mp0 mp0))
  case atStart => exact Or.inl ⟨rfl, rfl, HS0.out⟩
  case round =>
    clear HS0
    rcases hrel with ⟨rfl, rfl, h⟩ | ⟨rfl, rfl, bl, bx, h, hl0, hx0, ca, cr, g1, g2, g3⟩ | ⟨rfl, rfl, bl0, bl1, bx0, bx1, h⟩
    · go_wp2_with fail
      refine (lvNew _ _).mono ?_
      rintro e w5 ⟨bl, rfl, hl5, gl, hu5⟩
      obtain ⟨v0, c0⟩ := h.a0
      obtain ⟨v1, c1⟩ := h.a1
      obtain ⟨v2, c2⟩ := h.r0
      obtain ⟨v3, c3⟩ := h.r1
      have d0 := hu5.cell c0 (fun f => f)
      have d1 := hu5.cell c1 (fun f => f)
      have d2 := hu5.cell c2 (fun f => f)
      have d3 := hu5.cell c3 (fun f => f)
      have f0 := frozen_blk hu5 (fun f => f) c0 h.fza
      have f2 := frozen_blk hu5 (fun f => f) c2 h.fzr
      have fa := f0 0
      have fr := f2 0
      have sz := h.sz
      have su := hu5.size
      have ll := hl5.lt
      have lt4 : N + 2 + 1 + 1 < w5.heap.size := by omega
      have e2 : (w5.setCell ⟨N + 2 + 1, 0, none⟩ (.pointer (some ⟨bl, 0, none⟩))).cell? ⟨N + 2 + 1 + 1, 0, none⟩ = some v2 := by
        rw [World.cell?_setCell_other _ _ _ _ (addr_ne (Or.inl (by omega)))]; exact d2
      have HH : Hid _ := h
      clear h c0 c1 c2 c3
      go_wp2_with fail
      go_roundg 1
      case rel => exact Or.inr (Or.inl ⟨rfl, rfl, bl, w5.heap.size, HH.out.laid' hu5, hl5.upd (laid_upd w5 N bl 0) (by omega), laid_rm w5 N bl 0, laid_a d0, laid_r d2, by omega, ll, (by rw [laid_size]; omega : w5.heap.size < (laid w5 N bl 0).heap.size)⟩)
      case measure => omega
    · go_wp2_with fail
      refine (lvNew _ _).mono ?_
      rintro e w5 ⟨bl1, rfl, hl5, gl, hu5⟩
      obtain ⟨v0, c0⟩ := h.a0
      obtain ⟨v1, c1⟩ := h.a1
      obtain ⟨v2, c2⟩ := h.r0
      obtain ⟨v3, c3⟩ := h.r1
      have d1 := hu5.cell c1 (fun f => f)
      have d3 := hu5.cell c3 (fun f => f)
      have f0 := frozen_blk hu5 (fun f => f) c0 h.fza
      have f2 := frozen_blk hu5 (fun f => f) c2 h.fzr
      have fa := f0 1
      have fr := f2 1
      have sz := h.sz
      have su := hu5.size
      have lt4 : N + 2 + 1 + 1 < w5.heap.size := by omega
      have e2 : (w5.setCell ⟨N + 2 + 1, 1, none⟩ (.pointer (some ⟨bl1, 0, none⟩))).cell? ⟨N + 2 + 1 + 1, 1, none⟩ = some v3 := by
        rw [World.cell?_setCell_other _ _ _ _ (addr_ne (Or.inl (by omega)))]; exact d3
      have hM := h.done hl0 hx0 ca cr g1 g2 g3 hu5 hl5 gl
      have HM : Hid _ := hM
      clear hM h c0 c1 c2 c3 hl0 hx0 ca cr
      go_wp2_with fail
      go_roundg 0
      case rel => exact Or.inr (Or.inr ⟨rfl, rfl, bl, bl1, bx, w5.heap.size, HM.out⟩)
      case measure => omega
    · clear y1 y2 y3
      go_wp2_with fail
      have HM0 : Hid _ := h
      clear h
      go_loopg [8, 15] len (fun g p i w => ∃ (k bp bf bl0 bl1 : Nat) (s : Pl) (m0 m1 : Mp), k + g = len ∧ i = .int .i64 k ∧ p = .pointer (some ⟨bp, 0, none⟩) ∧ M2 W w bp bf (N + 2) (N + 2 + 1) (N + 2 + 1 + 1) bl0 bl1 bx0 bx1 n s m0 m1)
      case atStart => exact ⟨0, _, _, _, _, _, _, _, by omega, rfl, rfl, HM0.out⟩
      case round =>
        obtain ⟨k, bp, bf, b0, b1, s, m0, m1, hk, rfl, rfl, hI⟩ := hrel
        have HK : Hid _ := hk
        clear hk HM0
        by_cases hlt : k < len
        · obtain ⟨b, o, rfl, hx⟩ := HA.out k hlt
          clear HA
          generalize acts k = x at hx
          have hx' := hx.upd hI.upd (fun f => f)
          obtain ⟨x1, x2, x3, x4, x5, x6⟩ := hx'
          clear hx
          by_cases kc : (x.kind.toList == [99, 111, 112, 121]) = true
          · cases hon : x.on
            · rw [hon] at x6
              have hJ := hI.keep hn ((Upd.refl _ _).alloc (.cells #[.string x.kind, .int .i64 x.n, .int .i64 x.a, .int .i64 x.b, .int .u8 x.v, .bool false] 38))
              have hn1 : 0 < s.n := by rw [hJ.sn]; exact hn
              have HJ : Hid _ := hJ
              clear hJ
              go_wp2_with fail
              refine (copy_any _ _ _ s HJ.out.pool hn1).mono ?_
              rintro e w5 ⟨cp, cf, rfl, hpc, gcp, gcf, lcp, lcf, hu5⟩
              clear x1 x2 x3 x4 x5 x6 hI
              revert HJ hu5 gcp gcf
              generalize wr.alloc (.cells #[.string x.kind, .int .i64 x.n, .int .i64 x.a, .int .i64 x.b, .int .u8 x.v, .bool false] 38) = W1
              intro HJ gcp gcf hu5
              have a0 := hu5.cell HJ.out.a0 (fun f => f)
              go_wp2_with fail
              refine (lvCopy _ _ _ _ m0 (HJ.out.lv0.upd hu5 (fun f => f))).mono ?_
              rintro e w6 ⟨c0, rfl, hc0, g0, hu6⟩
              have a1 := hu6.cell (hu5.cell HJ.out.a1 (fun f => f)) (fun f => f)
              clear a0
              go_wp2_with fail
              refine (lvCopy _ _ _ _ m1 ((HJ.out.lv1.upd hu5 (fun f => f)).upd hu6 (fun f => f))).mono ?_
              rintro e w7 ⟨c1, rfl, hc1, g1, hu7⟩
              clear a1
              have hu67 := hu6.trans hu7 (fun _ _ f => f)
              have hu57 := hu5.trans hu67 (fun _ _ f => f)
              have hp7 := hpc.upd hu67 (fun f => f) (fun f => f) lcf
              have l0 := hc0.lt
              have s5 := hu5.size
              have s6 := hu6.size
              have s7 := hu7.size
              have HG : Hid (W1.heap.size ≤ cp ∧ W1.heap.size ≤ cf ∧ W1.heap.size ≤ c0 ∧ W1.heap.size ≤ c1) := show _ ∧ _ by omega
              have HD : Hid (cp < c0 ∧ cf < c0 ∧ c0 < c1) := show _ ∧ _ by omega
              have HF : Hid (cf < w7.heap.size) := show _ < _ by omega
              have hc07 := hc0.upd hu7 (fun f => f)
              have HP7 : Hid _ := hp7
              clear hp7 l0 s5 s6 s7 gcp gcf lcp lcf g0 g1 hpc hc0 hu5 hu6 hu7 hu67
              have hM := HJ.out.keep hn hu57
              have dd := hM.dis
              unfold Dis at dd
              have e1 : b0 ≠ bp := by omega
              have e2 : b0 ≠ bf := by omega
              have e3 : b1 ≠ bp := by omega
              have e4 : b1 ≠ bf := by omega
              have e5 : ¬ (b1 = bf ∨ b1 = b0) := by omega
              have e6 : ¬ (N + 2 + 1 = bf ∨ N + 2 + 1 = b0) := by omega
              have e7 : ¬ (N + 2 + 1 = bf ∨ N + 2 + 1 = b1) := by omega
              clear dd
              have a0 := hM.a0
              go_wp2_with fail
              refine (lvUnplug _ _ _ _ _ m0 m1 s hM.lv0 hM.pool e1 e2 hn1 hM.inv).mono ?_
              rintro e w8 ⟨rfl, hp8, hl8, hu8⟩
              clear a0
              have a1 := hu8.cell hM.a1 e6
              have i8 := (hM.inv.unplug 0).swap
              have n8 : 0 < (unplugR s m0 0).2.1.n := by rw [unplug_n]; exact hn1
              have l8 := hM.lv1.upd hu8 e5
              go_wp2_with fail
              refine (lvTouch _ _ _ _ _ _ m1 _ _ l8 hp8 e3 e4 n8 i8).mono ?_
              rintro e w9 ⟨rfl, hp9, hl9, hu9⟩
              clear a1
              have hu89 : Upd (fun k => k = bf ∨ k = b0 ∨ k = b1) w7 w9 := (hu8.wide (fun _ e => by omega)).trans hu9 (fun _ _ e => by omega)
              have a0 := hu9.cell (hu8.cell hM.a0 e6) e7
              have a1' := hu9.cell (hu8.cell hM.a1 e6) e7
              have a1 : (w9.setCell ⟨N + 2 + 1, 0, none⟩ (.pointer (some ⟨c0, 0, none⟩))).cell? ⟨N + 2 + 1, 1, none⟩ = some (.pointer (some ⟨b1, 0, none⟩)) := by
                rw [World.cell?_setCell_other _ _ _ _ (addr_ne (Or.inr (by omega)))]; exact a1'
              have fz := frozen_blk hu9 e7 (hu8.cell hM.a0 e6) (frozen_blk hu8 e6 hM.a0 hM.fza)
              have fz0 := fz 0
              have fz1 := fz 1
              have hR := HJ.out.moved hn hu57 hu89 HP7.out hc07 hc1 HG.out HD.out HF.out
              have HR : Hid _ := hR
              clear hR fz hM e1 e2 e3 e4 e5 e6 e7 hu89 hp9 hl9 hu9 i8 n8 l8 hp8 hl8 hu8
              go_wp2_with fail
              go_roundg (len - (k + 1))
              case rel => exact ⟨k + 1, cp, cf, c0, c1, s, m0, m1, by omega, by go_num, rfl, HR.out⟩
              case measure => have := HK.out; omega
            · rw [hon] at x6
              have hJ := hI.keep hn ((Upd.refl _ _).alloc (.cells #[.string x.kind, .int .i64 x.n, .int .i64 x.a, .int .i64 x.b, .int .u8 x.v, .bool true] 38))
              have hn1 : 0 < s.n := by rw [hJ.sn]; exact hn
              have HJ : Hid _ := hJ
              clear hJ
              go_wp2_with fail
              refine (copy_any _ _ _ s HJ.out.pool hn1).mono ?_
              rintro e w5 ⟨cp, cf, rfl, hpc, gcp, gcf, lcp, lcf, hu5⟩
              clear x1 x2 x3 x4 x5 x6 hI
              revert HJ hu5 gcp gcf
              generalize wr.alloc (.cells #[.string x.kind, .int .i64 x.n, .int .i64 x.a, .int .i64 x.b, .int .u8 x.v, .bool true] 38) = W1
              intro HJ gcp gcf hu5
              have a0 := hu5.cell HJ.out.a0 (fun f => f)
              go_wp2_with fail
              refine (lvCopy _ _ _ _ m0 (HJ.out.lv0.upd hu5 (fun f => f))).mono ?_
              rintro e w6 ⟨c0, rfl, hc0, g0, hu6⟩
              have a1 := hu6.cell (hu5.cell HJ.out.a1 (fun f => f)) (fun f => f)
              clear a0
              go_wp2_with fail
              refine (lvCopy _ _ _ _ m1 ((HJ.out.lv1.upd hu5 (fun f => f)).upd hu6 (fun f => f))).mono ?_
              rintro e w7 ⟨c1, rfl, hc1, g1, hu7⟩
              clear a1
              have hu67 := hu6.trans hu7 (fun _ _ f => f)
              have hu57 := hu5.trans hu67 (fun _ _ f => f)
              have hp7 := hpc.upd hu67 (fun f => f) (fun f => f) lcf
              have l0 := hc0.lt
              have s5 := hu5.size
              have s6 := hu6.size
              have s7 := hu7.size
              have HG : Hid (W1.heap.size ≤ cp ∧ W1.heap.size ≤ cf ∧ W1.heap.size ≤ c0 ∧ W1.heap.size ≤ c1) := show _ ∧ _ by omega
              have HD : Hid (cp < c0 ∧ cf < c0 ∧ c0 < c1) := show _ ∧ _ by omega
              have HF : Hid (cf < w7.heap.size) := show _ < _ by omega
              have hc07 := hc0.upd hu7 (fun f => f)
              have HP7 : Hid _ := hp7
              clear hp7 l0 s5 s6 s7 gcp gcf lcp lcf g0 g1 hpc hc0 hu5 hu6 hu7 hu67
              have hM := HJ.out.keep hn hu57
              have dd := hM.dis
              unfold Dis at dd
              have e1 : b0 ≠ bp := by omega
              have e2 : b0 ≠ bf := by omega
              have e3 : b1 ≠ bp := by omega
              have e4 : b1 ≠ bf := by omega
              have e5 : ¬ (b1 = bf ∨ b1 = b0) := by omega
              have e6 : ¬ (N + 2 + 1 = bf ∨ N + 2 + 1 = b0) := by omega
              have e7 : ¬ (N + 2 + 1 = bf ∨ N + 2 + 1 = b1) := by omega
              clear dd
              have a0 := hM.a0
              go_wp2_with fail
              refine (lvUnplug _ _ _ _ _ m0 m1 s hM.lv0 hM.pool e1 e2 hn1 hM.inv).mono ?_
              rintro e w8 ⟨rfl, hp8, hl8, hu8⟩
              clear a0
              have a1 := hu8.cell hM.a1 e6
              have i8 := (hM.inv.unplug 0).swap
              have n8 : 0 < (unplugR s m0 0).2.1.n := by rw [unplug_n]; exact hn1
              have l8 := hM.lv1.upd hu8 e5
              go_wp2_with fail
              refine (lvTouch _ _ _ _ _ _ m1 _ _ l8 hp8 e3 e4 n8 i8).mono ?_
              rintro e w9 ⟨rfl, hp9, hl9, hu9⟩
              clear a1
              have hu89 : Upd (fun k => k = bf ∨ k = b0 ∨ k = b1) w7 w9 := (hu8.wide (fun _ e => by omega)).trans hu9 (fun _ _ e => by omega)
              have a0 := hu9.cell (hu8.cell hM.a0 e6) e7
              have a1' := hu9.cell (hu8.cell hM.a1 e6) e7
              have a1 : (w9.setCell ⟨N + 2 + 1, 0, none⟩ (.pointer (some ⟨c0, 0, none⟩))).cell? ⟨N + 2 + 1, 1, none⟩ = some (.pointer (some ⟨b1, 0, none⟩)) := by
                rw [World.cell?_setCell_other _ _ _ _ (addr_ne (Or.inr (by omega)))]; exact a1'
              have fz := frozen_blk hu9 e7 (hu8.cell hM.a0 e6) (frozen_blk hu8 e6 hM.a0 hM.fza)
              have fz0 := fz 0
              have fz1 := fz 1
              have hR := HJ.out.moved hn hu57 hu89 HP7.out hc07 hc1 HG.out HD.out HF.out
              have HR : Hid _ := hR
              clear hR fz hM e1 e2 e3 e4 e5 e6 e7 hu89 hp9 hl9 hu9 i8 n8 l8 hp8 hl8 hu8
              go_wp2_with fail
              go_roundg (len - (k + 1))
              case rel => exact ⟨k + 1, cp, cf, c0, c1, s, m0, m1, by omega, by go_num, rfl, HR.out⟩
              case measure => have := HK.out; omega
          · have kc' : (x.kind.toList == [99, 111, 112, 121]) = false := by simpa using kc
            clear kc
            cases hon : x.on
            · rw [hon] at x6
              have hn1 : 0 < s.n := by rw [hI.sn]; exact hn
              go_wp2_with fail
              have hB := BoxAt.new wr x
              have hJ := hI.keep hn ((Upd.refl _ _).alloc (.cells #[.string x.kind, .int .i64 x.n, .int .i64 x.a, .int .i64 x.b, .int .u8 x.v, .bool x.on] 38))
              rw [hon] at hB hJ
              have ql := hI.lts hn
              clear x1 x2 x3 x4 x5 x6 hI
              revert hB hJ ql
              generalize wr.alloc (.cells #[.string x.kind, .int .i64 x.n, .int .i64 x.a, .int .i64 x.b, .int .u8 x.v, .bool false] 38) = W1
              generalize wr.heap.size = q
              intro hB hJ ql
              obtain ⟨k0, k1, k2, k3, k4, k5⟩ := hB
              rw [hon] at k5
              have ka := hJ.a0
              have kr := hJ.r0
              have HJ : Hid _ := hJ
              have hJd := hJ.keep hn (Upd.refl _ _).drew
              have HJd : Hid _ := hJd
              have dd := hJ.dis
              unfold Dis at dd
              have NA : Hid (¬ Foot bf (N + 2) b0 bx0 (N + 2 + 1)) := show ¬ _ by unfold Foot; omega
              have NR : Hid (¬ Foot bf (N + 2) b0 bx0 (N + 2 + 1 + 1)) := show ¬ _ by unfold Foot; omega
              have NQ : Hid (¬ Foot bf (N + 2) b0 bx0 q) := show ¬ _ by unfold Foot; omega
              clear dd hJ hJd ql
              go_region_held3 (fun w' => (w'.cell? ⟨N + 2 + 1, 0, none⟩ = some (.pointer (some ⟨b0, 0, none⟩)) ∧ w'.cell? ⟨N + 2 + 1 + 1, 0, none⟩ = some (.pointer (some ⟨bx0, 0, none⟩))) ∧ w'.cell? ⟨q, 0, none⟩ = some (.string x.kind) ∧ w'.cell? ⟨q, 1, none⟩ = some (.int .i64 x.n) ∧ w'.cell? ⟨q, 2, none⟩ = some (.int .i64 x.a) ∧ w'.cell? ⟨q, 3, none⟩ = some (.int .i64 x.b) ∧ w'.cell? ⟨q, 4, none⟩ = some (.int .u8 x.v) ∧ w'.cell? ⟨q, 5, none⟩ = some (.bool false)) (first | exact ⟨⟨ka, kr⟩, k0, k1, k2, k3, k4, k5⟩ | exact h5c)
                (first
                  | (go_at_call 33; refine (mapped_at _ bp bf (N + 2) b0 bx0 s m0 m1 x false hon (by first | exact ⟨HJ.out.pool, HJ.out.ref, HJ.out.lv0, HJ.out.rm0⟩ | exact ⟨HJd.out.pool, HJd.out.ref, HJd.out.lv0, HJd.out.rm0⟩) HJ.out.inv hn1 HJ.out.apart0).mono ?_; rintro e w5 ⟨rfl, s2, m2, hI5, i5, n5, hu5⟩; have h5c : (w5.cell? ⟨N + 2 + 1, 0, none⟩ = some (.pointer (some ⟨b0, 0, none⟩)) ∧ w5.cell? ⟨N + 2 + 1 + 1, 0, none⟩ = some (.pointer (some ⟨bx0, 0, none⟩))) ∧ w5.cell? ⟨q, 0, none⟩ = some (.string x.kind) ∧ w5.cell? ⟨q, 1, none⟩ = some (.int .i64 x.n) ∧ w5.cell? ⟨q, 2, none⟩ = some (.int .i64 x.a) ∧ w5.cell? ⟨q, 3, none⟩ = some (.int .i64 x.b) ∧ w5.cell? ⟨q, 4, none⟩ = some (.int .u8 x.v) ∧ w5.cell? ⟨q, 5, none⟩ = some (.bool false) := ⟨⟨hu5.cell (by exact ka) NA.out, hu5.cell (by exact kr) NR.out⟩, hu5.cell (by exact k0) NQ.out, hu5.cell (by exact k1) NQ.out, hu5.cell (by exact k2) NQ.out, hu5.cell (by exact k3) NQ.out, hu5.cell (by exact k4) NQ.out, hu5.cell (by exact k5) NQ.out⟩))
              go_wp2_with fail
              go_roundg (len - (k + 1))
              case rel => exact ⟨k + 1, bp, bf, b0, b1, s2, m2, m1, by omega, by go_num, rfl, HJd.out.act0 hI5 i5 n5 hu5⟩
              case measure => have := HK.out; omega
            · rw [hon] at x6
              have hn1 : 0 < s.n := by rw [hI.sn]; exact hn
              go_wp2_with fail
              have hB := BoxAt.new wr x
              have hJ := hI.keep hn ((Upd.refl _ _).alloc (.cells #[.string x.kind, .int .i64 x.n, .int .i64 x.a, .int .i64 x.b, .int .u8 x.v, .bool x.on] 38))
              rw [hon] at hB hJ
              have ql := hI.lts hn
              clear x1 x2 x3 x4 x5 x6 hI
              revert hB hJ ql
              generalize wr.alloc (.cells #[.string x.kind, .int .i64 x.n, .int .i64 x.a, .int .i64 x.b, .int .u8 x.v, .bool true] 38) = W1
              generalize wr.heap.size = q
              intro hB hJ ql
              obtain ⟨k0, k1, k2, k3, k4, k5⟩ := hB
              rw [hon] at k5
              have ka := hJ.a1
              have kr := hJ.r1
              have HJ : Hid _ := hJ
              have hJd := hJ.keep hn (Upd.refl _ _).drew
              have HJd : Hid _ := hJd
              have dd := hJ.dis
              unfold Dis at dd
              have NA : Hid (¬ Foot bf (N + 2) b1 bx1 (N + 2 + 1)) := show ¬ _ by unfold Foot; omega
              have NR : Hid (¬ Foot bf (N + 2) b1 bx1 (N + 2 + 1 + 1)) := show ¬ _ by unfold Foot; omega
              have NQ : Hid (¬ Foot bf (N + 2) b1 bx1 q) := show ¬ _ by unfold Foot; omega
              clear dd hJ hJd ql
              go_region_held3 (fun w' => (w'.cell? ⟨N + 2 + 1, 1, none⟩ = some (.pointer (some ⟨b1, 0, none⟩)) ∧ w'.cell? ⟨N + 2 + 1 + 1, 1, none⟩ = some (.pointer (some ⟨bx1, 0, none⟩))) ∧ w'.cell? ⟨q, 0, none⟩ = some (.string x.kind) ∧ w'.cell? ⟨q, 1, none⟩ = some (.int .i64 x.n) ∧ w'.cell? ⟨q, 2, none⟩ = some (.int .i64 x.a) ∧ w'.cell? ⟨q, 3, none⟩ = some (.int .i64 x.b) ∧ w'.cell? ⟨q, 4, none⟩ = some (.int .u8 x.v) ∧ w'.cell? ⟨q, 5, none⟩ = some (.bool true)) (first | exact ⟨⟨ka, kr⟩, k0, k1, k2, k3, k4, k5⟩ | exact h5c)
                (first
                  | (go_at_call 33; refine (mapped_at _ bp bf (N + 2) b1 bx1 s m1 m0 x true hon (by first | exact ⟨HJ.out.pool, HJ.out.ref, HJ.out.lv1, HJ.out.rm1⟩ | exact ⟨HJd.out.pool, HJd.out.ref, HJd.out.lv1, HJd.out.rm1⟩) HJ.out.inv.swap hn1 HJ.out.apart1).mono ?_; rintro e w5 ⟨rfl, s2, m2, hI5, i5, n5, hu5⟩; have h5c : (w5.cell? ⟨N + 2 + 1, 1, none⟩ = some (.pointer (some ⟨b1, 0, none⟩)) ∧ w5.cell? ⟨N + 2 + 1 + 1, 1, none⟩ = some (.pointer (some ⟨bx1, 0, none⟩))) ∧ w5.cell? ⟨q, 0, none⟩ = some (.string x.kind) ∧ w5.cell? ⟨q, 1, none⟩ = some (.int .i64 x.n) ∧ w5.cell? ⟨q, 2, none⟩ = some (.int .i64 x.a) ∧ w5.cell? ⟨q, 3, none⟩ = some (.int .i64 x.b) ∧ w5.cell? ⟨q, 4, none⟩ = some (.int .u8 x.v) ∧ w5.cell? ⟨q, 5, none⟩ = some (.bool true) := ⟨⟨hu5.cell (by exact ka) NA.out, hu5.cell (by exact kr) NR.out⟩, hu5.cell (by exact k0) NQ.out, hu5.cell (by exact k1) NQ.out, hu5.cell (by exact k2) NQ.out, hu5.cell (by exact k3) NQ.out, hu5.cell (by exact k4) NQ.out, hu5.cell (by exact k5) NQ.out⟩))
              go_wp2_with fail
              go_roundg (len - (k + 1))
              case rel => exact ⟨k + 1, bp, bf, b0, b1, s2, m0, m2, by omega, by go_num, rfl, HJd.out.act1 hI5 i5 n5 hu5⟩
              case measure => have := HK.out; omega
        · have a0 := hI.a0
          have a1 := hI.a1
          have r0 := hI.r0
          have r1 := hI.r1
          have hn1 : 0 < s.n := by rw [hI.sn]; exact hn
          go_wp2_with fail
          refine (asMap_any _ _ _ _ _ m0 hI.lv0 hI.rm0).mono ?_
          rintro e w5 ⟨rfl, hu5⟩
          have h5 := hI.keep hn hu5
          clear a0 a1 r0 r1
          have a1 := h5.a1
          have r1 := h5.r1
          go_wp2_with fail
          refine (asMap_any _ _ _ _ _ m1 h5.lv1 h5.rm1).mono ?_
          rintro e w6 ⟨rfl, hu6⟩
          have h6 := h5.keep hn hu6
          go_wp2_with fail
          refine (asPool_any _ _ _ _ s h6.pool h6.ref hn1).mono ?_
          rintro e w7 ⟨rfl, hu7⟩
          go_wp2_with fail
          go_ret
          exact ⟨rfl, h6.upd.trans hu7 (fun _ _ f => f)⟩
end Go.Proofs.Ytfdppnnechdpeaa
