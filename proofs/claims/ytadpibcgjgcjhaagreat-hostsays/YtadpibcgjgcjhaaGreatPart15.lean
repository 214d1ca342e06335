/- The document's host: Scan. -/
import Derived.Test.YtadpibcgjgcjhaaGreatPart14
import Derived.Test.YtadpibcgjgcjhaaGreatPart08
namespace Go.Proofs.YtadpibcgjgcjhaaGreat
open Go.ChangeShapes Go.WideShapes Go.ChangeAt Go.RowKit
set_option maxRecDepth 100000
attribute [local go_sem ↓] Go.wp_at_zero Go.wp_at_succ
variable {w w' : World} {bh bm base : Nat} {bx : Nat → Nat} {v : Nat → Value} {h : Hs} {x : Gs} {s' : Pl} {x' : Gs} {W : Int}

theorem on_yes (w : World) {p : Nat} (hp : p < 16) : Calls Tryz.prog 101 #[.int .i64 (p : Int)] w fun e w' => e = .returned (.bool true) ∧ w' = w := by
  have := on_any w (p : Int)
  rw [(onB_iff _).2 ⟨by omega, by omega⟩] at this
  exact this
set_option maxHeartbeats 1000000 in
theorem sScan_gone {k p : Nat} (r : RHo w bh bm base bx v h) (hk : k < 4) (hx : h.g k = some x) (hp : p < 16) (ht : (x.m.lf p).there = false) : Calls Tryz.prog 92 #[.pointer (some ⟨bh, 0, none⟩), .int .i64 (k : Int), .int .i64 (p : Int)] w (SPost w bh bm base bx h ((false, 0), h)) := by
  have HR : Hid (RHo w bh bm base bx v h) := r
  have HW : Hid _ := who_at r hk hx
  have HON : Hid _ := fun w1 => on_yes w1 hp
  have p0 : (0 : Int) ≤ (p : Int) := by omega
  have p1 : (p : Int) < 16 := by omega
  have HX : Hid (h.g k = some x) := hx
  have HT : Hid _ := ht
  clear r hx ht
  go_enter Tryz.func92, Tryz.ntmps92
  go_wp2_with fail
  refine Calls.mono HW.out ?_
  rintro e w1 ⟨rfl, m, hw1⟩
  have hu1 : Upd (fun _ => False) w w1 := by rw [hw1]; exact (Upd.refl _ w).drewN m
  have HU1 : Hid _ := hu1
  have HR1 : Hid (RHo w1 bh bm base bx v h) := HR.out.same hu1
  have c0 := (HR1.out.gu k x HX.out).mp.th p hp
  have c1 := (HR1.out.gu k x HX.out).mp.wr p hp
  have c2 := (HR1.out.gu k x HX.out).mp.fr p hp
  simp only [HT.out] at c0
  obtain ⟨y0, y1, y2, z0, z1, z2⟩ := box0 w1 43
  clear hw1 hu1
  go_wp2_with (go_at_call 101; refine Calls.mono (HON.out _) ?_; rintro e w2 ⟨rfl, hw2⟩; subst hw2)
  go_ret2
  exact ⟨rfl, ⟨v, HR1.out.same ((Upd.refl _ _).alloc _)⟩, (HU1.out.alloc _).wide (fun _ f => f.elim)⟩

theorem hHit_at {fr : Int} {j : Nat} {y : Gs} (hy : h.g (j / 16) = some y) : hHit h fr j = ((y.m.lf (j % 16)).there && h.s.same (y.m.lf (j % 16)).fr fr) := by
  unfold hHit
  rw [row_some hy]
set_option maxHeartbeats 4000000 in
theorem sScan_there {k p : Nat} (r : RHo w bh bm base bx v h) (hi : HInv h W) (hW : W ≤ 1000000) (hk : k < 4) (hx : h.g k = some x) (hp : p < 16) (ht : (x.m.lf p).there = true) : Calls Tryz.prog 92 #[.pointer (some ⟨bh, 0, none⟩), .int .i64 (k : Int), .int .i64 (p : Int)] w (SPost w bh bm base bx h (hScan h k p)) := by
  have HR : Hid (RHo w bh bm base bx v h) := r
  have HI : Hid (HInv h W) := hi
  have HW : Hid _ := who_at r hk hx
  have HON : Hid _ := fun w1 => on_yes w1 hp
  have p0 : (0 : Int) ≤ (p : Int) := by omega
  have p1 : (p : Int) < 16 := by omega
  have HX : Hid (h.g k = some x) := hx
  have HT : Hid _ := ht
  have HSC : Hid (_ ∧ _) := ⟨hScan_no hx hk hp ht, hScan_hit hx hk hp ht⟩
  clear r hx ht hi
  go_enter Tryz.func92, Tryz.ntmps92
  go_wp2_with fail
  refine Calls.mono HW.out ?_
  rintro e w1 ⟨rfl, m, hw1⟩
  have hu1 : Upd (fun _ => False) w w1 := by rw [hw1]; exact (Upd.refl _ w).drewN m
  have HU1 : Hid _ := hu1
  have HR1 : Hid (RHo w1 bh bm base bx v h) := HR.out.same hu1
  have c0 := (HR1.out.gu k x HX.out).mp.th p hp
  have c1 := (HR1.out.gu k x HX.out).mp.wr p hp
  have c2 := (HR1.out.gu k x HX.out).mp.fr p hp
  simp only [HT.out] at c0
  obtain ⟨y0, y1, y2, z0, z1, z2⟩ := box0 w1 43
  have HL : Hid (LfAt (w1.alloc (.cells #[.bool true, .bool (x.m.lf p).wr, .int .i64 (x.m.lf p).fr] 43)) w1.heap.size ⟨true, (x.m.lf p).wr, (x.m.lf p).fr⟩) := LfAt.new w1 43 ⟨true, (x.m.lf p).wr, (x.m.lf p).fr⟩
  have HU2 : Hid (Upd (fun _ => False) w (w1.alloc (.cells #[.bool true, .bool (x.m.lf p).wr, .int .i64 (x.m.lf p).fr] 43))) := HU1.out.alloc _
  have hz : w1.heap.size < (w1.alloc (.cells #[.bool true, .bool (x.m.lf p).wr, .int .i64 (x.m.lf p).fr] 43)).heap.size := by simp
  have hzw := HU1.out.size
  clear hw1 hu1
  go_wp2_with (go_at_call 101; refine Calls.mono (HON.out _) ?_; rintro e w2 ⟨rfl, hw2⟩; subst hw2)
  clear y0 y1 y2 z0 z1 z2 c0 c1 c2 HR1 HU1 HW
  revert HL HU2 hz hzw
  generalize w2.alloc (.cells #[.bool true, .bool (x.m.lf p).wr, .int .i64 (x.m.lf p).fr] 43) = wl
  generalize w2.heap.size = ql
  intro HL HU2 hz hzw
  have wm : IntKind.i64.wrap (16 * (k : Int)) = 16 * (k : Int) := by rw [IntKind.wrap_i64]; omega
  have wa : IntKind.i64.wrap (16 * (k : Int) + (p : Int)) = 16 * (k : Int) + (p : Int) := by rw [IntKind.wrap_i64]; omega
  go_loopg [12] (16 * k + p) (fun g i wr => ∃ j : Nat, j + g = 16 * k + p ∧ i = .int .i64 j ∧ Hid (∀ i, i < j → hHit h (x.m.lf p).fr i = false) ∧ Hid (Upd (fun _ => False) w wr) ∧ Hid (LfAt wr ql ⟨true, (x.m.lf p).wr, (x.m.lf p).fr⟩))
  case atStart => exact ⟨0, by omega, rfl, fun i hi => absurd hi (by omega), HU2.out, HL.out⟩
  case round =>
    obtain ⟨j, hj, rfl, HN, HU, HLj⟩ := hrel
    have HJ : Hid _ := hj
    clear hj
    by_cases hlt : j < 16 * k + p
    · have d : decide ((j : Int) < 16 * (k : Int) + (p : Int)) = true := by simp; omega
      have wd : IntKind.i64.wrap ((j : Int) / 16) = (j : Int) / 16 := by rw [IntKind.wrap_i64]; omega
      have j0 : (0 : Int) ≤ (j : Int) / 16 := by omega
      have j1 : (j : Int) / 16 < 4 := by omega
      have HRj : Hid (RHo wr bh bm base bx v h) := HR.out.same HU.out
      have hj4 : j / 16 < 4 := by omega
      cases hy : h.g (j / 16) with
      | none =>
        have c := HRj.out.cNone hj4 hy
        have HN1 : Hid _ := @hHit_none h (x.m.lf p).fr j hy
        clear hy HRj
        go_wp2_with fail
        go_roundg (16 * k + p - (j + 1))
        case rel =>
          refine ⟨j + 1, by omega, by go_num, fun i hi => ?_, HU.out, HLj.out⟩
          by_cases e : i = j
          · subst e; exact HN1.out
          · exact HN.out i (by omega)
        case measure => have := HJ.out; omega
      | some y =>
        have c := HRj.out.cSome hj4 hy
        have i0 : (0 : Int) ≤ (j : Int) % 16 := by omega
        have i1 : (j : Int) % 16 < 16 := by omega
        have hj16 : j % 16 < 16 := by omega
        have b0 := (HRj.out.gu _ y hy).mp.th (j % 16) hj16
        have b1 := (HRj.out.gu _ y hy).mp.wr (j % 16) hj16
        have b2 := (HRj.out.gu _ y hy).mp.fr (j % 16) hj16
        have HHT : Hid _ := @hHit_at h (x.m.lf p).fr j y hy
        have HY : Hid _ := hy
        obtain ⟨y0, y1, y2, z0, z1, z2⟩ := box0 wr 43
        clear hy
        simp only at b0 b1 b2
        have hwj := HU.out.size
        revert HHT b0 b1 b2
        generalize hyl : y.m.lf (j % 16) = yl
        have HYL : Hid _ := hyl
        clear hyl
        intro b0 b1 b2 HHT
        obtain ⟨yt, yw, yf⟩ := yl
        cases yt with
        | false =>
          go_wp2_with fail
          go_roundg (16 * k + p - (j + 1))
          case rel =>
            refine ⟨j + 1, by omega, by go_num, fun i hi => ?_, HU.out.alloc _, HLj.out.upd ((Upd.refl (fun _ => False) _).alloc _) (fun f => f)⟩
            by_cases e : i = j
            · subst e; exact HHT.out
            · exact HN.out i (by omega)
          case measure => have := HJ.out; omega
        | true =>
          have HXL : Hid (LfAt (wr.alloc (.cells #[.bool true, .bool yw, .int .i64 yf] 43)) wr.heap.size ⟨true, yw, yf⟩) := LfAt.new wr 43 ⟨true, yw, yf⟩
          have HUx : Hid (Upd (fun _ => False) w (wr.alloc (.cells #[.bool true, .bool yw, .int .i64 yf] 43))) := HU.out.alloc _
          have HLx : Hid (LfAt (wr.alloc (.cells #[.bool true, .bool yw, .int .i64 yf] 43)) ql ⟨true, (x.m.lf p).wr, (x.m.lf p).fr⟩) := HLj.out.upd ((Upd.refl (fun _ => False) _).alloc _) (fun f => f)
          have hzx : wr.heap.size < (wr.alloc (.cells #[.bool true, .bool yw, .int .i64 yf] 43)).heap.size := by simp
          go_wp2_with fail
          clear y0 y1 y2 z0 z1 z2 b0 b1 b2 c HRj HU HLj
          revert HXL HUx HLx hzx hwj
          generalize wr.alloc (.cells #[.bool true, .bool yw, .int .i64 yf] 43) = wx
          generalize wr.heap.size = qx
          intro hwj HXL HUx HLx hzx
          have HRx : Hid (RHo wx bh bm base bx v h) := HR.out.same HUx.out
          have HS : Hid _ := rSame_any wx.drew bm yf (x.m.lf p).fr h.s HRx.out.drew.ref
          have e0 := HRx.out.c0
          have e1 := HXL.out.c2
          have e2 := HLx.out.c2
          simp only at e1 e2
          revert HHT HS
          generalize hsm : h.s.same yf (x.m.lf p).fr = sm
          have HSM : Hid _ := hsm
          clear hsm
          intro HHT HS
          go_region_held3 (fun w' => w'.cell? ⟨bh, 0, none⟩ = some (.pointer (some ⟨bm, 0, none⟩)) ∧ w'.cell? ⟨qx, 2, none⟩ = some (.int .i64 yf) ∧ w'.cell? ⟨ql, 2, none⟩ = some (.int .i64 (x.m.lf p).fr)) (first | exact ⟨e0, e1, e2⟩ | exact h4c)
            (first | (go_at_call 134; refine Calls.mono HS.out ?_; rintro e w4 ⟨rfl, m4, rfl⟩; have h4c : (wx.drew.drewN m4).cell? ⟨bh, 0, none⟩ = some (.pointer (some ⟨bm, 0, none⟩)) ∧ (wx.drew.drewN m4).cell? ⟨qx, 2, none⟩ = some (.int .i64 yf) ∧ (wx.drew.drewN m4).cell? ⟨ql, 2, none⟩ = some (.int .i64 (x.m.lf p).fr) := ⟨e0, e1, e2⟩))
          have u4 : Upd (fun _ => False) wx (wx.drewN (1 + m4)) := (Upd.refl (fun _ => False) wx).drewN _
          clear h4c
          cases sm with
          | false =>
            go_wp2_with fail
            go_roundg (16 * k + p - (j + 1))
            case rel =>
              refine ⟨j + 1, by omega, by go_num, fun i hi => ?_, HUx.out.trans u4 (fun _ _ f => f), HLx.out.upd u4 (fun f => f)⟩
              by_cases e : i = j
              · subst e; exact HHT.out
              · exact HN.out i (by omega)
            case measure => have := HJ.out; omega
          | true =>
            have HHF : Hid _ := hFst_at hlt HN.out HHT.out
            by_cases hfe : yf = (x.m.lf p).fr
            · have de : (yf == (x.m.lf p).fr) = true := by simp [hfe]
              go_wp2_with fail
              go_ret2
              rw [HSC.out.2 j HHF.out, row_some HY.out, HYL.out, if_pos hfe]
              exact ⟨rfl, ⟨v, HR.out.same (HUx.out.trans u4 (fun _ _ f => f))⟩, (HUx.out.trans u4 (fun _ _ f => f)).wide (fun _ f => f.elim)⟩
            · have de : (yf == (x.m.lf p).fr) = false := by simp [hfe]
              have HXLd : Hid (LfAt (wx.drewN (1 + m4)) qx ⟨true, yw, yf⟩) := HXL.out.upd u4 (fun f => f)
              have HUxd : Hid (Upd (fun _ => False) w (wx.drewN (1 + m4))) := HUx.out.trans u4 (fun _ _ f => f)
              have hzd : qx < (wx.drewN (1 + m4)).heap.size := Nat.lt_of_lt_of_le hzx u4.size
              go_wp2_with fail
              clear e0 e1 e2 u4 HS HRx HLx HUx HXL hzx
              revert HXLd HUxd hzd
              generalize wx.drewN (1 + m4) = wd0
              intro HXLd HUxd hzd
              have HB : Hid (∀ i z, h.g i = some z → bx i < qx) := fun i z hz => Nat.lt_of_lt_of_le (HR.out.gu i z hz).mp.lt hwj
              have hbm := Nat.lt_of_lt_of_le HR.out.lt.2 hwj
              go_loopg [16] 64 (fun g s wr => ∃ (i : Nat) (v' : Nat → Value), i + g = 64 ∧ s = .int .i64 i ∧ Hid (RHo wr bh bm base bx v' (hSealTo h yf i)) ∧ Hid (Upd (RFt bh bm bx h) w wr) ∧ Hid (LfAt wr qx ⟨true, yw, yf⟩))
              case atStart => exact ⟨0, v, by omega, rfl, by rw [sealTo_zero]; exact HR.out.same HUxd.out, HUxd.out.wide (fun _ f => f.elim), HXLd.out⟩
              case round =>
                obtain ⟨i, v', hi64, rfl, HRi, HUi, HXi⟩ := hrel
                have HI64 : Hid _ := hi64
                clear hi64
                have f2 := HXi.out.c2
                simp only at f2
                by_cases hil : i < 64
                · have wdi : IntKind.i64.wrap ((i : Int) / 16) = (i : Int) / 16 := by rw [IntKind.wrap_i64]; omega
                  have q0 : (0 : Int) ≤ (i : Int) / 16 := by omega
                  have q1 : (i : Int) / 16 < 4 := by omega
                  have q2 : (0 : Int) ≤ (i : Int) % 16 := by omega
                  have q3 : (i : Int) % 16 < 16 := by omega
                  have hi4 : i / 16 < 4 := by omega
                  have hi16 : i % 16 < 16 := by omega
                  cases hz0 : h.g (i / 16) with
                  | none =>
                    have cz := HRi.out.cNone hi4 (by show (h.g (i / 16)).map _ = none; rw [hz0]; rfl)
                    have HSN : Hid _ := sealTo_none h yf hz0
                    clear hz0
                    go_wp2_with fail
                    go_quiet (fail)
                    go_wp2_with fail
                    go_roundg (64 - (i + 1))
                    case rel => exact ⟨i + 1, v', by omega, by go_num, by rw [HSN.out]; exact HRi.out.same ((Upd.refl _ _).drewN nq), HUi.out.drewN nq, HXi.out.upd ((Upd.refl (fun _ => False) _).drewN nq) (fun f => f)⟩
                    case measure => have := HI64.out; omega
                  | some z =>
                    have hat := sealTo_at h yf i hz0
                    have cz := HRi.out.cSome hi4 hat
                    have g0 := (HRi.out.gu _ _ hat).mp.th (i % 16) hi16
                    have g2 := (HRi.out.gu _ _ hat).mp.fr (i % 16) hi16
                    simp only at g0 g2
                    rw [(sealTo_leaf z.m (16 * (i / 16)) yf i (i % 16)).1] at g0
                    rw [(sealTo_leaf z.m (16 * (i / 16)) yf i (i % 16)).2] at g2
                    have HZ : Hid (h.g (i / 16) = some z) := hz0
                    have HAT : Hid _ := hat
                    clear hz0 hat
                    by_cases hzt : (z.m.lf (i % 16)).there = true
                    · rw [hzt] at g0
                      by_cases hzf : (z.m.lf (i % 16)).fr = yf
                      · have df : ((z.m.lf (i % 16)).fr == yf) = true := by simp [hzf]
                        have HSS : Hid _ := sealTo_step h yf HZ.out hzt hzf
                        have hne : ¬ (qx = bm ∨ qx = bx (i / 16)) := by have := HB.out _ _ HZ.out; omega
                        have HNE : Hid _ := hne
                        clear hzt hzf hne
                        go_wp2_with fail
                        go_quiet (fail)
                        have HC : Hid _ := (HRi.out.same ((Upd.refl (fun _ => False) wr).drewN nq)).go (HI.out.sealTo yf i) hW HAT.out (fun _ p => p.seal ((i % 16 : Nat) : Int))
                        have hne : ¬ (qx = bm ∨ qx = bx (i / 16)) := HNE.out
                        clear HNE
                        go_wp2_with fail
                        refine Calls.mono HC.out ?_
                        rintro e w5 ⟨rfl, ⟨v5, hr5⟩, hu5⟩
                        rw [show (hSealTo h yf i).s = h.s from rfl, HSS.out] at hr5
                        have HR5 : Hid (RHo w5 bh bm base bx v5 (hSealTo h yf (i + 1))) := hr5
                        have HU5 : Hid _ := upd_ft (HUi.out.drewN nq) HZ.out hu5
                        have HX5 : Hid (LfAt w5 qx ⟨true, yw, yf⟩) := (HXi.out.upd ((Upd.refl (fun _ => False) _).drewN nq) (fun f => f)).upd hu5 hne
                        clear hr5 hu5 HC
                        go_wp2_with fail
                        go_roundg (64 - (i + 1))
                        case rel => exact ⟨i + 1, v5, by omega, by go_num, HR5.out, HU5.out, HX5.out⟩
                        case measure => have := HI64.out; omega
                      · have df : ((z.m.lf (i % 16)).fr == yf) = false := by simp [hzf]
                        have HSS : Hid _ := sealTo_skip h yf HZ.out (fun c => hzf c.2)
                        clear hzt hzf
                        go_wp2_with fail
                        go_quiet (fail)
                        go_wp2_with fail
                        go_roundg (64 - (i + 1))
                        case rel => exact ⟨i + 1, v', by omega, by go_num, by rw [HSS.out]; exact HRi.out.same ((Upd.refl _ _).drewN nq), HUi.out.drewN nq, HXi.out.upd ((Upd.refl (fun _ => False) _).drewN nq) (fun f => f)⟩
                        case measure => have := HI64.out; omega
                    · have hzt' : (z.m.lf (i % 16)).there = false := by simpa using hzt
                      rw [hzt'] at g0
                      have HSS : Hid _ := sealTo_skip h yf HZ.out (fun c => hzt c.1)
                      clear hzt hzt'
                      go_wp2_with fail
                      go_quiet (fail)
                      go_wp2_with fail
                      go_roundg (64 - (i + 1))
                      case rel => exact ⟨i + 1, v', by omega, by go_num, by rw [HSS.out]; exact HRi.out.same ((Upd.refl _ _).drewN nq), HUi.out.drewN nq, HXi.out.upd ((Upd.refl (fun _ => False) _).drewN nq) (fun f => f)⟩
                      case measure => have := HI64.out; omega
                · obtain rfl : i = 64 := by have := HI64.out; omega
                  have hat := sealTo_at h yf 64 HX.out
                  have HHA : Hid (hAt (hSealTo h yf 64) k = { x with m := sealOf x.m (16 * k) yf 64 }) := (hWho_some hat hk).2
                  have HC : Hid _ := HRi.out.drew.go (HI.out.sealTo yf 64) hW hat (fun _ q => q.join (p : Int) yf)
                  have hne : ¬ (qx = bm ∨ qx = bx k) := by have := HB.out _ _ HX.out; omega
                  have HNE : Hid _ := hne
                  clear hat hne
                  go_wp2_with fail
                  go_region_held3 (fun w' => w'.cell? ⟨qx, 2, none⟩ = some (.int .i64 yf)) (first | exact f2 | exact h5c)
                    (first | (go_at_call 61; refine Calls.mono HC.out ?_; rintro e w5 ⟨rfl, ⟨v5, hr5⟩, hu5⟩; have HR5 : Hid _ := hr5; have HU5 : Hid _ := upd_ft HUi.out.drew HX.out hu5; have h5c : w5.cell? ⟨qx, 2, none⟩ = some (.int .i64 yf) := hu5.cell (by exact f2) HNE.out; clear hr5 hu5))
                  go_wp2_with fail
                  go_ret2
                  rw [HSC.out.2 j HHF.out, row_some HY.out, HYL.out, if_neg hfe, HHA.out]
                  exact ⟨rfl, ⟨v5, HR5.out⟩, HU5.out⟩
    · obtain rfl : j = 16 * k + p := by have := HJ.out; omega
      have d : decide (((16 * k + p : Nat) : Int) < 16 * (k : Int) + (p : Int)) = false := by simp
      go_wp2_with fail
      go_ret2
      rw [HSC.out.1 (hFst_non HN.out)]
      exact ⟨rfl, ⟨v, HR.out.same HU.out⟩, HU.out.wide (fun _ f => f.elim)⟩
end Go.Proofs.YtadpibcgjgcjhaaGreat
/- The document's host: Scan, ScanAll. -/
namespace Go.Proofs.YtadpibcgjgcjhaaGreat
open Go.ChangeShapes Go.WideShapes Go.ChangeAt Go.RowKit
set_option maxRecDepth 100000
attribute [local go_sem ↓] Go.wp_at_zero Go.wp_at_succ
variable {w w' : World} {bh bm base : Nat} {bx : Nat → Nat} {v : Nat → Value} {h h' : Hs} {x : Gs} {s' : Pl} {x' : Gs} {W : Int} {t : Nat → Nat → Int} {F : Nat → Option Fl}

theorem rScan_any (r : RHo w bh bm base bx v h) (hi : HInv h W) (hW : W ≤ 1000000) (n p : Int) : Calls Tryz.prog 92 #[.pointer (some ⟨bh, 0, none⟩), .int .i64 n, .int .i64 p] w (SPost w bh bm base bx h (hScan h n p)) := by
  by_cases h0 : 0 < hWho h n
  · rw [hScan_wrong p h0]
    exact sScan_no r n p h0
  · obtain ⟨k, x, rfl, hk, hx, hat⟩ := hWho_zero (show hWho h n = 0 by have := hWho_le (h := h) n; omega)
    cases hp : onB p with
    | false =>
      rw [hScan_off hx hk hp]
      exact sScan_off r hk hx p hp
    | true =>
      obtain ⟨p0, p1⟩ := (onB_iff p).1 hp
      obtain ⟨q, rfl⟩ := Int.eq_ofNat_of_zero_le p0
      have hq : q < 16 := by omega
      cases ht : (x.m.lf q).there with
      | false =>
        rw [hScan_gone hx hk hq ht]
        exact sScan_gone r hk hx hq ht
      | true => exact sScan_there r hi hW hk hx hq ht
theorem rft_of {k : Nat} (hn : ∀ i, h'.g i = none ↔ h.g i = none) (hk : RFt bh bm bx h' k) : RFt bh bm bx h k := by
  rcases hk with e | e | ⟨i, y, hy, e⟩
  · exact Or.inl e
  · exact Or.inr (Or.inl e)
  · cases hx : h.g i with
    | none => have := (hn i).2 hx; rw [hy] at this; cases this
    | some x => exact Or.inr (Or.inr ⟨i, x, hx, e⟩)
set_option maxHeartbeats 1000000 in
theorem rScanAll_any (r : RHo w bh bm base bx v h) (hf : HF h t F W) (hW : W ≤ 1000000) : Calls Tryz.prog 93 #[.pointer (some ⟨bh, 0, none⟩)] w (HPost w bh bm base bx h (hScanTo h 64)) := by
  have HR : Hid (RHo w bh bm base bx v h) := r
  have HHF : Hid (HF h t F W) := hf
  clear r hf
  go_enter Tryz.func93, Tryz.ntmps93
  go_wp2_with fail
  go_loopg [3, 4] 64 (fun g c i wr => ∃ (k : Nat) (v' : Nat → Value), k + g = 64 ∧ i = .int .i64 k ∧ c = .int .i64 (hScanTo h k).1 ∧ Hid (RHo wr bh bm base bx v' (hScanTo h k).2) ∧ Hid (Upd (RFt bh bm bx h) w wr))
  case atStart => exact ⟨0, v, by omega, rfl, rfl, HR.out, Upd.refl _ _⟩
  case round =>
    obtain ⟨k, v', hk, rfl, rfl, HRk, HU⟩ := hrel
    have HK : Hid _ := hk
    clear hk
    by_cases hlt : k < 64
    · obtain ⟨hs1, _, _, hs4, _, hs6, hs7, _⟩ := HHF.out.scans k (by omega)
      have HS4 : Hid _ := hs4
      have HST : Hid (hScanTo h (k + 1) = ((hScanTo h k).1 + (if (hScan (hScanTo h k).2 ((k / 16 : Nat) : Int) ((k % 16 : Nat) : Int)).1.1 = true then 1 else 0), (hScan (hScanTo h k).2 ((k / 16 : Nat) : Int) ((k % 16 : Nat) : Int)).2)) := rfl
      have hs := rScan_any HRk.out hs1.hr.inv hW ((k / 16 : Nat) : Int) ((k % 16 : Nat) : Int)
      unfold SPost at hs
      revert hs HST
      generalize hScan (hScanTo h k).2 ((k / 16 : Nat) : Int) ((k % 16 : Nat) : Int) = r
      obtain ⟨⟨r1, r2⟩, r3⟩ := r
      simp only
      intro HST hs
      have HS : Hid _ := hs
      have wd : IntKind.i64.wrap ((k : Int) / 16) = (k : Int) / 16 := by rw [IntKind.wrap_i64]; omega
      clear hs hs1 hs4 HRk
      generalize (hScanTo h k).1 = cnt at *
      go_wp2_with fail
      refine Calls.mono HS.out ?_
      rintro e w2 ⟨rfl, ⟨v2, hr2⟩, hu2⟩
      have HR2 : Hid (RHo w2 bh bm base bx v2 r3) := hr2
      have HU2 : Hid (Upd (RFt bh bm bx h) w w2) := HU.out.trans hu2 (fun i _ e => rft_of HS4.out e)
      clear hr2 hu2 HS
      cases r1 with
      | true =>
        go_wp2_with fail
        go_roundg (64 - (k + 1))
        case rel => exact ⟨k + 1, v2, by omega, by go_num, by rw [HST.out]; go_num, by rw [HST.out]; exact HR2.out, HU2.out⟩
        case measure => have := HK.out; omega
      | false =>
        go_wp2_with fail
        go_roundg (64 - (k + 1))
        case rel => exact ⟨k + 1, v2, by omega, by go_num, by rw [HST.out]; simp, by rw [HST.out]; exact HR2.out, HU2.out⟩
        case measure => have := HK.out; omega
    · obtain rfl : k = 64 := by have := HK.out; omega
      go_wp2_with fail
      go_ret
      exact ⟨rfl, ⟨v', HRk.out⟩, HU.out⟩
end Go.Proofs.YtadpibcgjgcjhaaGreat
/- Package leaves: what Join and Touch answer and turn. -/
namespace Go.Proofs.YtadpibcgjgcjhaaGreat
open Go.ChangeShapes Go.WideShapes Go.ChangeAt Go.RowKit
set_option maxRecDepth 100000
attribute [local go_sem ↓] Go.wp_at_zero Go.wp_at_succ

theorem lvTake_ok (w : World) (bp bf j : Nat) (s : Pl) (h : PoolAt w bp bf s) (hj : j < s.n) (h0 : s.refs j = 0) (hr : ∀ i, i < j → s.refs i ≠ 0) :
    Calls Tryz.prog 170 #[.pointer (some ⟨bp, 0, none⟩)] w fun e w' => e = .returned (.tuple #[.int .i64 j, .nilIface]) ∧ PoolAt w' bp bf { s with refs := setAt s.refs j 1, byt := setAt s.byt j fun _ => 0 } ∧ Upd (fun k => k = bf) w w' := by
  refine (take_at w bp bf j s h hj h0 hr).mono ?_
  rintro e w' ⟨rfl, rfl⟩
  refine ⟨rfl, ?_, (Upd.row _ _ _ _).trans (Upd.one _ _ _ _) (fun _ _ e => e)⟩
  exact (h.setRow (f := j) hj (fun _ => 0)).setRef (f := j) hj (by omega)

/-- No frame is free: nothing turns. -/
theorem move_full (w : World) (bl bp bf k : Nat) (m : Mp) (s : Pl) (h : LvAt w bl bp m) (hp : PoolAt w bp bf s) (hfull : ∀ i, i < s.n → s.refs i ≠ 0) :
    Calls Tryz.prog 165 #[.pointer (some ⟨bl, 0, none⟩), .pointer (some ⟨bl, 1 + k * 4, none⟩)] w fun e w' => e = .returned (.tuple #[.int .i64 0, .bool false, .iface 85 (.int .i64 3)]) ∧ w' = w := by
  have c0 := h.pool
  have HF : Hid _ := hfull
  clear hfull
  go_enter Tryz.func165, Tryz.ntmps165
  go_wp2_with fail
  refine (take_full _ _ _ s hp HF.out).mono ?_
  rintro e w1 ⟨rfl, rfl⟩
  go_wp2_with fail
  go_ret3
  exact ⟨rfl, rfl⟩
/-- The page was in no frame. -/
theorem move_new (w : World) (bl bp bf k j : Nat) (m : Mp) (s : Pl) (h : LvAt w bl bp m) (hp : PoolAt w bp bf s) (h1 : bl ≠ bp) (h2 : bl ≠ bf) (hk : k < 16) (hlt : bf < w.heap.size) (hm : ∀ k, k < s.n → s.refs k ≤ 1000000)
    (ht : (m.lf k).there = false) (hj : j < s.n) (hj0 : s.refs j = 0) (hjr : ∀ i, i < j → s.refs i ≠ 0) :
    Calls Tryz.prog 165 #[.pointer (some ⟨bl, 0, none⟩), .pointer (some ⟨bl, 1 + k * 4, none⟩)] w fun e w' => e = .returned (.tuple #[.int .i64 j, .bool false, .nilIface]) ∧
      PoolAt w' bp bf { s with refs := setAt s.refs j 1, byt := setAt s.byt j fun _ => 0 } ∧ LvAt w' bl bp { m with lf := setAt m.lf k ⟨true, true, j⟩ } ∧ Upd (fun k => k = bf ∨ k = bl) w w' := by
  have c0 := h.pool
  have H1 : Hid _ := h1
  have H2 : Hid _ := h2
  have HM : Hid _ := hm
  have HT : Hid _ := ht
  have HJ0 : Hid _ := hj0
  have HJR : Hid _ := hjr
  clear ht h1 h2 hm hj0 hjr
  go_enter Tryz.func165, Tryz.ntmps165
  go_wp2_with fail
  refine (lvTake_ok _ _ _ j s hp hj HJ0.out HJR.out).mono ?_
  rintro e w1 ⟨rfl, hp1, hu1⟩
  have hl1 := h.upd hu1 H2.out
  have c1 := hl1.th k hk
  rw [HT.out] at c1
  clear c0
  go_wp2_with fail
  refine (leave_any _ _ _ _ k m _ hl1 hp1 H1.out H2.out hk (Nat.lt_of_lt_of_le hlt hu1.size) (setAt_le (fun f hf => HM.out f hf) (by omega))).mono ?_
  rintro e w2 ⟨rfl, hp2, hl2, hu2⟩
  simp only [leaveP, HT.out, Bool.false_eq_true, if_false] at hp2
  have d1 := hl2.th k hk
  have d2 := hl2.wr k hk
  have d3 := hl2.fr k hk
  have d4 := hl2.fz (1 + k * 4 + 1)
  have d5 := hl2.fz (1 + k * 4 + 1 + 1)
  have d6 := hl2.fz (1 + k * 4 + 1 + 2)
  have h3 := hl2.setLf hk ⟨true, true, j⟩
  simp only [leaveM, setAt_twice] at h3
  have hu3 := Upd.three w2 bl (1 + k * 4 + 1) (1 + k * 4 + 1 + 1) (1 + k * 4 + 1 + 2) (.bool true) (.bool true) (.int .i64 j)
  have hp3 := hp2.upd hu3 (Ne.symm H1.out) (Ne.symm H2.out) (Nat.lt_of_lt_of_le hlt (Nat.le_trans hu1.size hu2.size))
  have hu4 := ((hu1.wide (T := fun k => k = bf ∨ k = bl) (fun _ e => Or.inl e)).trans hu2 (fun _ _ e => e)).trans hu3 (fun _ _ e => Or.inr e)
  have H3 : Hid _ := h3
  have HU4 : Hid _ := hu4
  have HP3 : Hid _ := hp3
  clear h3 hu3 hp3 hu4 hl1 hu1 hp1 hp2 hu2 hl2 c1
  go_wp2_with fail
  go_ret3
  exact ⟨rfl, HP3.out, H3.out, HU4.out⟩
/-- The page was in a frame: it moves. -/
theorem move_yes (w : World) (bl bp bf k j : Nat) (m : Mp) (s : Pl) (h : LvAt w bl bp m) (hp : PoolAt w bp bf s) (h1 : bl ≠ bp) (h2 : bl ≠ bf) (hk : k < 16) (hlt : bf < w.heap.size) (hm : ∀ k, k < s.n → s.refs k ≤ 1000000)
    (ht : (m.lf k).there = true) (f0 : 0 ≤ (m.lf k).fr) (f1 : (m.lf k).fr < s.n) (hused : s.refs (m.lf k).fr.toNat ≠ 0) (hj : j < s.n) (hj0 : s.refs j = 0) (hjr : ∀ i, i < j → s.refs i ≠ 0) :
    Calls Tryz.prog 165 #[.pointer (some ⟨bl, 0, none⟩), .pointer (some ⟨bl, 1 + k * 4, none⟩)] w fun e w' => e = .returned (.tuple #[.int .i64 j, .bool true, .nilIface]) ∧
      PoolAt w' bp bf (({ s with refs := setAt s.refs j 1, byt := setAt (setAt s.byt j fun _ => 0) j (setAt s.byt j (fun _ => 0) (m.lf k).fr.toNat) } : Pl).share (m.lf k).fr (-1)).2 ∧ LvAt w' bl bp { m with lf := setAt m.lf k ⟨true, true, j⟩ } ∧ Upd (fun k => k = bf ∨ k = bl) w w' := by
  have c0 := h.pool
  have hfj : (m.lf k).fr.toNat ≠ j := fun e => hused (by rw [e]; exact hj0)
  have hfill : ({ s with refs := setAt s.refs j 1, byt := setAt s.byt j fun _ => 0 } : Pl).fill j (m.lf k).fr = (0, { s with refs := setAt s.refs j 1, byt := setAt (setAt s.byt j fun _ => 0) j (setAt s.byt j (fun _ => 0) (m.lf k).fr.toNat) }) := by
    have e1 : ({ s with refs := setAt s.refs j 1, byt := setAt s.byt j fun _ => 0 } : Pl).used j = true := (Pl.used_iff _ _).2 ⟨by omega, by show (j : Int) < s.n; omega, by show setAt s.refs j 1 _ ≠ 0; rw [Int.toNat_natCast, setAt_same]; omega⟩
    have e2 : ({ s with refs := setAt s.refs j 1, byt := setAt s.byt j fun _ => 0 } : Pl).used (m.lf k).fr = true := (Pl.used_iff _ _).2 ⟨f0, f1, by show setAt s.refs j 1 _ ≠ 0; rw [setAt_other _ _ _ _ hfj]; exact hused⟩
    unfold Pl.fill
    rw [e1, e2]
    simp only [Int.toNat_natCast, setAt_same, Bool.and_self, if_true]
    rw [if_neg (by omega)]
  have H1 : Hid _ := h1
  have H2 : Hid _ := h2
  have HM : Hid _ := hm
  have HT : Hid _ := ht
  have HJ0 : Hid _ := hj0
  have HJR : Hid _ := hjr
  have HFJ : Hid _ := hfj
  have HFI : Hid _ := hfill
  clear ht h1 h2 hm hj0 hjr hfj hused hfill
  go_enter Tryz.func165, Tryz.ntmps165
  go_wp2_with fail
  refine (lvTake_ok _ _ _ j s hp hj HJ0.out HJR.out).mono ?_
  rintro e w1 ⟨rfl, hp1, hu1⟩
  have hl1 := h.upd hu1 H2.out
  have c1 := hl1.th k hk
  have c2 := hl1.fr k hk
  have c3 := hl1.pool
  rw [HT.out] at c1
  clear c0
  go_wp2_with fail
  go_region_held3 (fun w' => w'.cell? ⟨bl, 0, none⟩ = some (.pointer (some ⟨bp, 0, none⟩)) ∧ w'.cell? ⟨bl, 1 + k * 4 + 1 + 2, none⟩ = some (.int .i64 (m.lf k).fr)) (first | exact ⟨c3, c2⟩ | exact h1c)
    ((go_at_call 171; refine (fill_any _ _ _ _ _ _ (by first | exact hp1 | exact hp1.drew)).mono ?_; rintro e w2 ⟨rfl, hp2, hu2⟩; have h1c : w2.cell? ⟨bl, 0, none⟩ = some (.pointer (some ⟨bp, 0, none⟩)) ∧ w2.cell? ⟨bl, 1 + k * 4 + 1 + 2, none⟩ = some (.int .i64 (m.lf k).fr) := ⟨hu2.cell (by exact c3) H2.out, hu2.cell (by exact c2) H2.out⟩))
  rw [HFI.out] at hp2
  simp only at hp2
  have hu2' : Upd (fun k => k = bf) w w2 := hu1.drew.trans hu2 (fun _ _ e => e)
  have hl2 := h.upd hu2' H2.out
  clear h1c hl1 c1 c2 c3 hp1 hu1 hu2
  go_wp2_with fail
  refine (leave_any _ _ _ _ k m _ hl2 hp2 H1.out H2.out hk (Nat.lt_of_lt_of_le hlt hu2'.size) (setAt_le (fun f hf => HM.out f hf) (by omega))).mono ?_
  rintro e w3 ⟨rfl, hp3, hl3, hu3⟩
  simp only [leaveP, HT.out, if_true] at hp3
  have d1 := hl3.th k hk
  have d2 := hl3.wr k hk
  have d3 := hl3.fr k hk
  have d4 := hl3.fz (1 + k * 4 + 1)
  have d5 := hl3.fz (1 + k * 4 + 1 + 1)
  have d6 := hl3.fz (1 + k * 4 + 1 + 2)
  have h4 := hl3.setLf hk ⟨true, true, j⟩
  simp only [leaveM, setAt_twice] at h4
  have hu4 := Upd.three w3 bl (1 + k * 4 + 1) (1 + k * 4 + 1 + 1) (1 + k * 4 + 1 + 2) (.bool true) (.bool true) (.int .i64 j)
  have hp4 := hp3.upd hu4 (Ne.symm H1.out) (Ne.symm H2.out) (Nat.lt_of_lt_of_le hlt (Nat.le_trans hu2'.size hu3.size))
  have hu5 := ((hu2'.wide (T := fun k => k = bf ∨ k = bl) (fun _ e => Or.inl e)).trans hu3 (fun _ _ e => e)).trans hu4 (fun _ _ e => Or.inr e)
  have H4 : Hid _ := h4
  have HU5 : Hid _ := hu5
  have HP4 : Hid _ := hp4
  clear h4 hu4 hp4 hu5 hl2 hu2' hp2 hp3 hu3 hl3
  go_wp2_with fail
  go_ret3
  exact ⟨rfl, HP4.out, H4.out, HU5.out⟩
end Go.Proofs.YtadpibcgjgcjhaaGreat
/- Package leaves: what Touch answers and turns. -/
namespace Go.Proofs.YtadpibcgjgcjhaaGreat
open Go.ChangeShapes Go.WideShapes Go.ChangeAt Go.RowKit
set_option maxRecDepth 100000
attribute [local go_sem ↓] Go.wp_at_zero Go.wp_at_succ

theorem lvTouch_out (w : World) (bl : Nat) (n : Int) (wt : Bool) (ho : onB n = false) :
    Calls Tryz.prog 151 #[.pointer (some ⟨bl, 0, none⟩), .int .i64 n, .bool wt] w fun e w' => e = .returned (.tuple #[.int .i64 0, .bool false, .iface 85 (.int .i64 1)]) ∧ w' = w := by
  go_enter Tryz.func151, Tryz.ntmps151
  go_wp2_with (go_at_call 119; refine (page_no _ _ _ ho).mono ?_; rintro e w' ⟨rfl, rfl⟩)
  go_ret3
  exact ⟨rfl, rfl⟩
theorem lvTouch_absent (w : World) (bl bp k : Nat) (wt : Bool) (m : Mp) (h : LvAt w bl bp m) (hk : k < 16) (hs : m.st k = 0) :
    Calls Tryz.prog 151 #[.pointer (some ⟨bl, 0, none⟩), .int .i64 k, .bool wt] w fun e w' => e = .returned (.tuple #[.int .i64 0, .bool false, .iface 85 (.int .i64 2)]) ∧ w' = w := by
  have c1 := h.st k hk
  have b1 : (m.st k == 0) = true := by simp [hs]
  clear hs
  go_enter Tryz.func151, Tryz.ntmps151
  go_wp2_with (go_at_call 119; refine (page_yes _ _ _ hk).mono ?_; rintro e w' ⟨rfl, rfl⟩)
  go_ret3
  exact ⟨rfl, rfl⟩
theorem lvTouch_gone (w : World) (bl bp k : Nat) (wt : Bool) (m : Mp) (h : LvAt w bl bp m) (hk : k < 16) (hs : m.st k = 2) :
    Calls Tryz.prog 151 #[.pointer (some ⟨bl, 0, none⟩), .int .i64 k, .bool wt] w fun e w' => e = .returned (.tuple #[.int .i64 0, .bool false, .iface 85 (.int .i64 6)]) ∧ w' = w := by
  have c1 := h.st k hk
  have b1 : (m.st k == 0) = false := by simp [hs]
  have b2 : (m.st k == 2) = true := by simp [hs]
  clear hs
  go_enter Tryz.func151, Tryz.ntmps151
  go_wp2_with (go_at_call 119; refine (page_yes _ _ _ hk).mono ?_; rintro e w' ⟨rfl, rfl⟩)
  go_ret3
  exact ⟨rfl, rfl⟩
theorem lvTouch_keep (w : World) (bl bp k : Nat) (wt : Bool) (m : Mp) (h : LvAt w bl bp m) (hk : k < 16) (h0 : m.st k ≠ 0) (h2 : m.st k ≠ 2) (ht : (m.lf k).there = true) (hw : (!wt || (m.lf k).wr) = true) :
    Calls Tryz.prog 151 #[.pointer (some ⟨bl, 0, none⟩), .int .i64 k, .bool wt] w fun e w' => e = .returned (.tuple #[.int .i64 (m.lf k).fr, .bool false, .nilIface]) ∧ w' = w := by
  have c1 := h.st k hk
  have b1 : (m.st k == 0) = false := by simp [h0]
  have b2 : (m.st k == 2) = false := by simp [h2]
  have c2 := h.th k hk
  have c3 := h.wr k hk
  have c4 := h.fr k hk
  rw [ht] at c2
  clear h0 h2 ht
  cases hwr : (m.lf k).wr with
  | true =>
    rw [hwr] at c3
    clear hw hwr
    go_enter Tryz.func151, Tryz.ntmps151
    go_wp2_with (go_at_call 119; refine (page_yes _ _ _ hk).mono ?_; rintro e w' ⟨rfl, rfl⟩)
    go_ret3
    exact ⟨rfl, rfl⟩
  | false =>
    rw [hwr] at c3 hw
    obtain rfl : wt = false := by simpa using hw
    clear hw hwr
    go_enter Tryz.func151, Tryz.ntmps151
    go_wp2_with (go_at_call 119; refine (page_yes _ _ _ hk).mono ?_; rintro e w' ⟨rfl, rfl⟩)
    go_ret3
    exact ⟨rfl, rfl⟩
theorem alone_is (w : World) (bl bp bf : Nat) (f : Int) (m : Mp) (s : Pl) (h : LvAt w bl bp m) (hp : PoolAt w bp bf s) (f0 : 0 ≤ f) (f1 : f < s.n) {u : Bool} (hu : (s.refs f.toNat == 1) = u) :
    Calls Tryz.prog 164 #[.pointer (some ⟨bl, 0, none⟩), .int .i64 f] w fun e w' => e = .returned (.bool u) ∧ Upd (fun _ => False) w w' := by
  subst hu; exact alone_any w bl bp bf f m s h hp f0 f1
theorem lvTouch_own (w : World) (bl bp bf k : Nat) (m : Mp) (s : Pl) (h : LvAt w bl bp m) (hp : PoolAt w bp bf s) (h1 : bl ≠ bp) (h2 : bl ≠ bf) (hk : k < 16) (hlt : bf < w.heap.size) (s0 : m.st k ≠ 0) (s2 : m.st k ≠ 2)
    (ht : (m.lf k).there = true) (hw : (m.lf k).wr = false) (f0 : 0 ≤ (m.lf k).fr) (f1 : (m.lf k).fr < s.n) (hone : s.refs (m.lf k).fr.toNat = 1) :
    Calls Tryz.prog 151 #[.pointer (some ⟨bl, 0, none⟩), .int .i64 k, .bool true] w fun e w' => e = .returned (.tuple #[.int .i64 (m.lf k).fr, .bool false, .nilIface]) ∧
      PoolAt w' bp bf s ∧ LvAt w' bl bp { m with lf := setAt m.lf k { m.lf k with wr := true } } ∧ Upd (fun k => k = bf ∨ k = bl) w w' := by
  have c1 := h.st k hk
  have b1 : (m.st k == 0) = false := by simp [s0]
  have b2 : (m.st k == 2) = false := by simp [s2]
  have c2 := h.th k hk
  have c3 := h.wr k hk
  have c4 := h.fr k hk
  rw [ht] at c2
  rw [hw] at c3
  have H1 : Hid _ := h1
  have H2 : Hid _ := h2
  have HT : Hid _ := ht
  have hb : (s.refs (m.lf k).fr.toNat == 1) = true := by simp [hone]
  have HB : Hid _ := hb
  clear s0 s2 ht hw h1 h2 hone hb
  go_enter Tryz.func151, Tryz.ntmps151
  go_wp2_with (go_at_call 119; refine (page_yes _ _ _ hk).mono ?_; rintro e w' ⟨rfl, rfl⟩)
  refine (alone_is _ _ _ _ _ m s h hp f0 f1 HB.out).mono ?_
  rintro e w1 ⟨rfl, hu1⟩
  have hl1 := h.upd hu1 (fun f => f)
  have hp1 := hp.upd hu1 (fun f => f) (fun f => f) hlt
  have d2 := hl1.wr k hk
  have d3 := hl1.fr k hk
  have d4 := hl1.fz (1 + k * 4 + 1 + 1)
  have h3 := hl1.setWr hk true
  have d5 := h3.fr k hk
  simp only [setAt_same] at d5
  have hu3 := Upd.one w1 bl (1 + k * 4 + 1 + 1) (.bool true)
  have hp3 := hp1.upd hu3 (Ne.symm H1.out) (Ne.symm H2.out) (Nat.lt_of_lt_of_le hlt hu1.size)
  have hu4 := (hu1.wide (T := fun k => k = bf ∨ k = bl) (fun _ f => f.elim)).trans hu3 (fun _ _ e => Or.inr e)
  have H3 : Hid _ := h3
  have HU4 : Hid _ := hu4
  have HP3 : Hid _ := hp3
  clear h3 hu3 hp3 hu4 hl1 hu1 hp1 c1 c2 c3 c4
  go_wp2_with fail
  go_ret3
  exact ⟨rfl, HP3.out, H3.out, HU4.out⟩
theorem lvTouch_new (w : World) (bl bp k : Nat) (wt : Bool) (m : Mp) (h : LvAt w bl bp m) (hk : k < 16) (s0 : m.st k ≠ 0) (s2 : m.st k ≠ 2) (ht : (m.lf k).there = false) (x y z : Value) (R : World → Prop)
    (hmv : Calls Tryz.prog 165 #[.pointer (some ⟨bl, 0, none⟩), .pointer (some ⟨bl, 1 + k * 4, none⟩)] w fun e w' => e = .returned (.tuple #[x, y, z]) ∧ R w') :
    Calls Tryz.prog 151 #[.pointer (some ⟨bl, 0, none⟩), .int .i64 k, .bool wt] w fun e w' => e = .returned (.tuple #[x, y, z]) ∧ R w' := by
  have c1 := h.st k hk
  have b1 : (m.st k == 0) = false := by simp [s0]
  have b2 : (m.st k == 2) = false := by simp [s2]
  have c2 := h.th k hk
  rw [ht] at c2
  clear s0 s2 ht
  go_enter Tryz.func151, Tryz.ntmps151
  go_wp2_with (go_at_call 119; refine (page_yes _ _ _ hk).mono ?_; rintro e w' ⟨rfl, rfl⟩)
  refine Calls.mono hmv ?_
  rintro e w1 ⟨rfl, hR⟩
  go_wp2_with fail
  go_ret3
  exact ⟨rfl, hR⟩
theorem lvTouch_shared (w : World) (bl bp bf k : Nat) (m : Mp) (s : Pl) (h : LvAt w bl bp m) (hp : PoolAt w bp bf s) (hk : k < 16) (s0 : m.st k ≠ 0) (s2 : m.st k ≠ 2)
    (ht : (m.lf k).there = true) (hw : (m.lf k).wr = false) (f0 : 0 ≤ (m.lf k).fr) (f1 : (m.lf k).fr < s.n) (hone : s.refs (m.lf k).fr.toNat ≠ 1) (x y z : Value) (R : World → Prop)
    (hmv : ∀ w1, Upd (fun _ => False) w w1 → Calls Tryz.prog 165 #[.pointer (some ⟨bl, 0, none⟩), .pointer (some ⟨bl, 1 + k * 4, none⟩)] w1 fun e w' => e = .returned (.tuple #[x, y, z]) ∧ R w') :
    Calls Tryz.prog 151 #[.pointer (some ⟨bl, 0, none⟩), .int .i64 k, .bool true] w fun e w' => e = .returned (.tuple #[x, y, z]) ∧ R w' := by
  have c1 := h.st k hk
  have b1 : (m.st k == 0) = false := by simp [s0]
  have b2 : (m.st k == 2) = false := by simp [s2]
  have c2 := h.th k hk
  have c3 := h.wr k hk
  have c4 := h.fr k hk
  rw [ht] at c2
  rw [hw] at c3
  have hb : (s.refs (m.lf k).fr.toNat == 1) = false := by simp [hone]
  have HB : Hid _ := hb
  clear s0 s2 ht hw hone hb
  go_enter Tryz.func151, Tryz.ntmps151
  go_wp2_with (go_at_call 119; refine (page_yes _ _ _ hk).mono ?_; rintro e w' ⟨rfl, rfl⟩)
  refine (alone_is _ _ _ _ _ m s h hp f0 f1 HB.out).mono ?_
  rintro e w1 ⟨rfl, hu1⟩
  clear c1 c2 c3 c4
  go_wp2_with fail
  refine Calls.mono (hmv w1 hu1) ?_
  rintro e w2 ⟨rfl, hR⟩
  go_wp2_with fail
  go_ret3
  exact ⟨rfl, hR⟩
theorem lvTouch (w : World) (bl bp bf : Nat) (n : Int) (wt : Bool) (m m' : Mp) (s : Pl) (h : LvAt w bl bp m) (hp : PoolAt w bp bf s) (h1 : bl ≠ bp) (h2 : bl ≠ bf) (hn : 0 < s.n) (hi : Inv s m m') :
    Calls Tryz.prog 151 #[.pointer (some ⟨bl, 0, none⟩), .int .i64 n, .bool wt] w fun e w' => e = .returned (.tuple #[.int .i64 (touchR s m n wt).1.1, .bool (touchR s m n wt).1.2.1, errV (touchR s m n wt).1.2.2]) ∧ PoolAt w' bp bf (touchR s m n wt).2.1 ∧ LvAt w' bl bp (touchR s m n wt).2.2 ∧ Upd (fun k => k = bf ∨ k = bl) w w' := by
  have hlt : bf < w.heap.size := World.block_lt_of_cell? w _ (hp.refs 0 hn)
  have hm : ∀ k, k < s.n → s.refs k ≤ 1000000 := fun k hk => by have := hi.le k hk; omega
  cases ho : onB n with
  | false =>
    simp only [touchR, ho, Bool.false_eq_true, if_false, errV1]
    refine (lvTouch_out w bl n wt ho).mono ?_
    rintro e w' ⟨rfl, rfl⟩
    exact ⟨rfl, hp, h, Upd.refl _ _⟩
  | true =>
    obtain ⟨h0, h1'⟩ := (onB_iff n).1 ho
    obtain ⟨k, rfl⟩ := Int.eq_ofNat_of_zero_le h0
    have hk : k < 16 := by omega
    by_cases s0 : m.st k = 0
    · simp only [touchR, ho, if_true, Int.toNat_natCast, s0, errV2]
      refine (lvTouch_absent w bl bp k wt m h hk s0).mono ?_
      rintro e w' ⟨rfl, rfl⟩
      exact ⟨rfl, hp, h, Upd.refl _ _⟩
    · by_cases s2 : m.st k = 2
      · simp only [touchR, ho, if_true, Int.toNat_natCast, s2, errV6, show ¬ ((2 : Int) = 0) by omega, if_false]
        refine (lvTouch_gone w bl bp k wt m h hk s2).mono ?_
        rintro e w' ⟨rfl, rfl⟩
        exact ⟨rfl, hp, h, Upd.refl _ _⟩
      · cases ha : ((m.lf k).there && (!wt || (m.lf k).wr)) with
        | true =>
          simp only [touchR, ho, if_true, Int.toNat_natCast, s0, s2, if_false, ha, errV_zero]
          simp only [Bool.and_eq_true] at ha
          refine (lvTouch_keep w bl bp k wt m h hk s0 s2 ha.1 ha.2).mono ?_
          rintro e w' ⟨rfl, rfl⟩
          exact ⟨rfl, hp, h, Upd.refl _ _⟩
        | false =>
          cases ht : (m.lf k).there with
          | false =>
            have hsp := firstFrom_spec s.refs s.n 0
            cases hff : firstFrom s.refs 0 s.n with
            | none =>
              rw [hff] at hsp
              simp only [touchR, ho, if_true, Int.toNat_natCast, s0, s2, if_false, ht, Bool.false_and, Bool.false_eq_true, take_none hff, show ¬ ((3 : Int) = 0) by omega, errV3]
              refine lvTouch_new w bl bp k wt m h hk s0 s2 ht _ _ _ _ ?_
              refine (move_full w bl bp bf k m s h hp (fun i hi => hsp i (by omega) (by omega))).mono ?_
              rintro e w' ⟨rfl, rfl⟩
              exact ⟨rfl, hp, h, Upd.refl _ _⟩
            | some j =>
              rw [hff] at hsp
              obtain ⟨_, j1, j2, j3⟩ := hsp
              simp only [touchR, ho, if_true, Int.toNat_natCast, s0, s2, if_false, ht, Bool.false_and, Bool.false_eq_true, take_some hff, errV_zero]
              exact lvTouch_new w bl bp k wt m h hk s0 s2 ht _ _ _ _ (move_new w bl bp bf k j m s h hp h1 h2 hk hlt hm ht (by omega) j2 (fun i hi => j3 i (by omega) hi))
          | true =>
            rw [ht] at ha
            have hw : (m.lf k).wr = false := by
              cases hh : (m.lf k).wr with
              | false => rfl
              | true => rw [hh] at ha; simp at ha
            have hwt : wt = true := by
              cases wt with
              | true => rfl
              | false => simp at ha
            subst hwt
            obtain ⟨f0, f1, f2⟩ := hi.ok k hk ht
            by_cases hone : s.refs (m.lf k).fr.toNat = 1
            · have hb : (s.refs (m.lf k).fr.toNat == 1) = true := by simp [hone]
              simp only [touchR, ho, if_true, Int.toNat_natCast, s0, s2, if_false, ht, hw, hb, Bool.true_and, Bool.not_true, Bool.or_self, Bool.false_eq_true, errV_zero]
              have := lvTouch_own w bl bp bf k m s h hp h1 h2 hk hlt s0 s2 ht hw f0 f1 hone
              simpa only [ht] using this
            · have hb : (s.refs (m.lf k).fr.toNat == 1) = false := by simp [hone]
              have hsp := firstFrom_spec s.refs s.n 0
              cases hff : firstFrom s.refs 0 s.n with
              | none =>
                rw [hff] at hsp
                simp only [touchR, ho, if_true, Int.toNat_natCast, s0, s2, if_false, ht, hw, hb, Bool.and_false, Bool.not_true, Bool.or_self, Bool.false_eq_true, take_none hff, show ¬ ((3 : Int) = 0) by omega, errV3]
                refine lvTouch_shared w bl bp bf k m s h hp hk s0 s2 ht hw f0 f1 hone _ _ _ _ (fun w1 hu1 => ?_)
                refine (move_full w1 bl bp bf k m s (h.upd hu1 (fun f => f)) (hp.upd hu1 (fun f => f) (fun f => f) hlt) (fun i hi => hsp i (by omega) (by omega))).mono ?_
                rintro e w' ⟨rfl, rfl⟩
                exact ⟨rfl, hp.upd hu1 (fun f => f) (fun f => f) hlt, h.upd hu1 (fun f => f), hu1.wide (fun _ f => f.elim)⟩
              | some j =>
                rw [hff] at hsp
                obtain ⟨_, j1, j2, j3⟩ := hsp
                simp only [touchR, ho, if_true, Int.toNat_natCast, s0, s2, if_false, ht, hw, hb, Bool.and_false, Bool.not_true, Bool.or_self, Bool.false_eq_true, take_some hff, errV_zero]
                refine lvTouch_shared w bl bp bf k m s h hp hk s0 s2 ht hw f0 f1 hone _ _ _ _ (fun w1 hu1 => ?_)
                refine (move_yes w1 bl bp bf k j m s (h.upd hu1 (fun f => f)) (hp.upd hu1 (fun f => f) (fun f => f) hlt) h1 h2 hk (Nat.lt_of_lt_of_le hlt hu1.size) hm ht f0 f1 f2 (by omega) j2 (fun i hi => j3 i (by omega) hi)).mono ?_
                rintro e w' ⟨rfl, a1, a2, a3⟩
                exact ⟨rfl, a1, a2, (hu1.wide (fun _ f => f.elim)).trans a3 (fun _ _ e => e)⟩
end Go.Proofs.YtadpibcgjgcjhaaGreat
