/- The document's host: Scan. -/
import Derived.Test.YtadpibcgjgcjhabGreatDoorHrG
import Derived.Test.YtadpibcgjgcjhabGreatDoorHoP
import Derived.Test.YtadpibcgjgcjhabGreatDoorHpS
namespace Go.Proofs.YtadpibcgjgcjhabGreatDoor
open Go.ChangeShapes Go.WideShapes Go.ChangeAt Go.RowKit
set_option maxRecDepth 100000
attribute [local go_sem ↓] Go.wp_at_zero Go.wp_at_succ
variable {w w' : World} {bh bm base : Nat} {bx : Nat → Nat} {v : Nat → Value} {h : Hs} {x : Gs} {s' : Pl} {x' : Gs} {W : Int}

theorem on_yes (w : World) {p : Nat} (hp : p < 16) : Calls Tryz.prog 39 #[.int .i64 (p : Int)] w fun e w' => e = .returned (.bool true) ∧ w' = w := by
  have := on_any w (p : Int)
  rw [(onB_iff _).2 ⟨by omega, by omega⟩] at this
  exact this
set_option maxHeartbeats 1000000 in
theorem sScan_gone {k p : Nat} (r : RHo w bh bm base bx v h) (hk : k < 4) (hx : h.g k = some x) (hp : p < 16) (ht : (x.m.lf p).there = false) : Calls Tryz.prog 30 #[.pointer (some ⟨bh, 0, none⟩), .int .i64 (k : Int), .int .i64 (p : Int)] w (SPost w bh bm base bx h ((false, 0), h)) := by
  have HR : Hid (RHo w bh bm base bx v h) := r
  have HW : Hid _ := who_at r hk hx
  have HON : Hid _ := fun w1 => on_yes w1 hp
  have p0 : (0 : Int) ≤ (p : Int) := by omega
  have p1 : (p : Int) < 16 := by omega
  have HX : Hid (h.g k = some x) := hx
  have HT : Hid _ := ht
  clear r hx ht
  go_enter Tryz.func30, Tryz.ntmps30
  go_wp2_with fail
  refine Calls.mono HW.out ?_
  rintro e w1 ⟨rfl, m, hw1⟩
  have hu1 : Upd (fun _ => False) w w1 := by rw [hw1]; exact (Upd.refl _ w).drewN m
  have HU1 : Hid _ := hu1
  have HR1 : Hid (RHo w1 bh bm base bx v h) := HR.out.same hu1
  have c0 := (HR1.out.gu k x HX.out).mp.th p hp
  have c1 := (HR1.out.gu k x HX.out).mp.wr p hp
  have c2 := (HR1.out.gu k x HX.out).mp.fr p hp
  simp only [HT.out] at c0
  obtain ⟨y0, y1, y2, z0, z1, z2⟩ := box0 w1 92
  clear hw1 hu1
  go_wp2_with (go_at_call 39; refine Calls.mono (HON.out _) ?_; rintro e w2 ⟨rfl, hw2⟩; subst hw2)
  go_ret2
  exact ⟨rfl, ⟨v, HR1.out.same ((Upd.refl _ _).alloc _)⟩, (HU1.out.alloc _).wide (fun _ f => f.elim)⟩

theorem hHit_at {fr : Int} {j : Nat} {y : Gs} (hy : h.g (j / 16) = some y) : hHit h fr j = ((y.m.lf (j % 16)).there && h.s.same (y.m.lf (j % 16)).fr fr) := by
  unfold hHit
  rw [row_some hy]
set_option maxHeartbeats 4000000 in
theorem sScan_there {k p : Nat} (r : RHo w bh bm base bx v h) (hi : HInv h W) (hW : W ≤ 1000000) (hk : k < 4) (hx : h.g k = some x) (hp : p < 16) (ht : (x.m.lf p).there = true) : Calls Tryz.prog 30 #[.pointer (some ⟨bh, 0, none⟩), .int .i64 (k : Int), .int .i64 (p : Int)] w (SPost w bh bm base bx h (hScan h k p)) := by
  have HR : Hid (RHo w bh bm base bx v h) := r
  have HI : Hid (HInv h W) := hi
  have HW : Hid _ := who_at r hk hx
  have HON : Hid _ := fun w1 => on_yes w1 hp
  have p0 : (0 : Int) ≤ (p : Int) := by omega
  have p1 : (p : Int) < 16 := by omega
  have HX : Hid (h.g k = some x) := hx
  have HT : Hid _ := ht
  have HSC : Hid (_ ∧ _) := ⟨hScan_no hx hk hp ht, hScan_hit hx hk hp ht⟩
  clear r hx ht hi
  go_enter Tryz.func30, Tryz.ntmps30
  go_wp2_with fail
  refine Calls.mono HW.out ?_
  rintro e w1 ⟨rfl, m, hw1⟩
  have hu1 : Upd (fun _ => False) w w1 := by rw [hw1]; exact (Upd.refl _ w).drewN m
  have HU1 : Hid _ := hu1
  have HR1 : Hid (RHo w1 bh bm base bx v h) := HR.out.same hu1
  have c0 := (HR1.out.gu k x HX.out).mp.th p hp
  have c1 := (HR1.out.gu k x HX.out).mp.wr p hp
  have c2 := (HR1.out.gu k x HX.out).mp.fr p hp
  simp only [HT.out] at c0
  obtain ⟨y0, y1, y2, z0, z1, z2⟩ := box0 w1 92
  have HL : Hid (LfAt (w1.alloc (.cells #[.bool true, .bool (x.m.lf p).wr, .int .i64 (x.m.lf p).fr] 92)) w1.heap.size ⟨true, (x.m.lf p).wr, (x.m.lf p).fr⟩) := LfAt.new w1 92 ⟨true, (x.m.lf p).wr, (x.m.lf p).fr⟩
  have HU2 : Hid (Upd (fun _ => False) w (w1.alloc (.cells #[.bool true, .bool (x.m.lf p).wr, .int .i64 (x.m.lf p).fr] 92))) := HU1.out.alloc _
  have hz : w1.heap.size < (w1.alloc (.cells #[.bool true, .bool (x.m.lf p).wr, .int .i64 (x.m.lf p).fr] 92)).heap.size := by simp
  have hzw := HU1.out.size
  clear hw1 hu1
  go_wp2_with (go_at_call 39; refine Calls.mono (HON.out _) ?_; rintro e w2 ⟨rfl, hw2⟩; subst hw2)
  clear y0 y1 y2 z0 z1 z2 c0 c1 c2 HR1 HU1 HW
  revert HL HU2 hz hzw
  generalize w2.alloc (.cells #[.bool true, .bool (x.m.lf p).wr, .int .i64 (x.m.lf p).fr] 92) = wl
  generalize w2.heap.size = ql
  intro HL HU2 hz hzw
  have wm : IntKind.i64.wrap (16 * (k : Int)) = 16 * (k : Int) := by rw [IntKind.wrap_i64]; omega
  have wa : IntKind.i64.wrap (16 * (k : Int) + (p : Int)) = 16 * (k : Int) + (p : Int) := by rw [IntKind.wrap_i64]; omega
  go_loopg [12] (16 * k + p) (fun g i wr => ∃ j : Nat, j + g = 16 * k + p ∧ i = .int .i64 j ∧ Hid (∀ i, i < j → hHit h (x.m.lf p).fr i = false) ∧ Hid (Upd (fun _ => False) w wr) ∧ Hid (LfAt wr ql ⟨true, (x.m.lf p).wr, (x.m.lf p).fr⟩))
  case atStart => exact ⟨0, by omega, rfl, fun i hi => absurd hi (by omega), HU2.out, HL.out⟩
  case round =>
    obtain ⟨j, hj, rfl, HN, HU, HLj⟩ := hrel
    have HJ : Hid _ := hj
    clear hj
    by_cases hlt : j < 16 * k + p
    · have d : decide ((j : Int) < 16 * (k : Int) + (p : Int)) = true := by simp; omega
      have wd : IntKind.i64.wrap ((j : Int) / 16) = (j : Int) / 16 := by rw [IntKind.wrap_i64]; omega
      have j0 : (0 : Int) ≤ (j : Int) / 16 := by omega
      have j1 : (j : Int) / 16 < 4 := by omega
      have HRj : Hid (RHo wr bh bm base bx v h) := HR.out.same HU.out
      have hj4 : j / 16 < 4 := by omega
      cases hy : h.g (j / 16) with
      | none =>
        have c := HRj.out.cNone hj4 hy
        have HN1 : Hid _ := @hHit_none h (x.m.lf p).fr j hy
        clear hy HRj
        go_wp2_with fail
        go_roundg (16 * k + p - (j + 1))
        case rel =>
          refine ⟨j + 1, by omega, by go_num, fun i hi => ?_, HU.out, HLj.out⟩
          by_cases e : i = j
          · subst e; exact HN1.out
          · exact HN.out i (by omega)
        case measure => have := HJ.out; omega
      | some y =>
        have c := HRj.out.cSome hj4 hy
        have i0 : (0 : Int) ≤ (j : Int) % 16 := by omega
        have i1 : (j : Int) % 16 < 16 := by omega
        have hj16 : j % 16 < 16 := by omega
        have b0 := (HRj.out.gu _ y hy).mp.th (j % 16) hj16
        have b1 := (HRj.out.gu _ y hy).mp.wr (j % 16) hj16
        have b2 := (HRj.out.gu _ y hy).mp.fr (j % 16) hj16
        have HHT : Hid _ := @hHit_at h (x.m.lf p).fr j y hy
        have HY : Hid _ := hy
        obtain ⟨y0, y1, y2, z0, z1, z2⟩ := box0 wr 92
        clear hy
        simp only at b0 b1 b2
        have hwj := HU.out.size
        revert HHT b0 b1 b2
        generalize hyl : y.m.lf (j % 16) = yl
        have HYL : Hid _ := hyl
        clear hyl
        intro b0 b1 b2 HHT
        obtain ⟨yt, yw, yf⟩ := yl
        cases yt with
        | false =>
          go_wp2_with fail
          go_roundg (16 * k + p - (j + 1))
          case rel =>
            refine ⟨j + 1, by omega, by go_num, fun i hi => ?_, HU.out.alloc _, HLj.out.upd ((Upd.refl (fun _ => False) _).alloc _) (fun f => f)⟩
            by_cases e : i = j
            · subst e; exact HHT.out
            · exact HN.out i (by omega)
          case measure => have := HJ.out; omega
        | true =>
          have HXL : Hid (LfAt (wr.alloc (.cells #[.bool true, .bool yw, .int .i64 yf] 92)) wr.heap.size ⟨true, yw, yf⟩) := LfAt.new wr 92 ⟨true, yw, yf⟩
          have HUx : Hid (Upd (fun _ => False) w (wr.alloc (.cells #[.bool true, .bool yw, .int .i64 yf] 92))) := HU.out.alloc _
          have HLx : Hid (LfAt (wr.alloc (.cells #[.bool true, .bool yw, .int .i64 yf] 92)) ql ⟨true, (x.m.lf p).wr, (x.m.lf p).fr⟩) := HLj.out.upd ((Upd.refl (fun _ => False) _).alloc _) (fun f => f)
          have hzx : wr.heap.size < (wr.alloc (.cells #[.bool true, .bool yw, .int .i64 yf] 92)).heap.size := by simp
          go_wp2_with fail
          clear y0 y1 y2 z0 z1 z2 b0 b1 b2 c HRj HU HLj
          revert HXL HUx HLx hzx hwj
          generalize wr.alloc (.cells #[.bool true, .bool yw, .int .i64 yf] 92) = wx
          generalize wr.heap.size = qx
          intro hwj HXL HUx HLx hzx
          have HRx : Hid (RHo wx bh bm base bx v h) := HR.out.same HUx.out
          have HS : Hid _ := rSame_any wx.drew bm yf (x.m.lf p).fr h.s HRx.out.drew.ref
          have e0 := HRx.out.c0
          have e1 := HXL.out.c2
          have e2 := HLx.out.c2
          simp only at e1 e2
          revert HHT HS
          generalize hsm : h.s.same yf (x.m.lf p).fr = sm
          have HSM : Hid _ := hsm
          clear hsm
          intro HHT HS
          go_region_held3 (fun w' => w'.cell? ⟨bh, 0, none⟩ = some (.pointer (some ⟨bm, 0, none⟩)) ∧ w'.cell? ⟨qx, 2, none⟩ = some (.int .i64 yf) ∧ w'.cell? ⟨ql, 2, none⟩ = some (.int .i64 (x.m.lf p).fr)) (first | exact ⟨e0, e1, e2⟩ | exact h4c)
            (first | (go_at_call 41; refine Calls.mono HS.out ?_; rintro e w4 ⟨rfl, m4, rfl⟩; have h4c : (wx.drew.drewN m4).cell? ⟨bh, 0, none⟩ = some (.pointer (some ⟨bm, 0, none⟩)) ∧ (wx.drew.drewN m4).cell? ⟨qx, 2, none⟩ = some (.int .i64 yf) ∧ (wx.drew.drewN m4).cell? ⟨ql, 2, none⟩ = some (.int .i64 (x.m.lf p).fr) := ⟨e0, e1, e2⟩))
          have u4 : Upd (fun _ => False) wx (wx.drewN (1 + m4)) := (Upd.refl (fun _ => False) wx).drewN _
          clear h4c
          cases sm with
          | false =>
            go_wp2_with fail
            go_roundg (16 * k + p - (j + 1))
            case rel =>
              refine ⟨j + 1, by omega, by go_num, fun i hi => ?_, HUx.out.trans u4 (fun _ _ f => f), HLx.out.upd u4 (fun f => f)⟩
              by_cases e : i = j
              · subst e; exact HHT.out
              · exact HN.out i (by omega)
            case measure => have := HJ.out; omega
          | true =>
            have HHF : Hid _ := hFst_at hlt HN.out HHT.out
            by_cases hfe : yf = (x.m.lf p).fr
            · have de : (yf == (x.m.lf p).fr) = true := by simp [hfe]
              go_wp2_with fail
              go_ret2
              rw [HSC.out.2 j HHF.out, row_some HY.out, HYL.out, if_pos hfe]
              exact ⟨rfl, ⟨v, HR.out.same (HUx.out.trans u4 (fun _ _ f => f))⟩, (HUx.out.trans u4 (fun _ _ f => f)).wide (fun _ f => f.elim)⟩
            · have de : (yf == (x.m.lf p).fr) = false := by simp [hfe]
              have HXLd : Hid (LfAt (wx.drewN (1 + m4)) qx ⟨true, yw, yf⟩) := HXL.out.upd u4 (fun f => f)
              have HUxd : Hid (Upd (fun _ => False) w (wx.drewN (1 + m4))) := HUx.out.trans u4 (fun _ _ f => f)
              have hzd : qx < (wx.drewN (1 + m4)).heap.size := Nat.lt_of_lt_of_le hzx u4.size
              go_wp2_with fail
              clear e0 e1 e2 u4 HS HRx HLx HUx HXL hzx
              revert HXLd HUxd hzd
              generalize wx.drewN (1 + m4) = wd0
              intro HXLd HUxd hzd
              have HB : Hid (∀ i z, h.g i = some z → bx i < qx) := fun i z hz => Nat.lt_of_lt_of_le (HR.out.gu i z hz).mp.lt hwj
              have hbm := Nat.lt_of_lt_of_le HR.out.lt.2 hwj
              go_loopg [16] 64 (fun g s wr => ∃ (i : Nat) (v' : Nat → Value), i + g = 64 ∧ s = .int .i64 i ∧ Hid (RHo wr bh bm base bx v' (hSealTo h yf i)) ∧ Hid (Upd (RFt bh bm bx h) w wr) ∧ Hid (LfAt wr qx ⟨true, yw, yf⟩))
              case atStart => exact ⟨0, v, by omega, rfl, by rw [sealTo_zero]; exact HR.out.same HUxd.out, HUxd.out.wide (fun _ f => f.elim), HXLd.out⟩
              case round =>
                obtain ⟨i, v', hi64, rfl, HRi, HUi, HXi⟩ := hrel
                have HI64 : Hid _ := hi64
                clear hi64
                have f2 := HXi.out.c2
                simp only at f2
                by_cases hil : i < 64
                · have wdi : IntKind.i64.wrap ((i : Int) / 16) = (i : Int) / 16 := by rw [IntKind.wrap_i64]; omega
                  have q0 : (0 : Int) ≤ (i : Int) / 16 := by omega
                  have q1 : (i : Int) / 16 < 4 := by omega
                  have q2 : (0 : Int) ≤ (i : Int) % 16 := by omega
                  have q3 : (i : Int) % 16 < 16 := by omega
                  have hi4 : i / 16 < 4 := by omega
                  have hi16 : i % 16 < 16 := by omega
                  cases hz0 : h.g (i / 16) with
                  | none =>
                    have cz := HRi.out.cNone hi4 (by show (h.g (i / 16)).map _ = none; rw [hz0]; rfl)
                    have HSN : Hid _ := sealTo_none h yf hz0
                    clear hz0
                    go_wp2_with fail
                    go_quiet (fail)
                    go_wp2_with fail
                    go_roundg (64 - (i + 1))
                    case rel => exact ⟨i + 1, v', by omega, by go_num, by rw [HSN.out]; exact HRi.out.same ((Upd.refl _ _).drewN nq), HUi.out.drewN nq, HXi.out.upd ((Upd.refl (fun _ => False) _).drewN nq) (fun f => f)⟩
                    case measure => have := HI64.out; omega
                  | some z =>
                    have hat := sealTo_at h yf i hz0
                    have cz := HRi.out.cSome hi4 hat
                    have g0 := (HRi.out.gu _ _ hat).mp.th (i % 16) hi16
                    have g2 := (HRi.out.gu _ _ hat).mp.fr (i % 16) hi16
                    simp only at g0 g2
                    rw [(sealTo_leaf z.m (16 * (i / 16)) yf i (i % 16)).1] at g0
                    rw [(sealTo_leaf z.m (16 * (i / 16)) yf i (i % 16)).2] at g2
                    have HZ : Hid (h.g (i / 16) = some z) := hz0
                    have HAT : Hid _ := hat
                    clear hz0 hat
                    by_cases hzt : (z.m.lf (i % 16)).there = true
                    · rw [hzt] at g0
                      by_cases hzf : (z.m.lf (i % 16)).fr = yf
                      · have df : ((z.m.lf (i % 16)).fr == yf) = true := by simp [hzf]
                        have HSS : Hid _ := sealTo_step h yf HZ.out hzt hzf
                        have hne : ¬ (qx = bm ∨ qx = bx (i / 16)) := by have := HB.out _ _ HZ.out; omega
                        have HNE : Hid _ := hne
                        clear hzt hzf hne
                        go_wp2_with fail
                        go_quiet (fail)
                        have HC : Hid _ := (HRi.out.same ((Upd.refl (fun _ => False) wr).drewN nq)).go (HI.out.sealTo yf i) hW HAT.out (fun _ p => p.seal ((i % 16 : Nat) : Int))
                        have hne : ¬ (qx = bm ∨ qx = bx (i / 16)) := HNE.out
                        clear HNE
                        go_wp2_with fail
                        refine Calls.mono HC.out ?_
                        rintro e w5 ⟨rfl, ⟨v5, hr5⟩, hu5⟩
                        rw [show (hSealTo h yf i).s = h.s from rfl, HSS.out] at hr5
                        have HR5 : Hid (RHo w5 bh bm base bx v5 (hSealTo h yf (i + 1))) := hr5
                        have HU5 : Hid _ := upd_ft (HUi.out.drewN nq) HZ.out hu5
                        have HX5 : Hid (LfAt w5 qx ⟨true, yw, yf⟩) := (HXi.out.upd ((Upd.refl (fun _ => False) _).drewN nq) (fun f => f)).upd hu5 hne
                        clear hr5 hu5 HC
                        go_wp2_with fail
                        go_roundg (64 - (i + 1))
                        case rel => exact ⟨i + 1, v5, by omega, by go_num, HR5.out, HU5.out, HX5.out⟩
                        case measure => have := HI64.out; omega
                      · have df : ((z.m.lf (i % 16)).fr == yf) = false := by simp [hzf]
                        have HSS : Hid _ := sealTo_skip h yf HZ.out (fun c => hzf c.2)
                        clear hzt hzf
                        go_wp2_with fail
                        go_quiet (fail)
                        go_wp2_with fail
                        go_roundg (64 - (i + 1))
                        case rel => exact ⟨i + 1, v', by omega, by go_num, by rw [HSS.out]; exact HRi.out.same ((Upd.refl _ _).drewN nq), HUi.out.drewN nq, HXi.out.upd ((Upd.refl (fun _ => False) _).drewN nq) (fun f => f)⟩
                        case measure => have := HI64.out; omega
                    · have hzt' : (z.m.lf (i % 16)).there = false := by simpa using hzt
                      rw [hzt'] at g0
                      have HSS : Hid _ := sealTo_skip h yf HZ.out (fun c => hzt c.1)
                      clear hzt hzt'
                      go_wp2_with fail
                      go_quiet (fail)
                      go_wp2_with fail
                      go_roundg (64 - (i + 1))
                      case rel => exact ⟨i + 1, v', by omega, by go_num, by rw [HSS.out]; exact HRi.out.same ((Upd.refl _ _).drewN nq), HUi.out.drewN nq, HXi.out.upd ((Upd.refl (fun _ => False) _).drewN nq) (fun f => f)⟩
                      case measure => have := HI64.out; omega
                · obtain rfl : i = 64 := by have := HI64.out; omega
                  have hat := sealTo_at h yf 64 HX.out
                  have HHA : Hid (hAt (hSealTo h yf 64) k = { x with m := sealOf x.m (16 * k) yf 64 }) := (hWho_some hat hk).2
                  have HC : Hid _ := HRi.out.drew.go (HI.out.sealTo yf 64) hW hat (fun _ q => q.join (p : Int) yf)
                  have hne : ¬ (qx = bm ∨ qx = bx k) := by have := HB.out _ _ HX.out; omega
                  have HNE : Hid _ := hne
                  clear hat hne
                  go_wp2_with fail
                  go_region_held3 (fun w' => w'.cell? ⟨qx, 2, none⟩ = some (.int .i64 yf)) (first | exact f2 | exact h5c)
                    (first | (go_at_call 43; refine Calls.mono HC.out ?_; rintro e w5 ⟨rfl, ⟨v5, hr5⟩, hu5⟩; have HR5 : Hid _ := hr5; have HU5 : Hid _ := upd_ft HUi.out.drew HX.out hu5; have h5c : w5.cell? ⟨qx, 2, none⟩ = some (.int .i64 yf) := hu5.cell (by exact f2) HNE.out; clear hr5 hu5))
                  go_wp2_with fail
                  go_ret2
                  rw [HSC.out.2 j HHF.out, row_some HY.out, HYL.out, if_neg hfe, HHA.out]
                  exact ⟨rfl, ⟨v5, HR5.out⟩, HU5.out⟩
    · obtain rfl : j = 16 * k + p := by have := HJ.out; omega
      have d : decide (((16 * k + p : Nat) : Int) < 16 * (k : Int) + (p : Int)) = false := by simp
      go_wp2_with fail
      go_ret2
      rw [HSC.out.1 (hFst_non HN.out)]
      exact ⟨rfl, ⟨v, HR.out.same HU.out⟩, HU.out.wide (fun _ f => f.elim)⟩
end Go.Proofs.YtadpibcgjgcjhabGreatDoor
