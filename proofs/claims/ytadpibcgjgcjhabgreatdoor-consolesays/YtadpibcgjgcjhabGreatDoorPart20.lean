/- The document's host: Scan. -/
import Derived.Test.YtadpibcgjgcjhabGreatDoorPart19
import Derived.Test.YtadpibcgjgcjhabGreatDoorPart15
import Derived.Test.YtadpibcgjgcjhabGreatDoorPart16
import Derived.Test.YtadpibcgjgcjhabGreatDoorPart17
import Derived.Test.YtadpibcgjgcjhabGreatDoorPart03
import Derived.Test.YtadpibcgjgcjhabGreatDoorPart18
import Derived.Test.YtadpibcgjgcjhabGreatDoorPart01
namespace Go.Proofs.YtadpibcgjgcjhabGreatDoor
open Go.ChangeShapes Go.WideShapes Go.ChangeAt Go.RowKit
set_option maxRecDepth 100000
attribute [local go_sem ↓] Go.wp_at_zero Go.wp_at_succ
variable {w w' : World} {bh bm base : Nat} {bx : Nat → Nat} {v : Nat → Value} {h : Hs} {x : Gs} {s' : Pl} {x' : Gs} {W : Int}

theorem on_yes (w : World) {p : Nat} (hp : p < 16) : Calls Tryz.prog 39 #[.int .i64 (p : Int)] w fun e w' => e = .returned (.bool true) ∧ w' = w := by
  have := on_any w (p : Int)
  rw [(onB_iff _).2 ⟨by omega, by omega⟩] at this
  exact this
set_option maxHeartbeats 1000000 in
theorem sScan_gone {k p : Nat} (r : RHo w bh bm base bx v h) (hk : k < 4) (hx : h.g k = some x) (hp : p < 16) (ht : (x.m.lf p).there = false) : Calls Tryz.prog 30 #[.pointer (some ⟨bh, 0, none⟩), .int .i64 (k : Int), .int .i64 (p : Int)] w (SPost w bh bm base bx h ((false, 0), h)) := by
  have HR : Hid (RHo w bh bm base bx v h) := r
  have HW : Hid _ := who_at r hk hx
  have HON : Hid _ := fun w1 => on_yes w1 hp
  have p0 : (0 : Int) ≤ (p : Int) := by omega
  have p1 : (p : Int) < 16 := by omega
  have HX : Hid (h.g k = some x) := hx
  have HT : Hid _ := ht
  clear r hx ht
  go_enter Tryz.func30, Tryz.ntmps30
  go_wp2_with fail
  refine Calls.mono HW.out ?_
  rintro e w1 ⟨rfl, m, hw1⟩
  have hu1 : Upd (fun _ => False) w w1 := by rw [hw1]; exact (Upd.refl _ w).drewN m
  have HU1 : Hid _ := hu1
  have HR1 : Hid (RHo w1 bh bm base bx v h) := HR.out.same hu1
  have c0 := (HR1.out.gu k x HX.out).mp.th p hp
  have c1 := (HR1.out.gu k x HX.out).mp.wr p hp
  have c2 := (HR1.out.gu k x HX.out).mp.fr p hp
  simp only [HT.out] at c0
  obtain ⟨y0, y1, y2, z0, z1, z2⟩ := box0 w1 92
  clear hw1 hu1
  go_wp2_with (go_at_call 39; refine Calls.mono (HON.out _) ?_; rintro e w2 ⟨rfl, hw2⟩; subst hw2)
  go_ret2
  exact ⟨rfl, ⟨v, HR1.out.same ((Upd.refl _ _).alloc _)⟩, (HU1.out.alloc _).wide (fun _ f => f.elim)⟩

theorem hHit_at {fr : Int} {j : Nat} {y : Gs} (hy : h.g (j / 16) = some y) : hHit h fr j = ((y.m.lf (j % 16)).there && h.s.same (y.m.lf (j % 16)).fr fr) := by
  unfold hHit
  rw [row_some hy]
set_option maxHeartbeats 4000000 in
theorem sScan_there {k p : Nat} (r : RHo w bh bm base bx v h) (hi : HInv h W) (hW : W ≤ 1000000) (hk : k < 4) (hx : h.g k = some x) (hp : p < 16) (ht : (x.m.lf p).there = true) : Calls Tryz.prog 30 #[.pointer (some ⟨bh, 0, none⟩), .int .i64 (k : Int), .int .i64 (p : Int)] w (SPost w bh bm base bx h (hScan h k p)) := by
  have HR : Hid (RHo w bh bm base bx v h) := r
  have HI : Hid (HInv h W) := hi
  have HW : Hid _ := who_at r hk hx
  have HON : Hid _ := fun w1 => on_yes w1 hp
  have p0 : (0 : Int) ≤ (p : Int) := by omega
  have p1 : (p : Int) < 16 := by omega
  have HX : Hid (h.g k = some x) := hx
  have HT : Hid _ := ht
  have HSC : Hid (_ ∧ _) := ⟨hScan_no hx hk hp ht, hScan_hit hx hk hp ht⟩
  clear r hx ht hi
  go_enter Tryz.func30, Tryz.ntmps30
  go_wp2_with fail
  refine Calls.mono HW.out ?_
  rintro e w1 ⟨rfl, m, hw1⟩
  have hu1 : Upd (fun _ => False) w w1 := by rw [hw1]; exact (Upd.refl _ w).drewN m
  have HU1 : Hid _ := hu1
  have HR1 : Hid (RHo w1 bh bm base bx v h) := HR.out.same hu1
  have c0 := (HR1.out.gu k x HX.out).mp.th p hp
  have c1 := (HR1.out.gu k x HX.out).mp.wr p hp
  have c2 := (HR1.out.gu k x HX.out).mp.fr p hp
  simp only [HT.out] at c0
  obtain ⟨y0, y1, y2, z0, z1, z2⟩ := box0 w1 92
  have HL : Hid (LfAt (w1.alloc (.cells #[.bool true, .bool (x.m.lf p).wr, .int .i64 (x.m.lf p).fr] 92)) w1.heap.size ⟨true, (x.m.lf p).wr, (x.m.lf p).fr⟩) := LfAt.new w1 92 ⟨true, (x.m.lf p).wr, (x.m.lf p).fr⟩
  have HU2 : Hid (Upd (fun _ => False) w (w1.alloc (.cells #[.bool true, .bool (x.m.lf p).wr, .int .i64 (x.m.lf p).fr] 92))) := HU1.out.alloc _
  have hz : w1.heap.size < (w1.alloc (.cells #[.bool true, .bool (x.m.lf p).wr, .int .i64 (x.m.lf p).fr] 92)).heap.size := by simp
  have hzw := HU1.out.size
  clear hw1 hu1
  go_wp2_with (go_at_call 39; refine Calls.mono (HON.out _) ?_; rintro e w2 ⟨rfl, hw2⟩; subst hw2)
  clear y0 y1 y2 z0 z1 z2 c0 c1 c2 HR1 HU1 HW
  revert HL HU2 hz hzw
  generalize w2.alloc (.cells #[.bool true, .bool (x.m.lf p).wr, .int .i64 (x.m.lf p).fr] 92) = wl
  generalize w2.heap.size = ql
  intro HL HU2 hz hzw
  have wm : IntKind.i64.wrap (16 * (k : Int)) = 16 * (k : Int) := by rw [IntKind.wrap_i64]; omega
  have wa : IntKind.i64.wrap (16 * (k : Int) + (p : Int)) = 16 * (k : Int) + (p : Int) := by rw [IntKind.wrap_i64]; omega
  go_loopg [12] (16 * k + p) (fun g i wr => ∃ j : Nat, j + g = 16 * k + p ∧ i = .int .i64 j ∧ Hid (∀ i, i < j → hHit h (x.m.lf p).fr i = false) ∧ Hid (Upd (fun _ => False) w wr) ∧ Hid (LfAt wr ql ⟨true, (x.m.lf p).wr, (x.m.lf p).fr⟩))
  case atStart => exact ⟨0, by omega, rfl, fun i hi => absurd hi (by omega), HU2.out, HL.out⟩
  case round =>
    obtain ⟨j, hj, rfl, HN, HU, HLj⟩ := hrel
    have HJ : Hid _ := hj
    clear hj
    by_cases hlt : j < 16 * k + p
    · have d : decide ((j : Int) < 16 * (k : Int) + (p : Int)) = true := by simp; omega
      have wd : IntKind.i64.wrap ((j : Int) / 16) = (j : Int) / 16 := by rw [IntKind.wrap_i64]; omega
      have j0 : (0 : Int) ≤ (j : Int) / 16 := by omega
      have j1 : (j : Int) / 16 < 4 := by omega
      have HRj : Hid (RHo wr bh bm base bx v h) := HR.out.same HU.out
      have hj4 : j / 16 < 4 := by omega
      cases hy : h.g (j / 16) with
      | none =>
        have c := HRj.out.cNone hj4 hy
        have HN1 : Hid _ := @hHit_none h (x.m.lf p).fr j hy
        clear hy HRj
        go_wp2_with fail
        go_roundg (16 * k + p - (j + 1))
        case rel =>
          refine ⟨j + 1, by omega, by go_num, fun i hi => ?_, HU.out, HLj.out⟩
          by_cases e : i = j
          · subst e; exact HN1.out
          · exact HN.out i (by omega)
        case measure => have := HJ.out; omega
      | some y =>
        have c := HRj.out.cSome hj4 hy
        have i0 : (0 : Int) ≤ (j : Int) % 16 := by omega
        have i1 : (j : Int) % 16 < 16 := by omega
        have hj16 : j % 16 < 16 := by omega
        have b0 := (HRj.out.gu _ y hy).mp.th (j % 16) hj16
        have b1 := (HRj.out.gu _ y hy).mp.wr (j % 16) hj16
        have b2 := (HRj.out.gu _ y hy).mp.fr (j % 16) hj16
        have HHT : Hid _ := @hHit_at h (x.m.lf p).fr j y hy
        have HY : Hid _ := hy
        obtain ⟨y0, y1, y2, z0, z1, z2⟩ := box0 wr 92
        clear hy
        simp only at b0 b1 b2
        have hwj := HU.out.size
        revert HHT b0 b1 b2
        generalize hyl : y.m.lf (j % 16) = yl
        have HYL : Hid _ := hyl
        clear hyl
        intro b0 b1 b2 HHT
        obtain ⟨yt, yw, yf⟩ := yl
        cases yt with
        | false =>
          go_wp2_with fail
          go_roundg (16 * k + p - (j + 1))
          case rel =>
            refine ⟨j + 1, by omega, by go_num, fun i hi => ?_, HU.out.alloc _, HLj.out.upd ((Upd.refl (fun _ => False) _).alloc _) (fun f => f)⟩
            by_cases e : i = j
            · subst e; exact HHT.out
            · exact HN.out i (by omega)
          case measure => have := HJ.out; omega
        | true =>
          have HXL : Hid (LfAt (wr.alloc (.cells #[.bool true, .bool yw, .int .i64 yf] 92)) wr.heap.size ⟨true, yw, yf⟩) := LfAt.new wr 92 ⟨true, yw, yf⟩
          have HUx : Hid (Upd (fun _ => False) w (wr.alloc (.cells #[.bool true, .bool yw, .int .i64 yf] 92))) := HU.out.alloc _
          have HLx : Hid (LfAt (wr.alloc (.cells #[.bool true, .bool yw, .int .i64 yf] 92)) ql ⟨true, (x.m.lf p).wr, (x.m.lf p).fr⟩) := HLj.out.upd ((Upd.refl (fun _ => False) _).alloc _) (fun f => f)
          have hzx : wr.heap.size < (wr.alloc (.cells #[.bool true, .bool yw, .int .i64 yf] 92)).heap.size := by simp
          go_wp2_with fail
          clear y0 y1 y2 z0 z1 z2 b0 b1 b2 c HRj HU HLj
          revert HXL HUx HLx hzx hwj
          generalize wr.alloc (.cells #[.bool true, .bool yw, .int .i64 yf] 92) = wx
          generalize wr.heap.size = qx
          intro hwj HXL HUx HLx hzx
          have HRx : Hid (RHo wx bh bm base bx v h) := HR.out.same HUx.out
          have HS : Hid _ := rSame_any wx.drew bm yf (x.m.lf p).fr h.s HRx.out.drew.ref
          have e0 := HRx.out.c0
          have e1 := HXL.out.c2
          have e2 := HLx.out.c2
          simp only at e1 e2
          revert HHT HS
          generalize hsm : h.s.same yf (x.m.lf p).fr = sm
          have HSM : Hid _ := hsm
          clear hsm
          intro HHT HS
          go_region_held3 (fun w' => w'.cell? ⟨bh, 0, none⟩ = some (.pointer (some ⟨bm, 0, none⟩)) ∧ w'.cell? ⟨qx, 2, none⟩ = some (.int .i64 yf) ∧ w'.cell? ⟨ql, 2, none⟩ = some (.int .i64 (x.m.lf p).fr)) (first | exact ⟨e0, e1, e2⟩ | exact h4c)
            (first | (go_at_call 41; refine Calls.mono HS.out ?_; rintro e w4 ⟨rfl, m4, rfl⟩; have h4c : (wx.drew.drewN m4).cell? ⟨bh, 0, none⟩ = some (.pointer (some ⟨bm, 0, none⟩)) ∧ (wx.drew.drewN m4).cell? ⟨qx, 2, none⟩ = some (.int .i64 yf) ∧ (wx.drew.drewN m4).cell? ⟨ql, 2, none⟩ = some (.int .i64 (x.m.lf p).fr) := ⟨e0, e1, e2⟩))
          have u4 : Upd (fun _ => False) wx (wx.drewN (1 + m4)) := (Upd.refl (fun _ => False) wx).drewN _
          clear h4c
          cases sm with
          | false =>
            go_wp2_with fail
            go_roundg (16 * k + p - (j + 1))
            case rel =>
              refine ⟨j + 1, by omega, by go_num, fun i hi => ?_, HUx.out.trans u4 (fun _ _ f => f), HLx.out.upd u4 (fun f => f)⟩
              by_cases e : i = j
              · subst e; exact HHT.out
              · exact HN.out i (by omega)
            case measure => have := HJ.out; omega
          | true =>
            have HHF : Hid _ := hFst_at hlt HN.out HHT.out
            by_cases hfe : yf = (x.m.lf p).fr
            · have de : (yf == (x.m.lf p).fr) = true := by simp [hfe]
              go_wp2_with fail
              go_ret2
              rw [HSC.out.2 j HHF.out, row_some HY.out, HYL.out, if_pos hfe]
              exact ⟨rfl, ⟨v, HR.out.same (HUx.out.trans u4 (fun _ _ f => f))⟩, (HUx.out.trans u4 (fun _ _ f => f)).wide (fun _ f => f.elim)⟩
            · have de : (yf == (x.m.lf p).fr) = false := by simp [hfe]
              have HXLd : Hid (LfAt (wx.drewN (1 + m4)) qx ⟨true, yw, yf⟩) := HXL.out.upd u4 (fun f => f)
              have HUxd : Hid (Upd (fun _ => False) w (wx.drewN (1 + m4))) := HUx.out.trans u4 (fun _ _ f => f)
              have hzd : qx < (wx.drewN (1 + m4)).heap.size := Nat.lt_of_lt_of_le hzx u4.size
              go_wp2_with fail
              clear e0 e1 e2 u4 HS HRx HLx HUx HXL hzx
              revert HXLd HUxd hzd
              generalize wx.drewN (1 + m4) = wd0
              intro HXLd HUxd hzd
              have HB : Hid (∀ i z, h.g i = some z → bx i < qx) := fun i z hz => Nat.lt_of_lt_of_le (HR.out.gu i z hz).mp.lt hwj
              have hbm := Nat.lt_of_lt_of_le HR.out.lt.2 hwj
              go_loopg [16] 64 (fun g s wr => ∃ (i : Nat) (v' : Nat → Value), i + g = 64 ∧ s = .int .i64 i ∧ Hid (RHo wr bh bm base bx v' (hSealTo h yf i)) ∧ Hid (Upd (RFt bh bm bx h) w wr) ∧ Hid (LfAt wr qx ⟨true, yw, yf⟩))
              case atStart => exact ⟨0, v, by omega, rfl, by rw [sealTo_zero]; exact HR.out.same HUxd.out, HUxd.out.wide (fun _ f => f.elim), HXLd.out⟩
              case round =>
                obtain ⟨i, v', hi64, rfl, HRi, HUi, HXi⟩ := hrel
                have HI64 : Hid _ := hi64
                clear hi64
                have f2 := HXi.out.c2
                simp only at f2
                by_cases hil : i < 64
                · have wdi : IntKind.i64.wrap ((i : Int) / 16) = (i : Int) / 16 := by rw [IntKind.wrap_i64]; omega
                  have q0 : (0 : Int) ≤ (i : Int) / 16 := by omega
                  have q1 : (i : Int) / 16 < 4 := by omega
                  have q2 : (0 : Int) ≤ (i : Int) % 16 := by omega
                  have q3 : (i : Int) % 16 < 16 := by omega
                  have hi4 : i / 16 < 4 := by omega
                  have hi16 : i % 16 < 16 := by omega
                  cases hz0 : h.g (i / 16) with
                  | none =>
                    have cz := HRi.out.cNone hi4 (by show (h.g (i / 16)).map _ = none; rw [hz0]; rfl)
                    have HSN : Hid _ := sealTo_none h yf hz0
                    clear hz0
                    go_wp2_with fail
                    go_quiet (fail)
                    go_wp2_with fail
                    go_roundg (64 - (i + 1))
                    case rel => exact ⟨i + 1, v', by omega, by go_num, by rw [HSN.out]; exact HRi.out.same ((Upd.refl _ _).drewN nq), HUi.out.drewN nq, HXi.out.upd ((Upd.refl (fun _ => False) _).drewN nq) (fun f => f)⟩
                    case measure => have := HI64.out; omega
                  | some z =>
                    have hat := sealTo_at h yf i hz0
                    have cz := HRi.out.cSome hi4 hat
                    have g0 := (HRi.out.gu _ _ hat).mp.th (i % 16) hi16
                    have g2 := (HRi.out.gu _ _ hat).mp.fr (i % 16) hi16
                    simp only at g0 g2
                    rw [(sealTo_leaf z.m (16 * (i / 16)) yf i (i % 16)).1] at g0
                    rw [(sealTo_leaf z.m (16 * (i / 16)) yf i (i % 16)).2] at g2
                    have HZ : Hid (h.g (i / 16) = some z) := hz0
                    have HAT : Hid _ := hat
                    clear hz0 hat
                    by_cases hzt : (z.m.lf (i % 16)).there = true
                    · rw [hzt] at g0
                      by_cases hzf : (z.m.lf (i % 16)).fr = yf
                      · have df : ((z.m.lf (i % 16)).fr == yf) = true := by simp [hzf]
                        have HSS : Hid _ := sealTo_step h yf HZ.out hzt hzf
                        have hne : ¬ (qx = bm ∨ qx = bx (i / 16)) := by have := HB.out _ _ HZ.out; omega
                        have HNE : Hid _ := hne
                        clear hzt hzf hne
                        go_wp2_with fail
                        go_quiet (fail)
                        have HC : Hid _ := (HRi.out.same ((Upd.refl (fun _ => False) wr).drewN nq)).go (HI.out.sealTo yf i) hW HAT.out (fun _ p => p.seal ((i % 16 : Nat) : Int))
                        have hne : ¬ (qx = bm ∨ qx = bx (i / 16)) := HNE.out
                        clear HNE
                        go_wp2_with fail
                        refine Calls.mono HC.out ?_
                        rintro e w5 ⟨rfl, ⟨v5, hr5⟩, hu5⟩
                        rw [show (hSealTo h yf i).s = h.s from rfl, HSS.out] at hr5
                        have HR5 : Hid (RHo w5 bh bm base bx v5 (hSealTo h yf (i + 1))) := hr5
                        have HU5 : Hid _ := upd_ft (HUi.out.drewN nq) HZ.out hu5
                        have HX5 : Hid (LfAt w5 qx ⟨true, yw, yf⟩) := (HXi.out.upd ((Upd.refl (fun _ => False) _).drewN nq) (fun f => f)).upd hu5 hne
                        clear hr5 hu5 HC
                        go_wp2_with fail
                        go_roundg (64 - (i + 1))
                        case rel => exact ⟨i + 1, v5, by omega, by go_num, HR5.out, HU5.out, HX5.out⟩
                        case measure => have := HI64.out; omega
                      · have df : ((z.m.lf (i % 16)).fr == yf) = false := by simp [hzf]
                        have HSS : Hid _ := sealTo_skip h yf HZ.out (fun c => hzf c.2)
                        clear hzt hzf
                        go_wp2_with fail
                        go_quiet (fail)
                        go_wp2_with fail
                        go_roundg (64 - (i + 1))
                        case rel => exact ⟨i + 1, v', by omega, by go_num, by rw [HSS.out]; exact HRi.out.same ((Upd.refl _ _).drewN nq), HUi.out.drewN nq, HXi.out.upd ((Upd.refl (fun _ => False) _).drewN nq) (fun f => f)⟩
                        case measure => have := HI64.out; omega
                    · have hzt' : (z.m.lf (i % 16)).there = false := by simpa using hzt
                      rw [hzt'] at g0
                      have HSS : Hid _ := sealTo_skip h yf HZ.out (fun c => hzt c.1)
                      clear hzt hzt'
                      go_wp2_with fail
                      go_quiet (fail)
                      go_wp2_with fail
                      go_roundg (64 - (i + 1))
                      case rel => exact ⟨i + 1, v', by omega, by go_num, by rw [HSS.out]; exact HRi.out.same ((Upd.refl _ _).drewN nq), HUi.out.drewN nq, HXi.out.upd ((Upd.refl (fun _ => False) _).drewN nq) (fun f => f)⟩
                      case measure => have := HI64.out; omega
                · obtain rfl : i = 64 := by have := HI64.out; omega
                  have hat := sealTo_at h yf 64 HX.out
                  have HHA : Hid (hAt (hSealTo h yf 64) k = { x with m := sealOf x.m (16 * k) yf 64 }) := (hWho_some hat hk).2
                  have HC : Hid _ := HRi.out.drew.go (HI.out.sealTo yf 64) hW hat (fun _ q => q.join (p : Int) yf)
                  have hne : ¬ (qx = bm ∨ qx = bx k) := by have := HB.out _ _ HX.out; omega
                  have HNE : Hid _ := hne
                  clear hat hne
                  go_wp2_with fail
                  go_region_held3 (fun w' => w'.cell? ⟨qx, 2, none⟩ = some (.int .i64 yf)) (first | exact f2 | exact h5c)
                    (first | (go_at_call 43; refine Calls.mono HC.out ?_; rintro e w5 ⟨rfl, ⟨v5, hr5⟩, hu5⟩; have HR5 : Hid _ := hr5; have HU5 : Hid _ := upd_ft HUi.out.drew HX.out hu5; have h5c : w5.cell? ⟨qx, 2, none⟩ = some (.int .i64 yf) := hu5.cell (by exact f2) HNE.out; clear hr5 hu5))
                  go_wp2_with fail
                  go_ret2
                  rw [HSC.out.2 j HHF.out, row_some HY.out, HYL.out, if_neg hfe, HHA.out]
                  exact ⟨rfl, ⟨v5, HR5.out⟩, HU5.out⟩
    · obtain rfl : j = 16 * k + p := by have := HJ.out; omega
      have d : decide (((16 * k + p : Nat) : Int) < 16 * (k : Int) + (p : Int)) = false := by simp
      go_wp2_with fail
      go_ret2
      rw [HSC.out.1 (hFst_non HN.out)]
      exact ⟨rfl, ⟨v, HR.out.same HU.out⟩, HU.out.wide (fun _ f => f.elim)⟩
end Go.Proofs.YtadpibcgjgcjhabGreatDoor
/- The document's host: Scan, ScanAll. -/
namespace Go.Proofs.YtadpibcgjgcjhabGreatDoor
open Go.ChangeShapes Go.WideShapes Go.ChangeAt Go.RowKit
set_option maxRecDepth 100000
attribute [local go_sem ↓] Go.wp_at_zero Go.wp_at_succ
variable {w w' : World} {bh bm base : Nat} {bx : Nat → Nat} {v : Nat → Value} {h h' : Hs} {x : Gs} {s' : Pl} {x' : Gs} {W : Int} {t : Nat → Nat → Int} {F : Nat → Option Fl}

theorem rScan_any (r : RHo w bh bm base bx v h) (hi : HInv h W) (hW : W ≤ 1000000) (n p : Int) : Calls Tryz.prog 30 #[.pointer (some ⟨bh, 0, none⟩), .int .i64 n, .int .i64 p] w (SPost w bh bm base bx h (hScan h n p)) := by
  by_cases h0 : 0 < hWho h n
  · rw [hScan_wrong p h0]
    exact sScan_no r n p h0
  · obtain ⟨k, x, rfl, hk, hx, hat⟩ := hWho_zero (show hWho h n = 0 by have := hWho_le (h := h) n; omega)
    cases hp : onB p with
    | false =>
      rw [hScan_off hx hk hp]
      exact sScan_off r hk hx p hp
    | true =>
      obtain ⟨p0, p1⟩ := (onB_iff p).1 hp
      obtain ⟨q, rfl⟩ := Int.eq_ofNat_of_zero_le p0
      have hq : q < 16 := by omega
      cases ht : (x.m.lf q).there with
      | false =>
        rw [hScan_gone hx hk hq ht]
        exact sScan_gone r hk hx hq ht
      | true => exact sScan_there r hi hW hk hx hq ht
theorem rft_of {k : Nat} (hn : ∀ i, h'.g i = none ↔ h.g i = none) (hk : RFt bh bm bx h' k) : RFt bh bm bx h k := by
  rcases hk with e | e | ⟨i, y, hy, e⟩
  · exact Or.inl e
  · exact Or.inr (Or.inl e)
  · cases hx : h.g i with
    | none => have := (hn i).2 hx; rw [hy] at this; cases this
    | some x => exact Or.inr (Or.inr ⟨i, x, hx, e⟩)
set_option maxHeartbeats 1000000 in
theorem rScanAll_any (r : RHo w bh bm base bx v h) (hf : HF h t F W) (hW : W ≤ 1000000) : Calls Tryz.prog 19 #[.pointer (some ⟨bh, 0, none⟩)] w (HPost w bh bm base bx h (hScanTo h 64)) := by
  have HR : Hid (RHo w bh bm base bx v h) := r
  have HHF : Hid (HF h t F W) := hf
  clear r hf
  go_enter Tryz.func19, Tryz.ntmps19
  go_wp2_with fail
  go_loopg [3, 4] 64 (fun g c i wr => ∃ (k : Nat) (v' : Nat → Value), k + g = 64 ∧ i = .int .i64 k ∧ c = .int .i64 (hScanTo h k).1 ∧ Hid (RHo wr bh bm base bx v' (hScanTo h k).2) ∧ Hid (Upd (RFt bh bm bx h) w wr))
  case atStart => exact ⟨0, v, by omega, rfl, rfl, HR.out, Upd.refl _ _⟩
  case round =>
    obtain ⟨k, v', hk, rfl, rfl, HRk, HU⟩ := hrel
    have HK : Hid _ := hk
    clear hk
    by_cases hlt : k < 64
    · obtain ⟨hs1, _, _, hs4, _, hs6, hs7, _⟩ := HHF.out.scans k (by omega)
      have HS4 : Hid _ := hs4
      have HST : Hid (hScanTo h (k + 1) = ((hScanTo h k).1 + (if (hScan (hScanTo h k).2 ((k / 16 : Nat) : Int) ((k % 16 : Nat) : Int)).1.1 = true then 1 else 0), (hScan (hScanTo h k).2 ((k / 16 : Nat) : Int) ((k % 16 : Nat) : Int)).2)) := rfl
      have hs := rScan_any HRk.out hs1.hr.inv hW ((k / 16 : Nat) : Int) ((k % 16 : Nat) : Int)
      unfold SPost at hs
      revert hs HST
      generalize hScan (hScanTo h k).2 ((k / 16 : Nat) : Int) ((k % 16 : Nat) : Int) = r
      obtain ⟨⟨r1, r2⟩, r3⟩ := r
      simp only
      intro HST hs
      have HS : Hid _ := hs
      have wd : IntKind.i64.wrap ((k : Int) / 16) = (k : Int) / 16 := by rw [IntKind.wrap_i64]; omega
      clear hs hs1 hs4 HRk
      generalize (hScanTo h k).1 = cnt at *
      go_wp2_with fail
      refine Calls.mono HS.out ?_
      rintro e w2 ⟨rfl, ⟨v2, hr2⟩, hu2⟩
      have HR2 : Hid (RHo w2 bh bm base bx v2 r3) := hr2
      have HU2 : Hid (Upd (RFt bh bm bx h) w w2) := HU.out.trans hu2 (fun i _ e => rft_of HS4.out e)
      clear hr2 hu2 HS
      cases r1 with
      | true =>
        go_wp2_with fail
        go_roundg (64 - (k + 1))
        case rel => exact ⟨k + 1, v2, by omega, by go_num, by rw [HST.out]; go_num, by rw [HST.out]; exact HR2.out, HU2.out⟩
        case measure => have := HK.out; omega
      | false =>
        go_wp2_with fail
        go_roundg (64 - (k + 1))
        case rel => exact ⟨k + 1, v2, by omega, by go_num, by rw [HST.out]; simp, by rw [HST.out]; exact HR2.out, HU2.out⟩
        case measure => have := HK.out; omega
    · obtain rfl : k = 64 := by have := HK.out; omega
      go_wp2_with fail
      go_ret
      exact ⟨rfl, ⟨v', HRk.out⟩, HU.out⟩
end Go.Proofs.YtadpibcgjgcjhabGreatDoor
/- Package host: Copy. -/
namespace Go.Proofs.YtadpibcgjgcjhabGreatDoor
open Go.ChangeShapes Go.WideShapes Go.ChangeAt Go.RowKit
set_option maxRecDepth 100000
attribute [local go_sem ↓] Go.wp_at_zero Go.wp_at_succ
variable {w w' : World} {bh bp bf : Nat} {G G' : Nat → G3} {h h' : Hs} {x : Gs} {s' : Pl} {x' : Gs} {b : Mp} {W : Int}

/-- A host's first guests alone. -/
def hTo (h : Hs) (k : Nat) : Hs := ⟨h.s, fun i => if i < k then h.g i else none⟩
/-- The copy, up to a guest. -/
structure Cpd (w wr : World) (bo cp cf : Nat) (h : Hs) : Prop where
  ex : ∃ C, HM wr bo cp cf C h ∧ ∀ k, Own bo cp cf C h k → w.heap.size ≤ k
  up : Upd (fun _ => False) w wr
end Go.Proofs.YtadpibcgjgcjhabGreatDoor
/- The document's host: Guests, NewHost; two lists of numbers. -/
namespace Go.Proofs.YtadpibcgjgcjhabGreatDoor
open Go.ChangeShapes Go.WideShapes Go.ChangeAt Go.RowKit
set_option maxRecDepth 100000
attribute [local go_sem ↓] Go.wp_at_zero Go.wp_at_succ
variable {w w' : World} {bh bm base : Nat} {bx : Nat → Nat} {v : Nat → Value} {h : Hs} {x : Gs} {W : Int}

set_option maxHeartbeats 2000000 in
theorem rGuests_any (r : RHo w bh bm base bx v h) : Calls Tryz.prog 21 #[.pointer (some ⟨bh, 0, none⟩)] w fun e w' => ∃ v, e = .returned v ∧ SlN w' w.heap.size v (hNums h 4) ∧ Upd (fun _ => False) w w' := by
  have HR : Hid (RHo w bh bm base bx v h) := r
  clear r
  go_enter Tryz.func21, Tryz.ntmps21
  go_wp2_with fail
  go_loopg [3, 4] 4 (fun g l i wr => ∃ k : Nat, k + g = 4 ∧ i = .int .i64 k ∧ Hid (SlN wr w.heap.size l (hNums h k)) ∧ Hid (Upd (fun _ => False) w wr))
  case atStart => exact ⟨0, by omega, rfl, SlN.nil _ _, Upd.refl _ _⟩
  case round =>
    obtain ⟨k, hk, rfl, HS, HU⟩ := hrel
    have HK : Hid _ := hk
    clear hk
    by_cases hlt : k < 4
    · have k0 : (0 : Int) ≤ (k : Int) := by omega
      have k1 : (k : Int) < 4 := by omega
      have hrw := HR.out.same HU.out
      cases hx : h.g k with
      | none =>
        have HST : Hid (hNums h (k + 1) = hNums h k) := show hNums h (k + 1) = _ by simp only [hNums, hx, List.append_nil]
        have c := hrw.cNone hlt hx
        clear hx hrw
        go_wp2_with fail
        go_roundg (4 - (k + 1))
        case rel => exact ⟨k + 1, by omega, by go_num, by rw [HST.out]; exact HS.out, HU.out⟩
        case measure => have := HK.out; omega
      | some y =>
        have HST : Hid (hNums h (k + 1) = hNums h k ++ [k]) := show hNums h (k + 1) = _ by simp only [hNums, hx]
        have c := hrw.cSome hlt hx
        clear hx hrw
        obtain ⟨i, hi, he⟩ := Option.map_eq_some_iff.1 infoInt
        simp only [Prod.mk.injEq] at he
        obtain ⟨he1, he2, he3⟩ := he
        have HE1 : Hid _ := he1
        have HE2 : Hid _ := he2
        have HE3 : Hid _ := he3
        have HI : Hid _ := hi
        clear he1 he2 he3 hi
        have hkl := hNums_len h k
        have HN : Hid (∀ j u, ([.int .i64 (k : Int)] : List Value)[j]? = some u → (wr.alloc (.cells #[.int .i64 (k : Int)] 3)).cell? ((⟨wr.heap.size, 0, none⟩ : Addr).add j) = some u) := by
          show ∀ j u, _
          intro j u hj
          rw [Addr.add_mid, Nat.zero_add, World.cell?_alloc_new, ← hj]
          simp
        have HO : Hid _ := World.ownsRow.alloc HS.out (.cells #[.int .i64 (k : Int)] 3)
        have HB : Hid (w.heap.size ≤ (wr.alloc (.cells #[.int .i64 (k : Int)] 3)).heap.size) := show _ ≤ _ by have := HU.out.size; simp only [World.size_alloc]; omega
        have H1 : Hid (∀ u ∈ ([.int .i64 (k : Int)] : List Value), u.oneCell' = true) := show ∀ u ∈ ([.int .i64 (k : Int)] : List Value), _ from fun u hu' => by simp at hu'; subst hu'; rfl
        generalize hfs : hNums h k = fs at *
        clear hfs
        go_wp2_with (at_builtin; refine wpList_append_lies _ (by rfl) _ _ 63 (by rfl) w.heap.size 3 i (.int .i64 0) 1 8 Tryz.underlying63 HI.out HE3.out HE1.out HE2.out (by rfl) (by omega) u3 fs.length (nmC fs) (by rfl) HO.out ⟨wr.heap.size, 0, none⟩ 1 1 ([.int .i64 (k : Int)]) (by rfl) (by rfl) HN.out H1.out (by omega) (by unfold maxLen; omega) (by omega) HB.out (wr.heap.size + 1) (by simp) ?_; intro g2 cap2 w2 hown hgrow hat hlt2)
        obtain ⟨hS2, hu2⟩ := SlN.grown (x := k) HU.out HS.out _ hown hgrow
        clear hown hgrow hat hlt2
        go_roundg (4 - (k + 1))
        case rel => exact ⟨k + 1, by omega, by go_num, by rw [HST.out]; exact hS2, hu2⟩
        case measure => have := HK.out; omega
    · obtain rfl : k = 4 := by have := HK.out; omega
      go_wp2_with fail
      go_ret
      exact ⟨_, rfl, HS.out, HU.out⟩
theorem wpList_runH {P : Program} {ops : Array Oper} {rest : List Oper} {op : Oper} {a a' : Act} {w w' : World} {Q : Exit → Act → World → Prop} (v : Value) (hg : op.guard = none) (hr : (execOp a.eval op).run P w = .ok (.value v) w') (ha : a.put op.dst v = a') (h : wpList P ops Q rest a' w') : wpList P ops Q (op :: rest) a w :=
  wpList_plain hg fun K hK => by unfold Oper.wp; rw [hr, Oper.upon_value, ha]; exact hK _ _ h
theorem newHost_any (w : World) (n : Nat) : Calls Tryz.prog 7 #[.int .i64 (n : Int)] w fun e w' => e = .returned (.pointer (some ⟨w.heap.size + 1, 0, none⟩)) ∧ w' = (w.alloc (.cells (refZero n) 48)).alloc (.cells #[.pointer (some ⟨w.heap.size, 0, none⟩), .pointer none, .pointer none, .pointer none, .pointer none] 52) := by
  go_enter Tryz.func7, Tryz.ntmps7
  go_upto_region 1 with fail
  refine wp_region_lit ?_
  refine wpList_runH (w' := w) (.int .i64 (n : Int)) rfl (by kernel_rfl) rfl ?_
  simp only [Act.put, List.setIfInBounds_toArray, List.set_cons_zero, List.set_cons_succ]
  refine wpList_runH (w' := w) (.agg (refZero n)) rfl (by kernel_rfl) rfl ?_
  simp only [Act.put, List.setIfInBounds_toArray, List.set_cons_zero, List.set_cons_succ]
  refine wpList_runH (w' := (w.alloc (.cells (refZero n) 48))) (.pointer (some ⟨w.heap.size, 0, none⟩)) rfl (by kernel_rfl) rfl ?_
  simp only [Act.put, List.setIfInBounds_toArray, List.set_cons_zero, List.set_cons_succ]
  refine wpList_runH (w' := (w.alloc (.cells (refZero n) 48))) (.agg #[.pointer (some ⟨w.heap.size, 0, none⟩), .pointer none, .pointer none, .pointer none, .pointer none]) rfl (by kernel_rfl) rfl ?_
  simp only [Act.put, List.setIfInBounds_toArray, List.set_cons_zero, List.set_cons_succ]
  refine wpList_runH (w' := (w.alloc (.cells (refZero n) 48)).alloc (.cells #[.pointer (some ⟨w.heap.size, 0, none⟩), .pointer none, .pointer none, .pointer none, .pointer none] 52)) (.pointer (some ⟨w.heap.size + 1, 0, none⟩)) rfl (by rw [← World.size_alloc w (.cells (refZero n) 48)]; kernel_rfl) rfl ?_
  simp only [Act.put, List.setIfInBounds_toArray, List.set_cons_zero, List.set_cons_succ]
  generalize hw6 : (w.alloc (.cells (refZero n) 48)).alloc (.cells #[.pointer (some ⟨w.heap.size, 0, none⟩), .pointer none, .pointer none, .pointer none, .pointer none] 52) = w6
  have HW6 : Hid _ := hw6
  clear hw6
  go_wp2_with fail
  go_ret
  exact ⟨rfl, HW6.out.symm⟩
end Go.Proofs.YtadpibcgjgcjhabGreatDoor
/- A host of the program and the document's host, in one state. -/
namespace Go.Proofs.YtadpibcgjgcjhabGreatDoor
open Go.ChangeShapes Go.WideShapes Go.ChangeAt Go.RowKit
set_option maxRecDepth 100000
variable {W w w1 w2 w' : World} {bh bp bf rh rm base : Nat} {G G' : Nat → G3} {bx : Nat → Nat} {v : Nat → Value} {h h' : Hs} {x : Gs} {n k : Nat} {F : Nat → Option Fl}

/-- Elsewhere something turned. -/
theorem RHo.upd {S : Nat → Prop} (r : RHo w rh rm base bx v h) (u : Upd S w w') (hS : ∀ j, RFt rh rm bx h j → ¬ S j) (hv : ∀ i x j, h.g i = some x → (v i).ownBlock = some j → ¬ S j) : RHo w' rh rm base bx v h :=
  ⟨u.cell r.c0 (hS _ (Or.inl rfl)), fun i hi => u.cell (r.cg i hi) (hS _ (Or.inl rfl)), fun o => by rw [World.frozen?_of_block (w := w) (u.block rh r.lt.1 (hS _ (Or.inl rfl)))]; exact r.fz o, r.ref.upd u (hS _ (Or.inr (Or.inl rfl))), fun i x hx => (r.gu i x hx).upd u (hS _ (Or.inr (Or.inr ⟨i, x, hx, rfl⟩))) (fun j hj => hv i x j hx hj), r.hm, r.ne, r.nx, r.nv, Nat.le_trans r.base u.size, fun j hj => Nat.lt_of_lt_of_le (r.lx j hj) u.size, r.nl⟩
theorem RHo.ftLt (r : RHo w rh rm base bx v h) {j : Nat} (hj : RFt rh rm bx h j) : j < w.heap.size := by
  have := r.lt
  rcases hj with e | e | ⟨i, x, hx, e⟩
  · omega
  · omega
  · rw [e]; exact (r.gu i x hx).mp.lt
/-- The program's blocks, told one by one behind the document's guests. -/
def tagB (bx : Nat → Nat) (bh bp bf : Nat) (G : Nat → G3) (h : Hs) (j : Nat) : Nat :=
  if j < 4 then bx j else if j = 4 then bh else if j = 5 then bp else if j = 6 then bf else
  if (h.g ((j - 7) / 3)).isSome = true then (if (j - 7) % 3 = 0 then (G ((j - 7) / 3)).g else if (j - 7) % 3 = 1 then (G ((j - 7) / 3)).l else (G ((j - 7) / 3)).c) else bh
/-- Both hosts, in one state. -/
structure HB (W w : World) (n k : Nat) (bh bp bf rh rm base : Nat) (G : Nat → G3) (h : Hs) (F : Nat → Option Fl) (bx : Nat → Nat) (v : Nat → Value) : Prop where
  s : HS W w n k bh bp bf G h F
  r : RHo w rh rm base bx v h
  dj : ∀ j, Own bh bp bf G h j → ¬ RFt rh rm bx h j
  nv : ∀ i x j, h.g i = some x → (v i).ownBlock = some j → ¬ Own bh bp bf G h j
  new : ∀ j, RFt rh rm bx h j → W.heap.size ≤ j
  up : Upd (fun _ => False) W w
/-- The program has acted, the document not yet. -/
structure HX (W w w1 : World) (n k : Nat) (bh bp bf rh rm base : Nat) (h h1 : Hs) (F1 : Nat → Option Fl) (bx : Nat → Nat) (v : Nat → Value) : Prop where
  ex : ∃ G1, HS W w1 n (k + 1) bh bp bf G1 h1 F1 ∧ (∀ j, Own bh bp bf G1 h1 j → ¬ RFt rh rm bx h j) ∧ (∀ j, Own bh bp bf G1 h1 j → ∃ i, 4 ≤ i ∧ bx i = j)
  r : RHo w1 rh rm base bx v h
  new : ∀ j, RFt rh rm bx h j → W.heap.size ≤ j
  up : Upd (fun _ => False) W w1
/-- What holds of both. -/
def HBs (W w : World) (n k : Nat) (bh bp bf rh rm base : Nat) : Prop := ∃ G h F bx v, HB W w n k bh bp bf rh rm base G h F bx v
end Go.Proofs.YtadpibcgjgcjhabGreatDoor
/- Acts of a line, numbers that are told: how great they are. -/
namespace Go.Proofs.YtadpibcgjgcjhabGreatDoor
open Go.ChangeShapes Go.WideShapes Go.ChangeAt Go.RowKit
set_option maxRecDepth 100000
variable {h : Hs} {t : Nat → Nat → Int} {F : Nat → Option Fl} {k : Nat}

def acOf (c : List UInt8) (a b v : Int) : Ac := ⟨TX c, a, b, 0, v, false⟩
theorem did_add (h : Hs) (a b v : Int) : hDid h (acOf kAdd a b v) = hAdd h := by
  have e : (acOf kAdd a b v).kind.toList = [97, 100, 100] := TX_toList _
  unfold hDid
  rw [e]
  rfl
theorem did_remove (h : Hs) (a b v : Int) : hDid h (acOf kRemove a b v) = ((0, (hRemove h a).1), (hRemove h a).2) := by
  have e : (acOf kRemove a b v).kind.toList = [114, 101, 109, 111, 118, 101] := TX_toList _
  unfold hDid
  rw [e]
  rfl
theorem did_plug (h : Hs) (a b v : Int) : hDid h (acOf kPlug a b v) = ((0, (hPlug h a b).1), (hPlug h a b).2) := by
  have e : (acOf kPlug a b v).kind.toList = [112, 108, 117, 103] := TX_toList _
  unfold hDid
  rw [e]
  rfl
theorem did_unplug (h : Hs) (a b v : Int) : hDid h (acOf kUnplug a b v) = ((0, (hUnplug h a b).1), (hUnplug h a b).2) := by
  have e : (acOf kUnplug a b v).kind.toList = [117, 110, 112, 108, 117, 103] := TX_toList _
  unfold hDid
  rw [e]
  rfl
theorem did_give (h : Hs) (a b v : Int) : hDid h (acOf kGive a b v) = ((0, (hGive h a b false).1), (hGive h a b false).2) := by
  have e : (acOf kGive a b v).kind.toList = [103, 105, 118, 101] := TX_toList _
  unfold hDid
  rw [e]
  rfl
theorem did_back (h : Hs) (a b v : Int) : hDid h (acOf kBack a b v) = ((0, (hGive h a b true).1), (hGive h a b true).2) := by
  have e : (acOf kBack a b v).kind.toList = [98, 97, 99, 107] := TX_toList _
  unfold hDid
  rw [e]
  rfl
theorem did_load (h : Hs) (a b v : Int) : hDid h (acOf kLoad a b v) = hLoad h a b := by
  have e : (acOf kLoad a b v).kind.toList = [108, 111, 97, 100] := TX_toList _
  unfold hDid
  rw [e]
  rfl
theorem did_store (h : Hs) (a b v : Int) : hDid h (acOf kStore a b v) = ((0, (hStore h a b v).1), (hStore h a b v).2) := by
  have e : (acOf kStore a b v).kind.toList = [115, 116, 111, 114, 101] := TX_toList _
  unfold hDid
  rw [e]
  rfl
theorem did_root (h : Hs) (a b v : Int) : hDid h (acOf kRoot a b v) = ((0, (hRoot h a b).1), (hRoot h a b).2) := by
  have e : (acOf kRoot a b v).kind.toList = [114, 111, 111, 116] := TX_toList _
  unfold hDid
  rw [e]
  rfl
theorem did_forget (h : Hs) (a b v : Int) : hDid h (acOf kForget a b v) = ((0, (hForget h a b).1), (hForget h a b).2) := by
  have e : (acOf kForget a b v).kind.toList = [102, 111, 114, 103, 101, 116] := TX_toList _
  unfold hDid
  rw [e]
  rfl
theorem did_drop (h : Hs) (a b v : Int) : hDid h (acOf kDrop a b v) = ((0, (hDrop h a b).1), (hDrop h a b).2) := by
  have e : (acOf kDrop a b v).kind.toList = [100, 114, 111, 112] := TX_toList _
  unfold hDid
  rw [e]
  rfl
theorem did_scan (h : Hs) (a b v : Int) : hDid h (acOf kScan a b v) = ((0, (hScan h a b).1.2), (hScan h a b).2) := by
  have e : (acOf kScan a b v).kind.toList = [115, 99, 97, 110] := TX_toList _
  unfold hDid
  rw [e]
  rfl
theorem did_scanall (h : Hs) (a b v : Int) : hDid h (acOf kScanall a b v) = ((0, 0), (hScanTo h 64).2) := by
  have e : (acOf kScanall a b v).kind.toList = [115, 99, 97, 110, 97, 108, 108] := TX_toList _
  unfold hDid
  rw [e]
  rfl
theorem fWho_le (F : Nat → Option Fl) (n : Int) : fWho F n ≤ 2 := by
  unfold fWho
  split
  · omega
  · split <;> omega
theorem pgCode_top (z : Int) : pgCode z ≤ 6 := by unfold pgCode; split; omega; split <;> omega
theorem fStep_le (f : Fl) (x : En) (fd wt : Bool) : (fStep f x fd wt).1.2 ≤ 6 := by
  unfold fStep
  split
  · simp
  · split
    · exact pgCode_top _
    · simp
theorem fAt_le (f : Fl) (addr : Int) (wt : Bool) : (fAt f addr wt).1.2 ≤ 6 := by
  unfold fAt
  split
  · simp
  · split
    · exact pgCode_top _
    · split
      · exact fStep_le _ _ _ _
      · split
        · exact pgCode_top _
        · split
          · simp
          · exact fStep_le _ _ _ _
theorem fAct_le {F : Nat → Option Fl} {n : Int} {r : Fl → (Int × Int) × Fl} (h : ∀ f, (r f).1.2 ≤ 9) : (fAct F n r).1.2 ≤ 9 := by
  unfold fAct
  split
  · have := fWho_le F n; simp only; omega
  · exact h _
theorem fDid_le (F : Nat → Option Fl) (N : Nat) (x : Ac) : (fDid F N x).1.2 ≤ 9 := by
  have hw := fWho_le F x.n
  refine did_cases (h := hs0 0) (P := fun _ q => q.1.2 ≤ 9) N x (fun _ => ?_) (fun _ => ?_) (fun _ => ?_) (fun _ => ?_) (fun _ => ?_) (fun _ => ?_) (fun _ => ?_) (fun _ => ?_) (fun _ => ?_) (fun _ => ?_) (fun _ => ?_) (fun _ => ?_) (fun _ => ?_) ?_
  · unfold cAdd; split; simp; split; simp; split; simp; split <;> simp
  · simp only; omega
  · simp only; unfold cPlug; split; omega; split; omega; split; omega; split <;> omega
  · simp only; unfold cUnplug; split; omega; split; omega; split <;> omega
  · simp only; unfold cGive; split; omega; split; split; split; split; omega; omega; omega; split; omega; omega; omega
  · simp only; unfold cGive; split; omega; split; split; split; split; omega; omega; omega; split; omega; omega; omega
  · refine fAct_le fun f => ?_
    unfold fLoad
    split
    · have := fAt_le f x.a false; simp only; omega
    · simp
  · refine fAct_le fun f => ?_
    simp only
    unfold fStore
    split
    · have := fAt_le f x.a true; simp only; omega
    · simp
  · refine fAct_le fun f => ?_
    simp only
    unfold fRoot
    split <;> simp
  · refine fAct_le fun f => ?_
    simp only
    unfold fForget
    split <;> simp
  · refine fAct_le fun f => ?_
    simp only
    unfold fDrop
    split <;> simp
  · simp only; unfold cScan; split; omega; split <;> omega
  · simp
  · simp
/-- A host that may be. -/
def HOk (h : Hs) (n k : Nat) : Prop := (∃ t F, HF h t F (k : Int)) ∧ h.s.n = n
variable {n : Nat}
theorem HOk.code (o : HOk h n k) (x : Ac) (v0 : 0 ≤ x.v) (v1 : x.v ≤ 255) : 0 ≤ (hDid h x).1.2 ∧ (hDid h x).1.2 ≤ 9 := by
  obtain ⟨⟨t, F, hf⟩, _⟩ := o
  refine ⟨hDid_code hf x (by omega), ?_⟩
  rw [(hf.tells (by omega) x v0 v1).ans]
  exact fDid_le _ _ _
theorem HOk.next (o : HOk h n k) (x : Ac) (v0 : 0 ≤ x.v) (v1 : x.v ≤ 255) : HOk (hDid h x).2 n (k + 1) := by
  obtain ⟨⟨t, F, hf⟩, hn⟩ := o
  obtain ⟨t', h2⟩ := (hf.tells (by omega) x v0 v1).hf
  exact ⟨⟨t', _, h2⟩, by rw [(hf.tells (by omega) x v0 v1).n]; exact hn⟩
theorem HOk.more (o : HOk h n k) : HOk h n (k + 1) := by
  obtain ⟨⟨t, F, hf⟩, hn⟩ := o
  exact ⟨⟨t, F, hf.more (by omega)⟩, hn⟩
theorem HOk.start (n : Nat) : HOk (hs0 n) n 0 := ⟨⟨_, _, HF.start n⟩, rfl⟩
theorem HOk.inv (o : HOk h n k) : HInv h (k : Int) := by
  obtain ⟨⟨t, F, hf⟩, _⟩ := o
  exact hf.hr.inv
theorem who_code (h : Hs) (n : Int) : 0 ≤ hWho h n ∧ hWho h n ≤ 2 := by
  unfold hWho
  split
  · omega
  · split <;> omega
/-- What is loaded is a byte. -/
theorem HOk.byte (o : HOk h n k) (a b : Int) : 0 ≤ (hLoad h a b).1.1 ∧ (hLoad h a b).1.1 ≤ 255 := by
  have o2 := (o.next (acOf kLoad a b 0) (Int.le_refl _) (by show (0 : Int) ≤ 255; omega)).inv.byt
  rw [did_load] at o2
  unfold hLoad at o2 ⊢
  split
  · simp
  · next h0 =>
    rw [if_neg h0] at o2
    unfold gLoad at o2 ⊢
    split
    · simp
    · next h1 =>
      rw [if_neg h1] at o2
      exact o2 _ _
theorem stR_le {m : Mp} (h : Pgs m) (p : Int) : 0 ≤ (stR m p).1 ∧ (stR m p).1 ≤ 2 ∧ 0 ≤ (stR m p).2 ∧ (stR m p).2 ≤ 9 := by
  unfold stR
  split
  · next hp =>
    have := (onB_iff p).1 hp
    have := (h p.toNat (by omega)).1
    simp only
    omega
  · simp
theorem HOk.state (o : HOk h n k) (a b : Int) : 0 ≤ (hState h a b).1 ∧ (hState h a b).1 ≤ 2 ∧ 0 ≤ (hState h a b).2 ∧ (hState h a b).2 ≤ 9 := by
  have hw := who_code h a
  unfold hState
  split
  · simp only; omega
  · next h0 =>
    obtain ⟨i, x, rfl, hi, hx, hat⟩ := hWho_zero (show hWho h a = 0 by omega)
    rw [hat]
    exact stR_le (o.inv.gi i x hx).2.pg b
theorem HOk.refs (o : HOk h n k) (f : Int) : 0 ≤ (h.s.of f).1 ∧ (h.s.of f).1 ≤ 2 ∧ 0 ≤ (h.s.of f).2.1 ∧ (h.s.of f).2.1 ≤ 64 ∧ 0 ≤ (h.s.of f).2.2 ∧ (h.s.of f).2.2 ≤ 9 := by
  unfold Pl.of
  split
  · next hf =>
    have h1 := o.inv.cn.cnt f.toNat (by omega)
    have h2 := cntTo_le (rowL h) f.toNat 64
    have hc : 0 ≤ classOf (h.s.refs f.toNat) ∧ classOf (h.s.refs f.toNat) ≤ 2 := by unfold classOf; split; omega; split <;> omega
    simp only
    omega
  · simp
theorem scanTo_le (h : Hs) : ∀ K : Nat, 0 ≤ (hScanTo h K).1 ∧ (hScanTo h K).1 ≤ (K : Int)
  | 0 => by simp [hScanTo]
  | K + 1 => by
    have := scanTo_le h K
    simp only [hScanTo]
    split <;> omega
theorem HOk.ans (o : HOk h n k) (c : List UInt8) (a b v : Int) : HOk (ansL h c a b v).2 n (k + 1) := by
  have z0 : ∀ c a b, 0 ≤ (acOf c a b 0).v ∧ (acOf c a b 0).v ≤ 255 := fun _ _ _ => ⟨Int.le_refl _, by show (0 : Int) ≤ 255; omega⟩
  have st : ∀ c a b (r : (Int × Int) × Hs), hDid h (acOf c a b 0) = r → HOk r.2 n (k + 1) := fun c a b r e => by
    subst e
    exact o.next _ (z0 c a b).1 (z0 c a b).2
  unfold ansL
  by_cases eAdd : c = kAdd
  · rw [if_pos eAdd]; exact st kAdd a b _ (did_add h a b 0)
  rw [if_neg eAdd]
  by_cases eScanall : c = kScanall
  · rw [if_pos eScanall]; exact st kScanall a b _ (did_scanall h a b 0)
  rw [if_neg eScanall]
  by_cases eLeft : c = kLeft
  · rw [if_pos eLeft]; exact o.more
  rw [if_neg eLeft]
  by_cases ePromised : c = kPromised
  · rw [if_pos ePromised]; exact o.more
  rw [if_neg ePromised]
  by_cases eGuests : c = kGuests
  · rw [if_pos eGuests]; exact o.more
  rw [if_neg eGuests]
  by_cases eRemove : c = kRemove
  · rw [if_pos eRemove]; exact st kRemove a b _ (did_remove h a b 0)
  rw [if_neg eRemove]
  by_cases eFrame : c = kFrame
  · rw [if_pos eFrame]; exact o.more
  rw [if_neg eFrame]
  by_cases ePlug : c = kPlug
  · rw [if_pos ePlug]; exact st kPlug a b _ (did_plug h a b 0)
  rw [if_neg ePlug]
  by_cases eUnplug : c = kUnplug
  · rw [if_pos eUnplug]; exact st kUnplug a b _ (did_unplug h a b 0)
  rw [if_neg eUnplug]
  by_cases eGive : c = kGive
  · rw [if_pos eGive]; exact st kGive a b _ (did_give h a b 0)
  rw [if_neg eGive]
  by_cases eBack : c = kBack
  · rw [if_pos eBack]; exact st kBack a b _ (did_back h a b 0)
  rw [if_neg eBack]
  by_cases eLoad : c = kLoad
  · rw [if_pos eLoad]; exact st kLoad a b _ (did_load h a b 0)
  rw [if_neg eLoad]
  by_cases eRoot : c = kRoot
  · rw [if_pos eRoot]; exact st kRoot a b _ (did_root h a b 0)
  rw [if_neg eRoot]
  by_cases eForget : c = kForget
  · rw [if_pos eForget]; exact st kForget a b _ (did_forget h a b 0)
  rw [if_neg eForget]
  by_cases eDrop : c = kDrop
  · rw [if_pos eDrop]; exact st kDrop a b _ (did_drop h a b 0)
  rw [if_neg eDrop]
  by_cases eScan : c = kScan
  · rw [if_pos eScan]; exact st kScan a b _ (did_scan h a b 0)
  rw [if_neg eScan]
  by_cases ePage : c = kPage
  · rw [if_pos ePage]; exact o.more
  rw [if_neg ePage]
  by_cases eStore : c = kStore
  · rw [if_pos eStore]
    by_cases hv : v < 0 ∨ 255 < v
    · rw [if_pos hv]; exact o.more
    · rw [if_neg hv]
      have := o.next (acOf kStore a b v) (by show 0 ≤ v; omega) (by show v ≤ 255; omega)
      rw [did_store] at this
      exact this
  rw [if_neg eStore]
  exact o.more
theorem HOk.say (o : HOk h n k) (l : List UInt8) : HOk (sayL h l).2 n (k + 1) := by
  unfold sayL
  split
  · exact o.ans _ _ _ _
  · exact o.more
end Go.Proofs.YtadpibcgjgcjhabGreatDoor
/- The console's told. -/
namespace Go.Proofs.YtadpibcgjgcjhabGreatDoor
open Go.ChangeShapes Go.WideShapes Go.ChangeAt Go.RowKit
set_option maxRecDepth 100000
attribute [local go_sem ↓] Go.wp_at_zero Go.wp_at_succ
variable {W w w1 w2 w3 w' : World}

/-- The table of the library's decimals. -/
def Tab (w : World) : Prop := Lib.TabIs Tryz.prog w "internal/strconv.uint64pow10" .u64 Lib.pow10Tab
theorem var_upd {nm : String} {g : Nat} (hg : Tryz.prog.globalNamed nm = some g) (u : Upd (fun _ => False) w w') {cs : Array Value} (h : w.var? Tryz.prog nm = some cs) : w'.var? Tryz.prog nm = some cs := by
  unfold World.var? at h ⊢
  rw [hg] at h ⊢
  simp only [Option.bind_some] at h ⊢
  have hl : g < w.heap.size := by
    rcases Nat.lt_or_ge g w.heap.size with hl | hl
    · exact hl
    · rw [Array.getElem?_eq_none hl] at h; cases h
  rw [u.block g hl (fun f => f)]
  exact h
theorem tab_named : ∃ g, Tryz.prog.globalNamed "internal/strconv.uint64pow10" = some g := by
  have h : (Tryz.prog.globalNamed "internal/strconv.uint64pow10").isSome = true := by kernel_rfl
  exact Option.isSome_iff_exists.1 h
theorem Tab.upd (h : Tab w) (u : Upd (fun _ => False) w w') : Tab w' := by
  obtain ⟨g, hg⟩ := tab_named
  exact var_upd hg u h
theorem upd_grow (w : World) (k : Nat) (os : Array Obj) : Upd (fun _ => False) w (Go.Sort.grow (w.drewN k) os) :=
  ⟨rfl, rfl, rfl, by simp [Go.Sort.grow], fun i hi _ => by
    show (w.heap ++ os)[i]? = _
    rw [Array.getElem?_append_left hi]⟩
theorem itoa_any (w : World) (ht : Tab w) (n : Int) (h0 : 0 ≤ n) (h1 : n ≤ 1000000) : Calls Tryz.prog 74 #[.int .i64 n] w fun e w' => e = .returned (.string (TX (numT n))) ∧ Upd (fun _ => False) w w' := by
  refine (Tryz.strconv_Itoa n (by omega) (by omega) w ht).mono ?_
  rintro e w2 ⟨he, k, os, hw⟩
  refine ⟨?_, by rw [hw]; exact upd_grow w k os⟩
  rw [he]
  unfold Lib.itoa
  rw [if_neg (by omega), numT_eq]
  rfl
theorem join_any (w : World) (g c : Nat) (xs : List Int) (hx : ∀ x ∈ xs, x ≤ 1000000) (h4 : xs.length ≤ 4) (hc : xs.length ≤ c) (hg : g < w.heap.size) (hcell : ∀ i, i < xs.length → w.cell? ⟨g, i, none⟩ = some (.string (TX (numT (xs.getD i 0))))) : Calls Tryz.prog 75 #[.slice (some ⟨g, 0, none⟩) xs.length c, .string ⟨#[32]⟩] w fun e w' => e = .returned (.string (TX (listT xs))) ∧ Upd (fun _ => False) w w' := by
  have e : (xs.map fun x => TX (numT x)).map (·.data.toList) = xs.map numT := by rw [List.map_map]; rfl
  have hl := listT_len xs hx
  have := Tryz.strings_Join g 0 c (xs.map fun x => TX (numT x)) ⟨#[32]⟩ w (fun j x hj => by
    rw [List.getElem?_map] at hj
    have hjl : j < xs.length := by
      rcases Nat.lt_or_ge j xs.length with h | h
      · exact h
      · rw [List.getElem?_eq_none h] at hj; cases hj
    rw [List.getElem?_eq_getElem hjl] at hj
    cases hj
    rw [Nat.zero_add, hcell j hjl, List.getD_eq_getElem?_getD, List.getElem?_eq_getElem hjl]
    rfl) hg (by rw [List.length_map]; omega) (by rw [List.length_map]; exact hc) (by rw [e]; unfold listT at hl; exact Nat.le_trans hl (by omega))
  rw [List.length_map, e] at this
  exact this.mono fun _ _ ⟨he, hb⟩ => ⟨he, upd_of_below hb⟩
/-- Texts that are laid one by one. -/
structure WdBox (w : World) (b : Nat) (xs : List Int) (k : Nat) : Prop where
  c : ∀ i, i < xs.length → w.cell? ⟨b, i, none⟩ = some (.string (if i < k then TX (numT (xs.getD i 0)) else ByteArray.empty))
  fz : ∀ o, w.frozen? ⟨b, o, none⟩ = false
  lt : b < w.heap.size
theorem WdBox.upd {b k : Nat} {xs : List Int} (h : WdBox w b xs k) (u : Upd (fun _ => False) w w') : WdBox w' b xs k :=
  ⟨fun i hi => u.cell (h.c i hi) (fun f => f), fun o => by rw [World.frozen?_of_block (w := w) (u.block b h.lt (fun f => f))]; exact h.fz o, Nat.lt_of_lt_of_le h.lt u.size⟩
theorem WdBox.put {b k : Nat} {xs : List Int} (h : WdBox w b xs k) (hk : k < xs.length) : WdBox (w.setCell ⟨b, k, none⟩ (.string (TX (numT (xs.getD k 0))))) b xs (k + 1) := by
  refine ⟨fun i hi => ?_, fun o => by rw [World.frozen?_setCell]; exact h.fz o, by rw [World.size_setCell]; exact h.lt⟩
  by_cases e : i = k
  · subst e
    rw [World.cell?_setCell_same _ _ _ (h.c i hi), if_pos (by omega)]
  · rw [World.cell?_setCell_other _ _ _ _ (addr_ne (Or.inr (fun h => e h.symm))), h.c i hi]
    by_cases h2 : i < k
    · rw [if_pos h2, if_pos (by omega)]
    · rw [if_neg h2, if_neg (by omega)]
theorem make_texts (w : World) (n : Nat) (hn : n ≤ 1000) : ∃ w', (Instr.makeSlice 22 (.int .i64 (n : Int)) (.int .i64 (n : Int))).run Tryz.prog w = .ok (.slice (some ⟨w.heap.size, 0, none⟩) n n) w' ∧
    (∀ i, i < n → w'.cell? ⟨w.heap.size, i, none⟩ = some (.string ByteArray.empty)) ∧ (∀ o, w'.frozen? ⟨w.heap.size, o, none⟩ = false) ∧ w.heap.size < w'.heap.size ∧ Upd (fun _ => False) w w' := by
  obtain ⟨i, hi, he⟩ := Option.map_eq_some_iff.1 infoStr
  simp only [Prod.mk.injEq] at he
  obtain ⟨he1, he2, he3⟩ := he
  obtain ⟨w', hr, ho, hg⟩ := run_makeSlice_full (P := Tryz.prog) w 0 22 9 i (.string ByteArray.empty) 1 Tryz.underlying22 hi he3 he1 .i64 .i64 n (by omega) (by rw [he2]; omega) (by unfold maxLen; omega) (Nat.zero_le _)
  refine ⟨w', hr, fun j hj => ?_, fun o => ho.frozenAt o, ?_, ⟨hg.os, hg.tape, hg.output, hg.size, fun k hk _ => hg.block k hk (by simp)⟩⟩
  · rw [ho.cellAt j (by omega)]
    have : (madeCells #[Value.string ByteArray.empty] (n * 1)).toList[j]? = some (.string ByteArray.empty) := by
      simp only [madeCells, Array.toList_map, Array.toList_range, List.getElem?_map]
      rw [List.getElem?_range (by omega)]
      simp [Nat.mod_one]
    exact this
  · rcases ho.2 with ⟨e, _⟩ | ⟨g, cap, cur, e, _, hh, _⟩
    · cases e
    · cases e
      rcases Nat.lt_or_ge w.heap.size w'.heap.size with h | h
      · exact h
      · rw [Array.getElem?_eq_none h] at hh; cases hh
set_option maxHeartbeats 1000000 in
theorem told_any (w : World) (ht : Tab w) (a : Option Addr) (cap : Nat) (xs : List Int) (ha : IntsAt w a xs) (h4 : xs.length ≤ 4) (hx : ∀ x ∈ xs, 0 ≤ x ∧ x ≤ 1000000) : Calls Tryz.prog 51 #[.slice a xs.length cap] w fun e w' => e = .returned (.string (TX (listT xs))) ∧ Upd (fun _ => False) w w' := by
  have HA : Hid _ := ha
  have HX : Hid _ := hx
  have HT : Hid (Tab w) := ht
  obtain ⟨w0, hmk, hc0, hf0, hl0, hu0⟩ := make_texts w xs.length (by omega)
  have HB0 : Hid (WdBox w0 w.heap.size xs 0) := show WdBox _ _ _ _ from ⟨fun i hi => by rw [hc0 i hi, if_neg (by omega)], hf0, hl0⟩
  have HU0 : Hid (Upd (fun _ => False) w w0) := hu0
  clear ha hx ht hc0 hf0 hl0 hu0
  go_enter Tryz.func51, Tryz.ntmps51
  go_wp2_with fail
  clear hmk
  have HBW : Hid (∀ b, b = w.heap.size → w.heap.size ≤ b) := show ∀ b, b = w.heap.size → w.heap.size ≤ b from fun b e => by omega
  generalize hB : w.heap.size = B at *
  have HBB : Hid _ := hB
  clear hB
  go_loopg [10] xs.length (fun g iv wr => ∃ k : Nat, k + g = xs.length ∧ iv = .int .i64 k ∧ Hid (WdBox wr B xs k) ∧ Hid (Upd (fun _ => False) w wr))
  case atStart => exact ⟨0, by omega, rfl, HB0.out, HU0.out⟩
  case round =>
    clear HB0 HU0
    obtain ⟨k, hk, rfl, HB, HU⟩ := hrel
    have HK : Hid _ := hk
    clear hk
    by_cases hlt : k < xs.length
    · obtain ⟨g, rfl, hc⟩ := HA.out k hlt
      have hcr := HU.out.cell hc (fun f => f)
      clear hc
      have hm : xs.getD k 0 ∈ xs := by rw [List.getD_eq_getElem?_getD, List.getElem?_eq_getElem hlt]; exact List.getElem_mem hlt
      have hxk := HX.out _ hm
      have HIT : Hid (∀ w1, Upd (fun _ => False) wr w1 → _) := fun w1 u => itoa_any w1 (HT.out.upd (HU.out.trans u (fun _ _ f => f))) (xs.getD k 0) hxk.1 hxk.2
      have HPT : Hid (∀ w1, Upd (fun _ => False) wr w1 → _) := fun w1 u => (HB.out.upd u).put hlt
      have HCC : Hid (∀ w1, Upd (fun _ => False) wr w1 → _) := fun w1 u => (HB.out.upd u).c k hlt
      have HFZ : Hid (∀ w1, Upd (fun _ => False) wr w1 → _) := fun w1 u => (HB.out.upd u).fz k
      generalize xs.getD k 0 = x at *
      go_wp2_with fail
      refine Calls.mono (HIT.out wr (Upd.refl _ _)) ?_
      rintro e w2 ⟨rfl, hu2⟩
      have hck := HCC.out w2 hu2
      have hfz := HFZ.out w2 hu2
      have HP2 : Hid _ := HPT.out w2 hu2
      have HU2 : Hid (Upd (fun _ => False) w (w2.setCell ⟨B, k, none⟩ (.string (TX (numT x))))) := (HU.out.trans hu2 (fun _ _ f => f)).setCell _ (fun e => by have := HBB.out; simp only at e; omega) _
      clear hu2 HIT HPT HCC HFZ
      go_wp2_with fail
      go_roundg (xs.length - (k + 1))
      case rel => exact ⟨k + 1, by omega, by go_num, HP2.out, HU2.out⟩
      case measure => have := HK.out; omega
    · have hkk : k = xs.length := by have := HK.out; omega
      subst hkk
      have HJ : Hid _ := join_any wr B xs.length xs (fun x hx => (HX.out x hx).2) h4 (Nat.le_refl _) HB.out.lt (fun i hi => by have := HB.out.c i hi; rw [if_pos hi] at this; exact this)
      go_wp2_with (go_at_call 75; refine Calls.mono HJ.out ?_; rintro e w2 ⟨rfl, hu2⟩)
      go_ret
      exact ⟨rfl, HU.out.trans hu2 (fun _ _ f => f)⟩
end Go.Proofs.YtadpibcgjgcjhabGreatDoor
