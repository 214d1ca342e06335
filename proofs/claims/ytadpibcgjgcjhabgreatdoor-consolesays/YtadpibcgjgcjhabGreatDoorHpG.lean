/- Package host: Back, Remove, Left. -/
import Derived.Test.YtadpibcgjgcjhabGreatDoorHpF
namespace Go.Proofs.YtadpibcgjgcjhabGreatDoor
open Go.ChangeShapes Go.WideShapes Go.ChangeAt Go.RowKit
set_option maxRecDepth 100000
attribute [local go_sem ↓] Go.wp_at_zero Go.wp_at_succ
variable {w w' : World} {bh bp bf : Nat} {G G' : Nat → G3} {h h' : Hs} {x : Gs} {s' : Pl} {x' : Gs} {b : Mp} {W : Int}

theorem hLeft_any (m : HM w bh bp bf G h) : Calls Tryz.prog 57 #[.pointer (some ⟨bh, 0, none⟩)] w (MRead w (.int .i64 h.s.left)) := by
  have c0 := m.c0
  have HL : Hid _ := left_any w bp bf h.s m.pool
  clear m
  go_enter Tryz.func57, Tryz.ntmps57
  go_wp2_with fail
  refine Calls.mono HL.out ?_
  rintro e w1 ⟨rfl, hw1⟩
  subst hw1
  go_wp2_with fail
  go_ret
  exact ⟨rfl, Upd.refl _ _⟩
theorem gBack_off (s : Pl) (x : Gs) {p : Int} (hp : onB p = false) : gGive s x p true = (1, s, x) := by
  unfold gGive gMap giveR
  simp only [hp, Bool.false_eq_true, if_false]
set_option maxHeartbeats 1000000 in
theorem hBack_m (m : HM w bh bp bf G h) (hi : HInv h W) (hle : pln (rowS h) 64 ≤ h.s.n) (n p : Int) : Calls Tryz.prog 93 #[.pointer (some ⟨bh, 0, none⟩), .int .i64 n, .int .i64 p] w (MPost w bh bp bf G h (hGive h n p true)) := by
  have HMM : Hid (HM w bh bp bf G h) := m
  have HST : Hid _ := hState_any m hi n p
  unfold hState at HST
  unfold hGive
  by_cases h0 : 0 < hWho h n
  · rw [if_pos h0] at HST ⊢
    have HE : Hid _ := errV_who h0
    simp only [HE.out] at HST
    clear m hi h0
    go_enter Tryz.func93, Tryz.ntmps93
    go_wp2_with fail
    refine Calls.mono HST.out ?_
    rintro e w1 ⟨rfl, hu⟩
    go_wp2_with fail
    go_ret
    exact ⟨by rw [HE.out]; first | done | rfl, HMM.out.same hu, MRead.no _ hu⟩
  · rw [if_neg h0] at HST ⊢
    obtain ⟨k, x, rfl, hk, hx, hat⟩ := hWho_zero (show hWho h n = 0 by have := hWho_le (h := h) n; omega)
    rw [hat] at HST ⊢
    rw [Int.toNat_natCast]
    have HX : Hid (h.g k = some x) := hx
    have HI : Hid (HInv h W) := hi
    unfold stR at HST
    cases hp : onB p with
    | false =>
      rw [gBack_off _ _ hp, if_neg (fun c => by simp at c)]
      rw [hp] at HST
      simp only [Bool.false_eq_true, if_false, errV1] at HST
      have HPS : Hid _ := Hs.put_self hx
      clear m hi h0 hx hat hp
      go_enter Tryz.func93, Tryz.ntmps93
      go_wp2_with fail
      refine Calls.mono HST.out ?_
      rintro e w1 ⟨rfl, hu⟩
      go_wp2_with fail
      go_ret
      exact ⟨by rw [errV1]; first | done | rfl, by simp only; rw [HPS.out]; exact HMM.out.same hu, MRead.no _ hu⟩
    | true =>
      rw [hp] at HST
      simp only [if_true, errV_zero] at HST
      have k0 : (0 : Int) ≤ (k : Int) := by omega
      have k1 : (k : Int) < 4 := by omega
      by_cases hs : x.m.st p.toNat = 2
      · have ds : (x.m.st p.toNat == 2) = true := by simp [hs]
        by_cases hr : pln (rowS h) 64 = h.s.n
        · rw [if_pos ⟨by simp, hs, hr⟩]
          have HRM : Hid (∀ w1, Upd (fun _ => False) w w1 → _) := fun w1 hu => hasRoom_any (m.same hu) hi 1 (by omega) false (by simp; omega)
          clear m hi h0 hx hat hs hr hle
          go_enter Tryz.func93, Tryz.ntmps93
          go_wp2_with fail
          refine Calls.mono HST.out ?_
          rintro e w1 ⟨rfl, hu⟩
          have HR0 : Hid _ := HRM.out w1 hu
          go_wp2_with fail
          refine Calls.mono HR0.out ?_
          rintro e w3 ⟨rfl, hu4⟩
          have hu5 := hu.trans hu4 (fun _ _ f => f)
          go_wp2_with fail
          go_ret
          exact ⟨by rw [errV_no (show (7 : Int) ≠ 0 by omega)]; first | done | rfl, HMM.out.same hu5, MRead.no _ hu5⟩
        · rw [if_neg (fun c => hr c.2.2)]
          have HRM : Hid (∀ w1, Upd (fun _ => False) w w1 → _) := fun w1 hu => hasRoom_any (m.same hu) hi 1 (by omega) true (by simp; omega)
          clear m hi h0 hx hat hs hr hle
          go_enter Tryz.func93, Tryz.ntmps93
          go_wp2_with fail
          refine Calls.mono HST.out ?_
          rintro e w1 ⟨rfl, hu⟩
          have HR0 : Hid _ := HRM.out w1 hu
          go_wp2_with fail
          refine Calls.mono HR0.out ?_
          rintro e w3 ⟨rfl, hu4⟩
          have hu5 := hu.trans hu4 (fun _ _ f => f)
          have HU1 : Hid _ := hu5
          have HM1 : Hid (HM w3 bh bp bf G h) := HMM.out.same hu5
          have HB : Hid _ := HM1.out.go HI.out HX.out (fun g => g.back p)
          have c := HM1.out.cSome hk HX.out
          clear hu hu4 hu5 HR0
          go_wp2_with fail
          refine Calls.mono HB.out ?_
          rintro e w6 ⟨rfl, hm6, hu6⟩
          have HM6 : Hid _ := hm6
          have HU6 : Hid _ := hu6
          clear hm6 hu6 HB
          go_wp2_with fail
          go_ret
          exact ⟨rfl, HM6.out, (MRead.no _ HU1.out).trans HU6.out (fun _ _ f => f)⟩
      · have ds : (x.m.st p.toNat == 2) = false := by simp [hs]
        rw [if_neg (fun c => hs c.2.1)]
        clear m hi h0 hx hat hs hle
        go_enter Tryz.func93, Tryz.ntmps93
        go_wp2_with fail
        refine Calls.mono HST.out ?_
        rintro e w1 ⟨rfl, hu⟩
        have HM1 : Hid (HM w1 bh bp bf G h) := HMM.out.same hu
        have c := HM1.out.cSome hk HX.out
        have HU1 : Hid _ := hu
        have HB : Hid _ := HM1.out.go HI.out HX.out (fun g => g.back p)
        clear hu
        go_wp2_with fail
        refine Calls.mono HB.out ?_
        rintro e w6 ⟨rfl, hm6, hu6⟩
        have HM6 : Hid _ := hm6
        have HU6 : Hid _ := hu6
        clear hm6 hu6 HB
        go_wp2_with fail
        go_ret
        exact ⟨rfl, HM6.out, (MRead.no _ HU1.out).trans HU6.out (fun _ _ f => f)⟩
/-- A guest goes. -/
theorem HM.off {n : Nat} (hn : n < 4) (m : HM w bh bp bf G (h.put n (s', x'))) : HM (w.setCell ⟨bh, 1 + n, none⟩ (.pointer none)) bh bp bf G (hOff s' h n) := by
  have u := Upd.one w bh (1 + n) (.pointer none)
  have hne : ∀ i y, (hOff s' h n).g i = some y → i ≠ n ∧ (h.put n (s', x')).g i = some y := fun i y hy => by
    have hy : setAt h.g n none i = some y := hy
    by_cases e : i = n
    · subst e; rw [setAt_same] at hy; cases hy
    · rw [setAt_other _ _ _ _ e] at hy; exact ⟨e, (setAt_other _ _ _ _ e).trans hy⟩
  have hc := m.cg n hn
  have hp := m.hp
  refine ⟨?_, fun i hi => ?_, fun o => by rw [World.frozen?_setCell]; exact m.fz o, m.pool.upd u (fun e => hp.1 e.symm) (fun e => hp.2 e.symm) m.lt.2.2, fun i y hy => ?_, fun i y hy => m.ap i y (hne i y hy).2, hp, fun i y hy => m.ne i y (hne i y hy).2, fun i j y z hy hz e => m.nx i j y z (hne i y hy).2 (hne j z hz).2 e, m.hn⟩
  · rw [World.cell?_setCell_other _ _ _ _ (addr_ne (Or.inr (by omega)))]; exact m.c0
  · by_cases e : i = n
    · subst e
      rw [World.cell?_setCell_same _ _ _ hc, show (hOff s' h i).g i = none from setAt_same _ _ _]
      rfl
    · rw [World.cell?_setCell_other _ _ _ _ (addr_ne (Or.inr (by omega))), m.cg i hi, show (h.put n (s', x')).g i = h.g i from setAt_other _ _ _ _ e, show (hOff s' h n).g i = h.g i from setAt_other _ _ _ _ e]
  · have h1 := (hne i y hy).2
    exact (m.gu i y h1).upd u (fun k hk e => m.ne i y h1 (by rw [← e]; exact hk))
set_option maxHeartbeats 1000000 in
theorem hRemove_m (m : HM w bh bp bf G h) (hi : HInv h W) (n : Int) : Calls Tryz.prog 89 #[.pointer (some ⟨bh, 0, none⟩), .int .i64 n] w (MPost w bh bp bf G h (hRemove h n)) := by
  have HMM : Hid (HM w bh bp bf G h) := m
  unfold hRemove
  by_cases h0 : 0 < hWho h n
  · rw [if_pos h0]
    have HG : Hid _ := guest_no m n h0
    have HE : Hid _ := errV_who h0
    clear m hi h0
    go_enter Tryz.func89, Tryz.ntmps89
    go_wp2_with fail
    refine Calls.mono HG.out ?_
    rintro e w1 ⟨rfl, hu⟩
    go_wp2_with fail
    go_ret
    exact ⟨by rw [HE.out]; first | done | rfl, HMM.out.same hu, MRead.no _ hu⟩
  · rw [if_neg h0]
    obtain ⟨k, x, rfl, hk, hx, hat⟩ := hWho_zero (show hWho h n = 0 by have := hWho_le (h := h) n; omega)
    rw [hat, Int.toNat_natCast]
    have HG : Hid _ := guest_yes m hk hx
    have HX : Hid (h.g k = some x) := hx
    have HI : Hid (HInv h W) := hi
    have k0 : (0 : Int) ≤ (k : Int) := by omega
    have k1 : (k : Int) < 4 := by omega
    clear m hi h0 hx hat
    go_enter Tryz.func89, Tryz.ntmps89
    go_wp2_with fail
    refine Calls.mono HG.out ?_
    rintro e w1 ⟨rfl, hu⟩
    have HU1 : Hid _ := hu
    clear hu
    go_wp2_with fail
    go_loopg [17] 16 (fun g i wr => ∃ j : Nat, j + g = 16 ∧ i = .int .i64 j ∧ Hid (HM wr bh bp bf G (h.put k (gClear h.s x j))) ∧ Hid (Upd (Own bh bp bf G h) w wr))
    case atStart => exact ⟨0, by omega, rfl, by rw [show h.put k (gClear h.s x 0) = h from Hs.put_self HX.out]; exact HMM.out.same HU1.out, MRead.no _ HU1.out⟩
    case round =>
      obtain ⟨j, hj, rfl, HMj, HUj⟩ := hrel
      have HJ : Hid _ := hj
      clear hj
      by_cases hlt : j < 16
      · have HC : Hid _ := HMj.out.go (HI.out.clear HX.out j) (put_at _ _ _) (fun g => g.unplug (j : Int))
        go_wp2_with fail
        refine Calls.mono HC.out ?_
        rintro e w2 ⟨rfl, hm2, hu2⟩
        rw [put_put] at hm2
        have HM2 : Hid (HM w2 bh bp bf G (h.put k (gClear h.s x (j + 1)))) := hm2
        have HU2 : Hid (Upd (Own bh bp bf G h) w w2) := HUj.out.trans hu2 (fun i _ e => own_put HX.out e)
        clear hm2 hu2 HC
        go_wp2_with fail
        go_roundg (16 - (j + 1))
        case rel => exact ⟨j + 1, by omega, by go_num, HM2.out, HU2.out⟩
        case measure => have := HJ.out; omega
      · obtain rfl : j = 16 := by have := HJ.out; omega
        have c := HMj.out.cSome hk (put_at _ _ _)
        have z := HMj.out.fz (1 + k)
        have HO : Hid _ := HM.off hk HMj.out
        have HU : Hid _ := HUj.out.trans (Upd.one wr bh (1 + k) (.pointer none)) (fun i _ e => Or.inl e)
        go_wp2_with fail
        go_ret
        exact ⟨by rw [errV_zero]; first | done | rfl, HO.out, HU.out⟩
end Go.Proofs.YtadpibcgjgcjhabGreatDoor
