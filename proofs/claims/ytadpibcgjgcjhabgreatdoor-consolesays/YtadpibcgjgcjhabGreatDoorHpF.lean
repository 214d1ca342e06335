/- Package host: hasRoom, block, Plug, Unplug. -/
import Derived.Test.YtadpibcgjgcjhabGreatDoorHpE
namespace Go.Proofs.YtadpibcgjgcjhabGreatDoor
open Go.ChangeShapes Go.WideShapes Go.ChangeAt Go.RowKit
set_option maxRecDepth 100000
attribute [local go_sem ↓] Go.wp_at_zero Go.wp_at_succ
variable {w w' : World} {bh bp bf : Nat} {G G' : Nat → G3} {h h' : Hs} {x : Gs} {s' : Pl} {x' : Gs} {b : Mp} {W : Int}

theorem hasRoom_any (m : HM w bh bp bf G h) (hi : HInv h W) (k : Nat) (hk : k ≤ 4) (r : Bool) (hr : decide (((pln (rowS h) 64 : Nat) : Int) + (k : Int) ≤ (h.s.n : Int)) = r) : Calls Tryz.prog 121 #[.pointer (some ⟨bh, 0, none⟩), .int .i64 (k : Int)] w (MRead w (.bool r)) := by
  have hle := pln_le (rowS h) 64
  have HP : Hid (∀ w1, Upd (fun _ => False) w w1 → Calls Tryz.prog 58 #[.pointer (some ⟨bh, 0, none⟩)] w1 (MRead w1 (.int .i64 (pln (rowS h) 64 : Nat)))) := fun w1 hu => hPromised_any (m.same hu) hi
  have HSZ : Hid (∀ w1, Upd (fun _ => False) w w1 → Calls Tryz.prog 153 #[.pointer (some ⟨bp, 0, none⟩)] w1 fun e w' => e = .returned (.int .i64 h.s.n) ∧ w' = w1) := fun w1 hu => size_any w1 bp bf h.s (m.same hu).pool
  have c0 := m.c0
  revert hle HP hr
  generalize pln (rowS h) 64 = P
  intro hr hle HP
  have wp : IntKind.i64.wrap ((P : Int) + (k : Int)) = (P : Int) + (k : Int) := by rw [IntKind.wrap_i64]; omega
  clear m hi
  go_enter Tryz.func121, Tryz.ntmps121
  go_wp2_with fail
  go_region_held3 (fun w' => w'.cell? ⟨bh, 0, none⟩ = some (.pointer (some ⟨bp, 0, none⟩))) (first | exact c0 | exact h4c)
    (first
      | (go_at_call 58; refine Calls.mono (HP.out _ (by first | exact Upd.refl _ _ | exact (Upd.refl _ _).drew)) ?_; rintro e w4 ⟨rfl, hu4⟩; have h4c : w4.cell? ⟨bh, 0, none⟩ = some (.pointer (some ⟨bp, 0, none⟩)) := hu4.cell (by exact c0) (fun f => f))
      | (go_at_call 153; refine Calls.mono (HSZ.out _ (((Upd.refl (fun _ => False) w).drew).trans hu4 (fun _ _ f => f))) ?_; rintro e w5 ⟨rfl, hw5⟩; subst hw5))
  all_goals
    go_wp2_with fail
    go_ret
    exact ⟨rfl, ((Upd.refl (fun _ => False) w).drew).trans hu4 (fun _ _ f => f)⟩
theorem block_no (m : HM w bh bp bf G h) (n c : Int) (h0 : 0 < hWho h n) : Calls Tryz.prog 120 #[.pointer (some ⟨bh, 0, none⟩), .int .i64 n, .int .i64 c] w (MRead w (.tuple #[.pointer none, .int .i64 0, .iface 37 (.int .i64 (hWho h n))])) := by
  have HG : Hid _ := guest_no m n h0
  clear m h0
  go_enter Tryz.func120, Tryz.ntmps120
  go_wp2_with fail
  refine Calls.mono HG.out ?_
  rintro e w1 ⟨rfl, hu⟩
  go_wp2_with fail
  exact bodyPost_ret (v := .tuple #[.pointer none, .int .i64 0, .iface 37 (.int .i64 (hWho h n))]) (by simp [results, Tryz.results120, go_sem]) rfl ⟨rfl, hu⟩
theorem block_out {k : Nat} (m : HM w bh bp bf G h) (hk : k < 4) (hx : h.g k = some x) (c : Int) (hc : c < 0 ∨ 3 < c) : Calls Tryz.prog 120 #[.pointer (some ⟨bh, 0, none⟩), .int .i64 (k : Int), .int .i64 c] w (MRead w (.tuple #[.pointer none, .int .i64 0, .iface 37 (.int .i64 1)])) := by
  have HG : Hid _ := guest_yes m hk hx
  clear m hx
  rcases hc with hc | hc
  · have d0 : decide (c < 0) = true := by simp; omega
    go_enter Tryz.func120, Tryz.ntmps120
    go_wp2_with fail
    refine Calls.mono HG.out ?_
    rintro e w1 ⟨rfl, hu⟩
    go_wp2_with fail
    exact bodyPost_ret (v := .tuple #[.pointer none, .int .i64 0, .iface 37 (.int .i64 1)]) (by simp [results, Tryz.results120, go_sem]) rfl ⟨rfl, hu⟩
  · have d0 : decide (c < 0) = false := by simp; omega
    have d1 : decide (4 ≤ c) = true := by simp; omega
    go_enter Tryz.func120, Tryz.ntmps120
    go_wp2_with fail
    refine Calls.mono HG.out ?_
    rintro e w1 ⟨rfl, hu⟩
    go_wp2_with fail
    exact bodyPost_ret (v := .tuple #[.pointer none, .int .i64 0, .iface 37 (.int .i64 1)]) (by simp [results, Tryz.results120, go_sem]) rfl ⟨rfl, hu⟩
theorem block_yes {k q : Nat} (m : HM w bh bp bf G h) (hk : k < 4) (hx : h.g k = some x) (hq : q < 4) : Calls Tryz.prog 120 #[.pointer (some ⟨bh, 0, none⟩), .int .i64 (k : Int), .int .i64 (q : Int)] w (MRead w (.tuple #[.pointer (some ⟨(G k).g, 0, none⟩), .int .i64 ((4 * q : Nat) : Int), .nilIface])) := by
  have HG : Hid _ := guest_yes m hk hx
  have d0 : decide ((q : Int) < 0) = false := by simp
  have d1 : decide ((4 : Int) ≤ (q : Int)) = false := by simp; omega
  have wq : IntKind.i64.wrap ((q : Int) * 4) = (q : Int) * 4 := by rw [IntKind.wrap_i64]; omega
  have e4 : ((4 * q : Nat) : Int) = (q : Int) * 4 := by omega
  rw [e4]
  clear m hx e4
  go_enter Tryz.func120, Tryz.ntmps120
  go_wp2_with fail
  refine Calls.mono HG.out ?_
  rintro e w1 ⟨rfl, hu⟩
  go_wp2_with fail
  exact bodyPost_ret (v := .tuple #[.pointer (some ⟨(G k).g, 0, none⟩), .int .i64 ((q : Int) * 4), .nilIface]) (by simp [results, Tryz.results120, go_sem]) rfl ⟨rfl, hu⟩
theorem enters_gUnplug : ∀ args w, (callFunc 119 args).run Tryz.prog w = .ok (.enter 119 args) w := enters_of Tryz.func119 (by kernel_rfl) rfl
theorem enters_gPlug : ∀ args w, (callFunc 123 args).run Tryz.prog w = .ok (.enter 123 args) w := enters_of Tryz.func123 (by kernel_rfl) rfl
theorem gUnplug_err (s : Pl) (x : Gs) (n : Int) : (gUnplug s x n).1 ≠ 0 → 0 < (gUnplug s x n).1 := by
  unfold gUnplug gMap unplugR
  repeat' split
  all_goals simp
/-- A block's pages are unplugged. -/
theorem each_unplug {k q : Nat} (m : HM w bh bp bf G h) (hi : HInv h W) (hx : h.g k = some x) (hq : q < 4) : Calls Tryz.prog 122 #[.int .i64 ((4 * q : Nat) : Int), .func (.func 119) #[.pointer (some ⟨(G k).g, 0, none⟩)] #[]] w (MPost w bh bp bf G h ((gUnplugs h.s x q 4).1, h.put k (gUnplugs h.s x q 4).2)) := by
  have key := each_any w (4 * q) 119 #[.pointer (some ⟨(G k).g, 0, none⟩)]
    (fun j wr => (gUnplugs h.s x q j).1 = 0 ∧ HM wr bh bp bf G (h.put k (gUnplugs h.s x q j).2) ∧ Upd (Own bh bp bf G h) w wr)
    (fun c wr => (gUnplugs h.s x q 4).1 = c ∧ HM wr bh bp bf G (h.put k (gUnplugs h.s x q 4).2) ∧ Upd (Own bh bp bf G h) w wr) (by omega) enters_gUnplug (fun j wr hj hP => ?_) ⟨rfl, by rw [show h.put k (gUnplugs h.s x q 0).2 = h from Hs.put_self hx]; exact m, Upd.refl _ _⟩
  · refine key.mono ?_
    rintro e w' (⟨rfl, h1, h2, h3⟩ | ⟨c, hc, rfl, h1, h2, h3⟩)
    · exact ⟨by rw [h1, errV_zero], h2, h3⟩
    · exact ⟨by rw [h1, errV_no hc], h2, h3⟩
  · obtain ⟨h1, h2, h3⟩ := hP
    have hst : gUnplugs h.s x q (j + 1) = gUnplug (gUnplugs h.s x q j).2.1 (gUnplugs h.s x q j).2.2 ((4 * q + j : Nat) : Int) := by
      show (if 0 < (gUnplugs h.s x q j).1 then gUnplugs h.s x q j else gUnplug (gUnplugs h.s x q j).2.1 (gUnplugs h.s x q j).2.2 ((4 * q + j : Nat) : Int)) = _
      rw [h1, if_neg (by omega)]
    have hend : ∀ i, (gUnplugs h.s x q (j + 1)).1 ≠ 0 → gUnplugs h.s x q (j + 1 + i) = gUnplugs h.s x q (j + 1) := by
      intro i hne
      induction i with
      | zero => rfl
      | succ i ih =>
        show (if 0 < (gUnplugs h.s x q (j + 1 + i)).1 then gUnplugs h.s x q (j + 1 + i) else _) = _
        rw [ih, if_pos (by rw [hst] at hne ⊢; exact gUnplug_err _ _ _ hne)]
    have hc := h2.go (hi.unplugs hx q j) (put_at _ _ _) (fun g => g.unplug ((4 * q + j : Nat) : Int))
    have e1 : (((4 * q : Nat) : Int) + (j : Int)) = ((4 * q + j : Nat) : Int) := by omega
    rw [show ((#[.pointer (some ⟨(G k).g, 0, none⟩)] : Array Value).push (.int .i64 (((4 * q : Nat) : Int) + (j : Int))) ++ #[]) = #[.pointer (some ⟨(G k).g, 0, none⟩), .int .i64 ((4 * q + j : Nat) : Int)] by rw [e1]; rfl]
    refine hc.mono ?_
    rintro e w' ⟨rfl, hm', hu'⟩
    rw [put_put] at hm'
    have hu2 : Upd (Own bh bp bf G h) w w' := h3.trans hu' (fun i _ e => own_put hx e)
    have hm2 : HM w' bh bp bf G (h.put k (gUnplugs h.s x q (j + 1)).2) := by rw [hst]; exact hm'
    have hcd : (gUnplug (gUnplugs h.s x q j).2.1 (gUnplugs h.s x q j).2.2 ((4 * q + j : Nat) : Int)).1 = (gUnplugs h.s x q (j + 1)).1 := by rw [hst]
    show EachP _ _ _ (Ending.returned (errV (gUnplug (gUnplugs h.s x q j).2.1 (gUnplugs h.s x q j).2.2 ((4 * q + j : Nat) : Int)).1)) _
    rw [hcd]
    by_cases h0 : (gUnplugs h.s x q (j + 1)).1 = 0
    · left
      exact ⟨by rw [h0, errV_zero], h0, hm2, hu2⟩
    · right
      have e4 := hend (4 - (j + 1)) h0
      rw [show j + 1 + (4 - (j + 1)) = 4 by omega] at e4
      refine ⟨_, h0, by rw [errV_no h0], ?_⟩
      rw [e4]
      exact ⟨rfl, hm2, hu2⟩
/-- A block's pages are plugged: none is held. -/
theorem each_plug {k q : Nat} (m : HM w bh bp bf G h) (hi : HInv h W) (hx : h.g k = some x) (hq : q < 4) (hz : ∀ j, j < 4 → x.m.st (4 * q + j) = 0) : Calls Tryz.prog 122 #[.int .i64 ((4 * q : Nat) : Int), .func (.func 123) #[.pointer (some ⟨(G k).g, 0, none⟩)] #[]] w (MPost w bh bp bf G h (0, h.put k (gPlugs h.s x q 4))) := by
  have key := each_any w (4 * q) 123 #[.pointer (some ⟨(G k).g, 0, none⟩)]
    (fun j wr => HM wr bh bp bf G (h.put k (gPlugs h.s x q j)) ∧ Upd (Own bh bp bf G h) w wr)
    (fun _ _ => False) (by omega) enters_gPlug (fun j wr hj hP => ?_) ⟨by rw [show h.put k (gPlugs h.s x q 0) = h from Hs.put_self hx]; exact m, Upd.refl _ _⟩
  · refine key.mono ?_
    rintro e w' (⟨rfl, h2, h3⟩ | ⟨c, hc, rfl, h1⟩)
    · exact ⟨by rw [errV_zero], h2, h3⟩
    · exact h1.elim
  · obtain ⟨h2, h3⟩ := hP
    have hc := h2.go (hi.plugs hx q j) (put_at _ _ _) (fun g => g.plug ((4 * q + j : Nat) : Int))
    have e1 : (((4 * q : Nat) : Int) + (j : Int)) = ((4 * q + j : Nat) : Int) := by omega
    rw [show ((#[.pointer (some ⟨(G k).g, 0, none⟩)] : Array Value).push (.int .i64 (((4 * q : Nat) : Int) + (j : Int))) ++ #[]) = #[.pointer (some ⟨(G k).g, 0, none⟩), .int .i64 ((4 * q + j : Nat) : Int)] by rw [e1]; rfl]
    have hst := turnTo_st h.s x q 1 (4 * q + j) j
    rw [if_neg (by omega), hz j hj, ← gPlugs_is h.s x hq hz j (by omega)] at hst
    have h0 : (gPlug (gPlugs h.s x q j).1 (gPlugs h.s x q j).2 ((4 * q + j : Nat) : Int)).1 = 0 := by rw [gPlug_yes _ _ (by omega) hst]
    refine hc.mono ?_
    rintro e w' ⟨rfl, hm', hu'⟩
    rw [put_put] at hm'
    left
    exact ⟨by show Ending.returned (errV (gPlug (gPlugs h.s x q j).1 (gPlugs h.s x q j).2 ((4 * q + j : Nat) : Int)).1) = _; rw [h0, errV_zero], hm', h3.trans hu' (fun i _ e => own_put hx e)⟩
set_option maxHeartbeats 1000000 in
theorem hUnplug_m (m : HM w bh bp bf G h) (hi : HInv h W) (n c : Int) : Calls Tryz.prog 91 #[.pointer (some ⟨bh, 0, none⟩), .int .i64 n, .int .i64 c] w (MPost w bh bp bf G h (hUnplug h n c)) := by
  have HMM : Hid (HM w bh bp bf G h) := m
  unfold hUnplug
  by_cases h0 : 0 < hWho h n
  · rw [if_pos h0]
    have HG : Hid _ := block_no m n c h0
    have HE : Hid _ := errV_who h0
    clear m hi h0
    go_enter Tryz.func91, Tryz.ntmps91
    go_wp2_with fail
    refine Calls.mono HG.out ?_
    rintro e w1 ⟨rfl, hu⟩
    go_wp2_with fail
    go_ret
    exact ⟨by rw [HE.out]; first | done | rfl, HMM.out.same hu, MRead.no _ hu⟩
  · rw [if_neg h0]
    obtain ⟨k, x, rfl, hk, hx, hat⟩ := hWho_zero (show hWho h n = 0 by have := hWho_le (h := h) n; omega)
    rw [hat, Int.toNat_natCast]
    by_cases hc : c < 0 ∨ 3 < c
    · rw [if_pos hc]
      have HG : Hid _ := block_out m hk hx c hc
      clear m hi h0 hx hat hc
      go_enter Tryz.func91, Tryz.ntmps91
      go_wp2_with fail
      refine Calls.mono HG.out ?_
      rintro e w1 ⟨rfl, hu⟩
      go_wp2_with fail
      go_ret
      exact ⟨by rw [errV1]; first | done | rfl, HMM.out.same hu, MRead.no _ hu⟩
    · rw [if_neg hc]
      obtain ⟨q, rfl⟩ := Int.eq_ofNat_of_zero_le (show 0 ≤ c by omega)
      rw [Int.toNat_natCast]
      have hq : q < 4 := by omega
      have HG : Hid _ := block_yes m hk hx hq
      have HS : Hid (∀ w1, Upd (fun _ => False) w w1 → _) := fun w1 hu => each_unplug (m.same hu) hi hx hq
      clear m hi h0 hx hat hc
      go_enter Tryz.func91, Tryz.ntmps91
      go_wp2_with fail
      refine Calls.mono HG.out ?_
      rintro e w1 ⟨rfl, hu⟩
      have HSw : Hid _ := HS.out w1 hu
      go_wp2_with fail
      refine Calls.mono HSw.out ?_
      rintro e w2 ⟨rfl, hm2, hu2⟩
      have HM2 : Hid _ := hm2
      have HU2 : Hid _ := hu2
      clear hm2 hu2 HS HSw
      go_wp2_with fail
      go_ret
      exact ⟨rfl, HM2.out, (MRead.no _ hu).trans HU2.out (fun _ _ f => f)⟩
set_option maxHeartbeats 1000000 in
theorem hPlug_m (m : HM w bh bp bf G h) (hi : HInv h W) (hb : ∀ i x, h.g i = some x → Blk x) (n c : Int) : Calls Tryz.prog 90 #[.pointer (some ⟨bh, 0, none⟩), .int .i64 n, .int .i64 c] w (MPost w bh bp bf G h (hPlug h n c)) := by
  have HMM : Hid (HM w bh bp bf G h) := m
  unfold hPlug
  by_cases h0 : 0 < hWho h n
  · rw [if_pos h0]
    have HG : Hid _ := block_no m n c h0
    have HE : Hid _ := errV_who h0
    clear m hi h0
    go_enter Tryz.func90, Tryz.ntmps90
    go_wp2_with fail
    refine Calls.mono HG.out ?_
    rintro e w1 ⟨rfl, hu⟩
    go_wp2_with fail
    go_ret
    exact ⟨by rw [HE.out]; first | done | rfl, HMM.out.same hu, MRead.no _ hu⟩
  · rw [if_neg h0]
    obtain ⟨k, x, rfl, hk, hx, hat⟩ := hWho_zero (show hWho h n = 0 by have := hWho_le (h := h) n; omega)
    rw [hat, Int.toNat_natCast]
    by_cases hc : c < 0 ∨ 3 < c
    · rw [if_pos hc]
      have HG : Hid _ := block_out m hk hx c hc
      clear m hi h0 hx hat hc
      go_enter Tryz.func90, Tryz.ntmps90
      go_wp2_with fail
      refine Calls.mono HG.out ?_
      rintro e w1 ⟨rfl, hu⟩
      go_wp2_with fail
      go_ret
      exact ⟨by rw [errV1]; first | done | rfl, HMM.out.same hu, MRead.no _ hu⟩
    · rw [if_neg hc]
      obtain ⟨q, rfl⟩ := Int.eq_ofNat_of_zero_le (show 0 ≤ c by omega)
      rw [Int.toNat_natCast]
      have hq : q < 4 := by omega
      have HG : Hid _ := block_yes m hk hx hq
      have HST : Hid (∀ w1, Upd (fun _ => False) w w1 → Calls Tryz.prog 111 #[.pointer (some ⟨(G k).g, 0, none⟩), .int .i64 ((4 * q : Nat) : Int)] w1 fun e w' => e = .returned (.tuple #[.int .i64 (x.m.st (4 * q)), .nilIface]) ∧ Upd (fun _ => False) w1 w') := fun w1 hu => ((m.same hu).gg hi hx).stateOf (4 * q) (by omega)
      by_cases hs : x.m.st (4 * q) ≠ 0
      · rw [if_pos hs]
        have ds : (x.m.st (4 * q) != 0) = true := by simp [hs]
        clear m hi h0 hx hat hc hs
        go_enter Tryz.func90, Tryz.ntmps90
        go_wp2_with fail
        refine Calls.mono HG.out ?_
        rintro e w1 ⟨rfl, hu⟩
        have HSw : Hid _ := HST.out w1 hu
        go_wp2_with fail
        refine Calls.mono HSw.out ?_
        rintro e w2 ⟨rfl, hu2⟩
        have hu3 := hu.trans hu2 (fun _ _ f => f)
        go_wp2_with fail
        go_ret
        exact ⟨by rw [errV4]; first | done | rfl, HMM.out.same hu3, MRead.no _ hu3⟩
      · rw [if_neg hs]
        have hs0 : x.m.st (4 * q) = 0 := by omega
        have ds : (x.m.st (4 * q) != 0) = false := by simp [hs0]
        have HZ : Hid (∀ j, j < 4 → x.m.st (4 * q + j) = 0) := fun j hj => (hb k x hx q j hq hj).1 hs0
        have HX : Hid (h.g k = some x) := hx
        have HI : Hid (HInv h W) := hi
        by_cases hr : h.s.n < pln (rowS h) 64 + 4
        · rw [if_pos hr]
          have HRM : Hid (∀ w1, Upd (fun _ => False) w w1 → _) := fun w1 hu => hasRoom_any (m.same hu) hi 4 (by omega) false (by simp; omega)
          clear m hi h0 hx hat hc hs hs0 hb hr
          go_enter Tryz.func90, Tryz.ntmps90
          go_wp2_with fail
          refine Calls.mono HG.out ?_
          rintro e w1 ⟨rfl, hu⟩
          have HSw : Hid _ := HST.out w1 hu
          go_wp2_with fail
          refine Calls.mono HSw.out ?_
          rintro e w2 ⟨rfl, hu2⟩
          have hu3 := hu.trans hu2 (fun _ _ f => f)
          have HRw : Hid _ := HRM.out w2 hu3
          go_wp2_with fail
          refine Calls.mono HRw.out ?_
          rintro e w3 ⟨rfl, hu4⟩
          have hu5 := hu3.trans hu4 (fun _ _ f => f)
          go_wp2_with fail
          go_ret
          exact ⟨by rw [errV_no (show (7 : Int) ≠ 0 by omega)]; first | done | rfl, HMM.out.same hu5, MRead.no _ hu5⟩
        · rw [if_neg hr]
          have HRM : Hid (∀ w1, Upd (fun _ => False) w w1 → _) := fun w1 hu => hasRoom_any (m.same hu) hi 4 (by omega) true (by simp; omega)
          clear m hi h0 hx hat hc hs hs0 hb hr
          go_enter Tryz.func90, Tryz.ntmps90
          go_wp2_with fail
          refine Calls.mono HG.out ?_
          rintro e w1 ⟨rfl, hu⟩
          have HSw : Hid _ := HST.out w1 hu
          go_wp2_with fail
          refine Calls.mono HSw.out ?_
          rintro e w2 ⟨rfl, hu2⟩
          have hu3 := hu.trans hu2 (fun _ _ f => f)
          have HRw : Hid _ := HRM.out w2 hu3
          go_wp2_with fail
          refine Calls.mono HRw.out ?_
          rintro e w3 ⟨rfl, hu4⟩
          have hu5 := hu3.trans hu4 (fun _ _ f => f)
          have HEw : Hid _ := each_plug (HMM.out.same hu5) HI.out HX.out hq HZ.out
          have HU5 : Hid _ := hu5
          clear hu hu2 hu3 hu4 hu5
          go_wp2_with fail
          refine Calls.mono HEw.out ?_
          rintro e w6 ⟨rfl, hm6, hu6⟩
          have HM6 : Hid _ := hm6
          have HU6 : Hid _ := hu6
          clear hm6 hu6 HEw
          go_wp2_with fail
          go_ret
          exact ⟨rfl, HM6.out, (MRead.no _ HU5.out).trans HU6.out (fun _ _ f => f)⟩
end Go.Proofs.YtadpibcgjgcjhabGreatDoor
