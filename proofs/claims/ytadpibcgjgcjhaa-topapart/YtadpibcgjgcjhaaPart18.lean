/- Package host: hasRoom, block, Plug, Unplug. -/
import Derived.Test.YtadpibcgjgcjhaaPart17
namespace Go.Proofs.Ytadpibcgjgcjhaa
open Go.ChangeShapes Go.WideShapes Go.ChangeAt Go.RowKit
set_option maxRecDepth 100000
attribute [local go_sem ↓] Go.wp_at_zero Go.wp_at_succ
variable {w w' : World} {bh bp bf : Nat} {G G' : Nat → G3} {h h' : Hs} {x : Gs} {s' : Pl} {x' : Gs} {b : Mp} {W : Int}

theorem hasRoom_any (m : HM w bh bp bf G h) (hi : HInv h W) (k : Nat) (hk : k ≤ 4) (r : Bool) (hr : decide (((pln (rowS h) 64 : Nat) : Int) + (k : Int) ≤ (h.s.n : Int)) = r) : Calls Try.prog 114 #[.pointer (some ⟨bh, 0, none⟩), .int .i64 (k : Int)] w (MRead w (.bool r)) := by
  have hle := pln_le (rowS h) 64
  have HP : Hid (∀ w1, Upd (fun _ => False) w w1 → Calls Try.prog 131 #[.pointer (some ⟨bh, 0, none⟩)] w1 (MRead w1 (.int .i64 (pln (rowS h) 64 : Nat)))) := fun w1 hu => hPromised_any (m.same hu) hi
  have HSZ : Hid (∀ w1, Upd (fun _ => False) w w1 → Calls Try.prog 60 #[.pointer (some ⟨bp, 0, none⟩)] w1 fun e w' => e = .returned (.int .i64 h.s.n) ∧ w' = w1) := fun w1 hu => size_any w1 bp bf h.s (m.same hu).pool
  have c0 := m.c0
  revert hle HP hr
  generalize pln (rowS h) 64 = P
  intro hr hle HP
  have wp : IntKind.i64.wrap ((P : Int) + (k : Int)) = (P : Int) + (k : Int) := by rw [IntKind.wrap_i64]; omega
  clear m hi
  go_enter Try.func114, Try.ntmps114
  go_wp2_with fail
  go_region_held3 (fun w' => w'.cell? ⟨bh, 0, none⟩ = some (.pointer (some ⟨bp, 0, none⟩))) (first | exact c0 | exact h4c)
    (first
      | (go_at_call 131; refine Calls.mono (HP.out _ (by first | exact Upd.refl _ _ | exact (Upd.refl _ _).drew)) ?_; rintro e w4 ⟨rfl, hu4⟩; have h4c : w4.cell? ⟨bh, 0, none⟩ = some (.pointer (some ⟨bp, 0, none⟩)) := hu4.cell (by exact c0) (fun f => f))
      | (go_at_call 60; refine Calls.mono (HSZ.out _ (((Upd.refl (fun _ => False) w).drew).trans hu4 (fun _ _ f => f))) ?_; rintro e w5 ⟨rfl, hw5⟩; subst hw5))
  all_goals
    go_wp2_with fail
    go_ret
    exact ⟨rfl, ((Upd.refl (fun _ => False) w).drew).trans hu4 (fun _ _ f => f)⟩
theorem block_no (m : HM w bh bp bf G h) (n c : Int) (h0 : 0 < hWho h n) : Calls Try.prog 112 #[.pointer (some ⟨bh, 0, none⟩), .int .i64 n, .int .i64 c] w (MRead w (.tuple #[.pointer none, .int .i64 0, .iface 110 (.int .i64 (hWho h n))])) := by
  have HG : Hid _ := guest_no m n h0
  clear m h0
  go_enter Try.func112, Try.ntmps112
  go_wp2_with fail
  refine Calls.mono HG.out ?_
  rintro e w1 ⟨rfl, hu⟩
  go_wp2_with fail
  exact bodyPost_ret (v := .tuple #[.pointer none, .int .i64 0, .iface 110 (.int .i64 (hWho h n))]) (by simp [results, Try.results112, go_sem]) rfl ⟨rfl, hu⟩
theorem block_out {k : Nat} (m : HM w bh bp bf G h) (hk : k < 4) (hx : h.g k = some x) (c : Int) (hc : c < 0 ∨ 3 < c) : Calls Try.prog 112 #[.pointer (some ⟨bh, 0, none⟩), .int .i64 (k : Int), .int .i64 c] w (MRead w (.tuple #[.pointer none, .int .i64 0, .iface 110 (.int .i64 1)])) := by
  have HG : Hid _ := guest_yes m hk hx
  clear m hx
  rcases hc with hc | hc
  · have d0 : decide (c < 0) = true := by simp; omega
    go_enter Try.func112, Try.ntmps112
    go_wp2_with fail
    refine Calls.mono HG.out ?_
    rintro e w1 ⟨rfl, hu⟩
    go_wp2_with fail
    exact bodyPost_ret (v := .tuple #[.pointer none, .int .i64 0, .iface 110 (.int .i64 1)]) (by simp [results, Try.results112, go_sem]) rfl ⟨rfl, hu⟩
  · have d0 : decide (c < 0) = false := by simp; omega
    have d1 : decide (4 ≤ c) = true := by simp; omega
    go_enter Try.func112, Try.ntmps112
    go_wp2_with fail
    refine Calls.mono HG.out ?_
    rintro e w1 ⟨rfl, hu⟩
    go_wp2_with fail
    exact bodyPost_ret (v := .tuple #[.pointer none, .int .i64 0, .iface 110 (.int .i64 1)]) (by simp [results, Try.results112, go_sem]) rfl ⟨rfl, hu⟩
theorem block_yes {k q : Nat} (m : HM w bh bp bf G h) (hk : k < 4) (hx : h.g k = some x) (hq : q < 4) : Calls Try.prog 112 #[.pointer (some ⟨bh, 0, none⟩), .int .i64 (k : Int), .int .i64 (q : Int)] w (MRead w (.tuple #[.pointer (some ⟨(G k).g, 0, none⟩), .int .i64 ((4 * q : Nat) : Int), .nilIface])) := by
  have HG : Hid _ := guest_yes m hk hx
  have d0 : decide ((q : Int) < 0) = false := by simp
  have d1 : decide ((4 : Int) ≤ (q : Int)) = false := by simp; omega
  have wq : IntKind.i64.wrap ((q : Int) * 4) = (q : Int) * 4 := by rw [IntKind.wrap_i64]; omega
  have e4 : ((4 * q : Nat) : Int) = (q : Int) * 4 := by omega
  rw [e4]
  clear m hx e4
  go_enter Try.func112, Try.ntmps112
  go_wp2_with fail
  refine Calls.mono HG.out ?_
  rintro e w1 ⟨rfl, hu⟩
  go_wp2_with fail
  exact bodyPost_ret (v := .tuple #[.pointer (some ⟨(G k).g, 0, none⟩), .int .i64 ((q : Int) * 4), .nilIface]) (by simp [results, Try.results112, go_sem]) rfl ⟨rfl, hu⟩
theorem enters_gUnplug : ∀ args w, (callFunc 111 args).run Try.prog w = .ok (.enter 111 args) w := enters_of Try.func111 (by kernel_rfl) rfl
theorem enters_gPlug : ∀ args w, (callFunc 116 args).run Try.prog w = .ok (.enter 116 args) w := enters_of Try.func116 (by kernel_rfl) rfl
theorem gUnplug_err (s : Pl) (x : Gs) (n : Int) : (gUnplug s x n).1 ≠ 0 → 0 < (gUnplug s x n).1 := by
  unfold gUnplug gMap unplugR
  repeat' split
  all_goals simp
/-- A block's pages are unplugged. -/
theorem each_unplug {k q : Nat} (m : HM w bh bp bf G h) (hi : HInv h W) (hx : h.g k = some x) (hq : q < 4) : Calls Try.prog 115 #[.int .i64 ((4 * q : Nat) : Int), .func (.func 111) #[.pointer (some ⟨(G k).g, 0, none⟩)] #[]] w (MPost w bh bp bf G h ((gUnplugs h.s x q 4).1, h.put k (gUnplugs h.s x q 4).2)) := by
  have key := each_any w (4 * q) 111 #[.pointer (some ⟨(G k).g, 0, none⟩)]
    (fun j wr => (gUnplugs h.s x q j).1 = 0 ∧ HM wr bh bp bf G (h.put k (gUnplugs h.s x q j).2) ∧ Upd (Own bh bp bf G h) w wr)
    (fun c wr => (gUnplugs h.s x q 4).1 = c ∧ HM wr bh bp bf G (h.put k (gUnplugs h.s x q 4).2) ∧ Upd (Own bh bp bf G h) w wr) (by omega) enters_gUnplug (fun j wr hj hP => ?_) ⟨rfl, by rw [show h.put k (gUnplugs h.s x q 0).2 = h from Hs.put_self hx]; exact m, Upd.refl _ _⟩
  · refine key.mono ?_
    rintro e w' (⟨rfl, h1, h2, h3⟩ | ⟨c, hc, rfl, h1, h2, h3⟩)
    · exact ⟨by rw [h1, errV_zero], h2, h3⟩
    · exact ⟨by rw [h1, errV_no hc], h2, h3⟩
  · obtain ⟨h1, h2, h3⟩ := hP
    have hst : gUnplugs h.s x q (j + 1) = gUnplug (gUnplugs h.s x q j).2.1 (gUnplugs h.s x q j).2.2 ((4 * q + j : Nat) : Int) := by
      show (if 0 < (gUnplugs h.s x q j).1 then gUnplugs h.s x q j else gUnplug (gUnplugs h.s x q j).2.1 (gUnplugs h.s x q j).2.2 ((4 * q + j : Nat) : Int)) = _
      rw [h1, if_neg (by omega)]
    have hend : ∀ i, (gUnplugs h.s x q (j + 1)).1 ≠ 0 → gUnplugs h.s x q (j + 1 + i) = gUnplugs h.s x q (j + 1) := by
      intro i hne
      induction i with
      | zero => rfl
      | succ i ih =>
        show (if 0 < (gUnplugs h.s x q (j + 1 + i)).1 then gUnplugs h.s x q (j + 1 + i) else _) = _
        rw [ih, if_pos (by rw [hst] at hne ⊢; exact gUnplug_err _ _ _ hne)]
    have hc := h2.go (hi.unplugs hx q j) (put_at _ _ _) (fun g => g.unplug ((4 * q + j : Nat) : Int))
    have e1 : (((4 * q : Nat) : Int) + (j : Int)) = ((4 * q + j : Nat) : Int) := by omega
    rw [show ((#[.pointer (some ⟨(G k).g, 0, none⟩)] : Array Value).push (.int .i64 (((4 * q : Nat) : Int) + (j : Int))) ++ #[]) = #[.pointer (some ⟨(G k).g, 0, none⟩), .int .i64 ((4 * q + j : Nat) : Int)] by rw [e1]; rfl]
    refine hc.mono ?_
    rintro e w' ⟨rfl, hm', hu'⟩
    rw [put_put] at hm'
    have hu2 : Upd (Own bh bp bf G h) w w' := h3.trans hu' (fun i _ e => own_put hx e)
    have hm2 : HM w' bh bp bf G (h.put k (gUnplugs h.s x q (j + 1)).2) := by rw [hst]; exact hm'
    have hcd : (gUnplug (gUnplugs h.s x q j).2.1 (gUnplugs h.s x q j).2.2 ((4 * q + j : Nat) : Int)).1 = (gUnplugs h.s x q (j + 1)).1 := by rw [hst]
    show EachP _ _ _ (Ending.returned (errV (gUnplug (gUnplugs h.s x q j).2.1 (gUnplugs h.s x q j).2.2 ((4 * q + j : Nat) : Int)).1)) _
    rw [hcd]
    by_cases h0 : (gUnplugs h.s x q (j + 1)).1 = 0
    · left
      exact ⟨by rw [h0, errV_zero], h0, hm2, hu2⟩
    · right
      have e4 := hend (4 - (j + 1)) h0
      rw [show j + 1 + (4 - (j + 1)) = 4 by omega] at e4
      refine ⟨_, h0, by rw [errV_no h0], ?_⟩
      rw [e4]
      exact ⟨rfl, hm2, hu2⟩
/-- A block's pages are plugged: none is held. -/
theorem each_plug {k q : Nat} (m : HM w bh bp bf G h) (hi : HInv h W) (hx : h.g k = some x) (hq : q < 4) (hz : ∀ j, j < 4 → x.m.st (4 * q + j) = 0) : Calls Try.prog 115 #[.int .i64 ((4 * q : Nat) : Int), .func (.func 116) #[.pointer (some ⟨(G k).g, 0, none⟩)] #[]] w (MPost w bh bp bf G h (0, h.put k (gPlugs h.s x q 4))) := by
  have key := each_any w (4 * q) 116 #[.pointer (some ⟨(G k).g, 0, none⟩)]
    (fun j wr => HM wr bh bp bf G (h.put k (gPlugs h.s x q j)) ∧ Upd (Own bh bp bf G h) w wr)
    (fun _ _ => False) (by omega) enters_gPlug (fun j wr hj hP => ?_) ⟨by rw [show h.put k (gPlugs h.s x q 0) = h from Hs.put_self hx]; exact m, Upd.refl _ _⟩
  · refine key.mono ?_
    rintro e w' (⟨rfl, h2, h3⟩ | ⟨c, hc, rfl, h1⟩)
    · exact ⟨by rw [errV_zero], h2, h3⟩
    · exact h1.elim
  · obtain ⟨h2, h3⟩ := hP
    have hc := h2.go (hi.plugs hx q j) (put_at _ _ _) (fun g => g.plug ((4 * q + j : Nat) : Int))
    have e1 : (((4 * q : Nat) : Int) + (j : Int)) = ((4 * q + j : Nat) : Int) := by omega
    rw [show ((#[.pointer (some ⟨(G k).g, 0, none⟩)] : Array Value).push (.int .i64 (((4 * q : Nat) : Int) + (j : Int))) ++ #[]) = #[.pointer (some ⟨(G k).g, 0, none⟩), .int .i64 ((4 * q + j : Nat) : Int)] by rw [e1]; rfl]
    have hst := turnTo_st h.s x q 1 (4 * q + j) j
    rw [if_neg (by omega), hz j hj, ← gPlugs_is h.s x hq hz j (by omega)] at hst
    have h0 : (gPlug (gPlugs h.s x q j).1 (gPlugs h.s x q j).2 ((4 * q + j : Nat) : Int)).1 = 0 := by rw [gPlug_yes _ _ (by omega) hst]
    refine hc.mono ?_
    rintro e w' ⟨rfl, hm', hu'⟩
    rw [put_put] at hm'
    left
    exact ⟨by show Ending.returned (errV (gPlug (gPlugs h.s x q j).1 (gPlugs h.s x q j).2 ((4 * q + j : Nat) : Int)).1) = _; rw [h0, errV_zero], hm', h3.trans hu' (fun i _ e => own_put hx e)⟩
set_option maxHeartbeats 1000000 in
theorem hUnplug_m (m : HM w bh bp bf G h) (hi : HInv h W) (n c : Int) : Calls Try.prog 95 #[.pointer (some ⟨bh, 0, none⟩), .int .i64 n, .int .i64 c] w (MPost w bh bp bf G h (hUnplug h n c)) := by
  have HMM : Hid (HM w bh bp bf G h) := m
  unfold hUnplug
  by_cases h0 : 0 < hWho h n
  · rw [if_pos h0]
    have HG : Hid _ := block_no m n c h0
    have HE : Hid _ := errV_who h0
    clear m hi h0
    go_enter Try.func95, Try.ntmps95
    go_wp2_with fail
    refine Calls.mono HG.out ?_
    rintro e w1 ⟨rfl, hu⟩
    go_wp2_with fail
    go_ret
    exact ⟨by rw [HE.out]; first | done | rfl, HMM.out.same hu, MRead.no _ hu⟩
  · rw [if_neg h0]
    obtain ⟨k, x, rfl, hk, hx, hat⟩ := hWho_zero (show hWho h n = 0 by have := hWho_le (h := h) n; omega)
    rw [hat, Int.toNat_natCast]
    by_cases hc : c < 0 ∨ 3 < c
    · rw [if_pos hc]
      have HG : Hid _ := block_out m hk hx c hc
      clear m hi h0 hx hat hc
      go_enter Try.func95, Try.ntmps95
      go_wp2_with fail
      refine Calls.mono HG.out ?_
      rintro e w1 ⟨rfl, hu⟩
      go_wp2_with fail
      go_ret
      exact ⟨by rw [errV1]; first | done | rfl, HMM.out.same hu, MRead.no _ hu⟩
    · rw [if_neg hc]
      obtain ⟨q, rfl⟩ := Int.eq_ofNat_of_zero_le (show 0 ≤ c by omega)
      rw [Int.toNat_natCast]
      have hq : q < 4 := by omega
      have HG : Hid _ := block_yes m hk hx hq
      have HS : Hid (∀ w1, Upd (fun _ => False) w w1 → _) := fun w1 hu => each_unplug (m.same hu) hi hx hq
      clear m hi h0 hx hat hc
      go_enter Try.func95, Try.ntmps95
      go_wp2_with fail
      refine Calls.mono HG.out ?_
      rintro e w1 ⟨rfl, hu⟩
      have HSw : Hid _ := HS.out w1 hu
      go_wp2_with fail
      refine Calls.mono HSw.out ?_
      rintro e w2 ⟨rfl, hm2, hu2⟩
      have HM2 : Hid _ := hm2
      have HU2 : Hid _ := hu2
      clear hm2 hu2 HS HSw
      go_wp2_with fail
      go_ret
      exact ⟨rfl, HM2.out, (MRead.no _ hu).trans HU2.out (fun _ _ f => f)⟩
set_option maxHeartbeats 1000000 in
theorem hPlug_m (m : HM w bh bp bf G h) (hi : HInv h W) (hb : ∀ i x, h.g i = some x → Blk x) (n c : Int) : Calls Try.prog 94 #[.pointer (some ⟨bh, 0, none⟩), .int .i64 n, .int .i64 c] w (MPost w bh bp bf G h (hPlug h n c)) := by
  have HMM : Hid (HM w bh bp bf G h) := m
  unfold hPlug
  by_cases h0 : 0 < hWho h n
  · rw [if_pos h0]
    have HG : Hid _ := block_no m n c h0
    have HE : Hid _ := errV_who h0
    clear m hi h0
    go_enter Try.func94, Try.ntmps94
    go_wp2_with fail
    refine Calls.mono HG.out ?_
    rintro e w1 ⟨rfl, hu⟩
    go_wp2_with fail
    go_ret
    exact ⟨by rw [HE.out]; first | done | rfl, HMM.out.same hu, MRead.no _ hu⟩
  · rw [if_neg h0]
    obtain ⟨k, x, rfl, hk, hx, hat⟩ := hWho_zero (show hWho h n = 0 by have := hWho_le (h := h) n; omega)
    rw [hat, Int.toNat_natCast]
    by_cases hc : c < 0 ∨ 3 < c
    · rw [if_pos hc]
      have HG : Hid _ := block_out m hk hx c hc
      clear m hi h0 hx hat hc
      go_enter Try.func94, Try.ntmps94
      go_wp2_with fail
      refine Calls.mono HG.out ?_
      rintro e w1 ⟨rfl, hu⟩
      go_wp2_with fail
      go_ret
      exact ⟨by rw [errV1]; first | done | rfl, HMM.out.same hu, MRead.no _ hu⟩
    · rw [if_neg hc]
      obtain ⟨q, rfl⟩ := Int.eq_ofNat_of_zero_le (show 0 ≤ c by omega)
      rw [Int.toNat_natCast]
      have hq : q < 4 := by omega
      have HG : Hid _ := block_yes m hk hx hq
      have HST : Hid (∀ w1, Upd (fun _ => False) w w1 → Calls Try.prog 113 #[.pointer (some ⟨(G k).g, 0, none⟩), .int .i64 ((4 * q : Nat) : Int)] w1 fun e w' => e = .returned (.tuple #[.int .i64 (x.m.st (4 * q)), .nilIface]) ∧ Upd (fun _ => False) w1 w') := fun w1 hu => ((m.same hu).gg hi hx).stateOf (4 * q) (by omega)
      by_cases hs : x.m.st (4 * q) ≠ 0
      · rw [if_pos hs]
        have ds : (x.m.st (4 * q) != 0) = true := by simp [hs]
        clear m hi h0 hx hat hc hs
        go_enter Try.func94, Try.ntmps94
        go_wp2_with fail
        refine Calls.mono HG.out ?_
        rintro e w1 ⟨rfl, hu⟩
        have HSw : Hid _ := HST.out w1 hu
        go_wp2_with fail
        refine Calls.mono HSw.out ?_
        rintro e w2 ⟨rfl, hu2⟩
        have hu3 := hu.trans hu2 (fun _ _ f => f)
        go_wp2_with fail
        go_ret
        exact ⟨by rw [errV4]; first | done | rfl, HMM.out.same hu3, MRead.no _ hu3⟩
      · rw [if_neg hs]
        have hs0 : x.m.st (4 * q) = 0 := by omega
        have ds : (x.m.st (4 * q) != 0) = false := by simp [hs0]
        have HZ : Hid (∀ j, j < 4 → x.m.st (4 * q + j) = 0) := fun j hj => (hb k x hx q j hq hj).1 hs0
        have HX : Hid (h.g k = some x) := hx
        have HI : Hid (HInv h W) := hi
        by_cases hr : h.s.n < pln (rowS h) 64 + 4
        · rw [if_pos hr]
          have HRM : Hid (∀ w1, Upd (fun _ => False) w w1 → _) := fun w1 hu => hasRoom_any (m.same hu) hi 4 (by omega) false (by simp; omega)
          clear m hi h0 hx hat hc hs hs0 hb hr
          go_enter Try.func94, Try.ntmps94
          go_wp2_with fail
          refine Calls.mono HG.out ?_
          rintro e w1 ⟨rfl, hu⟩
          have HSw : Hid _ := HST.out w1 hu
          go_wp2_with fail
          refine Calls.mono HSw.out ?_
          rintro e w2 ⟨rfl, hu2⟩
          have hu3 := hu.trans hu2 (fun _ _ f => f)
          have HRw : Hid _ := HRM.out w2 hu3
          go_wp2_with fail
          refine Calls.mono HRw.out ?_
          rintro e w3 ⟨rfl, hu4⟩
          have hu5 := hu3.trans hu4 (fun _ _ f => f)
          go_wp2_with fail
          go_ret
          exact ⟨by rw [errV_no (show (7 : Int) ≠ 0 by omega)]; first | done | rfl, HMM.out.same hu5, MRead.no _ hu5⟩
        · rw [if_neg hr]
          have HRM : Hid (∀ w1, Upd (fun _ => False) w w1 → _) := fun w1 hu => hasRoom_any (m.same hu) hi 4 (by omega) true (by simp; omega)
          clear m hi h0 hx hat hc hs hs0 hb hr
          go_enter Try.func94, Try.ntmps94
          go_wp2_with fail
          refine Calls.mono HG.out ?_
          rintro e w1 ⟨rfl, hu⟩
          have HSw : Hid _ := HST.out w1 hu
          go_wp2_with fail
          refine Calls.mono HSw.out ?_
          rintro e w2 ⟨rfl, hu2⟩
          have hu3 := hu.trans hu2 (fun _ _ f => f)
          have HRw : Hid _ := HRM.out w2 hu3
          go_wp2_with fail
          refine Calls.mono HRw.out ?_
          rintro e w3 ⟨rfl, hu4⟩
          have hu5 := hu3.trans hu4 (fun _ _ f => f)
          have HEw : Hid _ := each_plug (HMM.out.same hu5) HI.out HX.out hq HZ.out
          have HU5 : Hid _ := hu5
          clear hu hu2 hu3 hu4 hu5
          go_wp2_with fail
          refine Calls.mono HEw.out ?_
          rintro e w6 ⟨rfl, hm6, hu6⟩
          have HM6 : Hid _ := hm6
          have HU6 : Hid _ := hu6
          clear hm6 hu6 HEw
          go_wp2_with fail
          go_ret
          exact ⟨rfl, HM6.out, (MRead.no _ HU5.out).trans HU6.out (fun _ _ f => f)⟩
end Go.Proofs.Ytadpibcgjgcjhaa
/- Package host: Back, Remove, Left. -/
namespace Go.Proofs.Ytadpibcgjgcjhaa
open Go.ChangeShapes Go.WideShapes Go.ChangeAt Go.RowKit
set_option maxRecDepth 100000
attribute [local go_sem ↓] Go.wp_at_zero Go.wp_at_succ
variable {w w' : World} {bh bp bf : Nat} {G G' : Nat → G3} {h h' : Hs} {x : Gs} {s' : Pl} {x' : Gs} {b : Mp} {W : Int}

theorem gBack_off (s : Pl) (x : Gs) {p : Int} (hp : onB p = false) : gGive s x p true = (1, s, x) := by
  unfold gGive gMap giveR
  simp only [hp, Bool.false_eq_true, if_false]
set_option maxHeartbeats 1000000 in
theorem hBack_m (m : HM w bh bp bf G h) (hi : HInv h W) (hle : pln (rowS h) 64 ≤ h.s.n) (n p : Int) : Calls Try.prog 97 #[.pointer (some ⟨bh, 0, none⟩), .int .i64 n, .int .i64 p] w (MPost w bh bp bf G h (hGive h n p true)) := by
  have HMM : Hid (HM w bh bp bf G h) := m
  have HST : Hid _ := hState_any m hi n p
  unfold hState at HST
  unfold hGive
  by_cases h0 : 0 < hWho h n
  · rw [if_pos h0] at HST ⊢
    have HE : Hid _ := errV_who h0
    simp only [HE.out] at HST
    clear m hi h0
    go_enter Try.func97, Try.ntmps97
    go_wp2_with fail
    refine Calls.mono HST.out ?_
    rintro e w1 ⟨rfl, hu⟩
    go_wp2_with fail
    go_ret
    exact ⟨by rw [HE.out]; first | done | rfl, HMM.out.same hu, MRead.no _ hu⟩
  · rw [if_neg h0] at HST ⊢
    obtain ⟨k, x, rfl, hk, hx, hat⟩ := hWho_zero (show hWho h n = 0 by have := hWho_le (h := h) n; omega)
    rw [hat] at HST ⊢
    rw [Int.toNat_natCast]
    have HX : Hid (h.g k = some x) := hx
    have HI : Hid (HInv h W) := hi
    unfold stR at HST
    cases hp : onB p with
    | false =>
      rw [gBack_off _ _ hp, if_neg (fun c => by simp at c)]
      rw [hp] at HST
      simp only [Bool.false_eq_true, if_false, errV1] at HST
      have HPS : Hid _ := Hs.put_self hx
      clear m hi h0 hx hat hp
      go_enter Try.func97, Try.ntmps97
      go_wp2_with fail
      refine Calls.mono HST.out ?_
      rintro e w1 ⟨rfl, hu⟩
      go_wp2_with fail
      go_ret
      exact ⟨by rw [errV1]; first | done | rfl, by simp only; rw [HPS.out]; exact HMM.out.same hu, MRead.no _ hu⟩
    | true =>
      rw [hp] at HST
      simp only [if_true, errV_zero] at HST
      have k0 : (0 : Int) ≤ (k : Int) := by omega
      have k1 : (k : Int) < 4 := by omega
      by_cases hs : x.m.st p.toNat = 2
      · have ds : (x.m.st p.toNat == 2) = true := by simp [hs]
        by_cases hr : pln (rowS h) 64 = h.s.n
        · rw [if_pos ⟨by simp, hs, hr⟩]
          have HRM : Hid (∀ w1, Upd (fun _ => False) w w1 → _) := fun w1 hu => hasRoom_any (m.same hu) hi 1 (by omega) false (by simp; omega)
          clear m hi h0 hx hat hs hr hle
          go_enter Try.func97, Try.ntmps97
          go_wp2_with fail
          refine Calls.mono HST.out ?_
          rintro e w1 ⟨rfl, hu⟩
          have HR0 : Hid _ := HRM.out w1 hu
          go_wp2_with fail
          refine Calls.mono HR0.out ?_
          rintro e w3 ⟨rfl, hu4⟩
          have hu5 := hu.trans hu4 (fun _ _ f => f)
          go_wp2_with fail
          go_ret
          exact ⟨by rw [errV_no (show (7 : Int) ≠ 0 by omega)]; first | done | rfl, HMM.out.same hu5, MRead.no _ hu5⟩
        · rw [if_neg (fun c => hr c.2.2)]
          have HRM : Hid (∀ w1, Upd (fun _ => False) w w1 → _) := fun w1 hu => hasRoom_any (m.same hu) hi 1 (by omega) true (by simp; omega)
          clear m hi h0 hx hat hs hr hle
          go_enter Try.func97, Try.ntmps97
          go_wp2_with fail
          refine Calls.mono HST.out ?_
          rintro e w1 ⟨rfl, hu⟩
          have HR0 : Hid _ := HRM.out w1 hu
          go_wp2_with fail
          refine Calls.mono HR0.out ?_
          rintro e w3 ⟨rfl, hu4⟩
          have hu5 := hu.trans hu4 (fun _ _ f => f)
          have HU1 : Hid _ := hu5
          have HM1 : Hid (HM w3 bh bp bf G h) := HMM.out.same hu5
          have HB : Hid _ := HM1.out.go HI.out HX.out (fun g => g.back p)
          have c := HM1.out.cSome hk HX.out
          clear hu hu4 hu5 HR0
          go_wp2_with fail
          refine Calls.mono HB.out ?_
          rintro e w6 ⟨rfl, hm6, hu6⟩
          have HM6 : Hid _ := hm6
          have HU6 : Hid _ := hu6
          clear hm6 hu6 HB
          go_wp2_with fail
          go_ret
          exact ⟨rfl, HM6.out, (MRead.no _ HU1.out).trans HU6.out (fun _ _ f => f)⟩
      · have ds : (x.m.st p.toNat == 2) = false := by simp [hs]
        rw [if_neg (fun c => hs c.2.1)]
        clear m hi h0 hx hat hs hle
        go_enter Try.func97, Try.ntmps97
        go_wp2_with fail
        refine Calls.mono HST.out ?_
        rintro e w1 ⟨rfl, hu⟩
        have HM1 : Hid (HM w1 bh bp bf G h) := HMM.out.same hu
        have c := HM1.out.cSome hk HX.out
        have HU1 : Hid _ := hu
        have HB : Hid _ := HM1.out.go HI.out HX.out (fun g => g.back p)
        clear hu
        go_wp2_with fail
        refine Calls.mono HB.out ?_
        rintro e w6 ⟨rfl, hm6, hu6⟩
        have HM6 : Hid _ := hm6
        have HU6 : Hid _ := hu6
        clear hm6 hu6 HB
        go_wp2_with fail
        go_ret
        exact ⟨rfl, HM6.out, (MRead.no _ HU1.out).trans HU6.out (fun _ _ f => f)⟩
/-- A guest goes. -/
theorem HM.off {n : Nat} (hn : n < 4) (m : HM w bh bp bf G (h.put n (s', x'))) : HM (w.setCell ⟨bh, 1 + n, none⟩ (.pointer none)) bh bp bf G (hOff s' h n) := by
  have u := Upd.one w bh (1 + n) (.pointer none)
  have hne : ∀ i y, (hOff s' h n).g i = some y → i ≠ n ∧ (h.put n (s', x')).g i = some y := fun i y hy => by
    have hy : setAt h.g n none i = some y := hy
    by_cases e : i = n
    · subst e; rw [setAt_same] at hy; cases hy
    · rw [setAt_other _ _ _ _ e] at hy; exact ⟨e, (setAt_other _ _ _ _ e).trans hy⟩
  have hc := m.cg n hn
  have hp := m.hp
  refine ⟨?_, fun i hi => ?_, fun o => by rw [World.frozen?_setCell]; exact m.fz o, m.pool.upd u (fun e => hp.1 e.symm) (fun e => hp.2 e.symm) m.lt.2.2, fun i y hy => ?_, fun i y hy => m.ap i y (hne i y hy).2, hp, fun i y hy => m.ne i y (hne i y hy).2, fun i j y z hy hz e => m.nx i j y z (hne i y hy).2 (hne j z hz).2 e, m.hn⟩
  · rw [World.cell?_setCell_other _ _ _ _ (addr_ne (Or.inr (by omega)))]; exact m.c0
  · by_cases e : i = n
    · subst e
      rw [World.cell?_setCell_same _ _ _ hc, show (hOff s' h i).g i = none from setAt_same _ _ _]
      rfl
    · rw [World.cell?_setCell_other _ _ _ _ (addr_ne (Or.inr (by omega))), m.cg i hi, show (h.put n (s', x')).g i = h.g i from setAt_other _ _ _ _ e, show (hOff s' h n).g i = h.g i from setAt_other _ _ _ _ e]
  · have h1 := (hne i y hy).2
    exact (m.gu i y h1).upd u (fun k hk e => m.ne i y h1 (by rw [← e]; exact hk))
set_option maxHeartbeats 1000000 in
theorem hRemove_m (m : HM w bh bp bf G h) (hi : HInv h W) (n : Int) : Calls Try.prog 93 #[.pointer (some ⟨bh, 0, none⟩), .int .i64 n] w (MPost w bh bp bf G h (hRemove h n)) := by
  have HMM : Hid (HM w bh bp bf G h) := m
  unfold hRemove
  by_cases h0 : 0 < hWho h n
  · rw [if_pos h0]
    have HG : Hid _ := guest_no m n h0
    have HE : Hid _ := errV_who h0
    clear m hi h0
    go_enter Try.func93, Try.ntmps93
    go_wp2_with fail
    refine Calls.mono HG.out ?_
    rintro e w1 ⟨rfl, hu⟩
    go_wp2_with fail
    go_ret
    exact ⟨by rw [HE.out]; first | done | rfl, HMM.out.same hu, MRead.no _ hu⟩
  · rw [if_neg h0]
    obtain ⟨k, x, rfl, hk, hx, hat⟩ := hWho_zero (show hWho h n = 0 by have := hWho_le (h := h) n; omega)
    rw [hat, Int.toNat_natCast]
    have HG : Hid _ := guest_yes m hk hx
    have HX : Hid (h.g k = some x) := hx
    have HI : Hid (HInv h W) := hi
    have k0 : (0 : Int) ≤ (k : Int) := by omega
    have k1 : (k : Int) < 4 := by omega
    clear m hi h0 hx hat
    go_enter Try.func93, Try.ntmps93
    go_wp2_with fail
    refine Calls.mono HG.out ?_
    rintro e w1 ⟨rfl, hu⟩
    have HU1 : Hid _ := hu
    clear hu
    go_wp2_with fail
    go_loopg [17] 16 (fun g i wr => ∃ j : Nat, j + g = 16 ∧ i = .int .i64 j ∧ Hid (HM wr bh bp bf G (h.put k (gClear h.s x j))) ∧ Hid (Upd (Own bh bp bf G h) w wr))
    case atStart => exact ⟨0, by omega, rfl, by rw [show h.put k (gClear h.s x 0) = h from Hs.put_self HX.out]; exact HMM.out.same HU1.out, MRead.no _ HU1.out⟩
    case round =>
      obtain ⟨j, hj, rfl, HMj, HUj⟩ := hrel
      have HJ : Hid _ := hj
      clear hj
      by_cases hlt : j < 16
      · have HC : Hid _ := HMj.out.go (HI.out.clear HX.out j) (put_at _ _ _) (fun g => g.unplug (j : Int))
        go_wp2_with fail
        refine Calls.mono HC.out ?_
        rintro e w2 ⟨rfl, hm2, hu2⟩
        rw [put_put] at hm2
        have HM2 : Hid (HM w2 bh bp bf G (h.put k (gClear h.s x (j + 1)))) := hm2
        have HU2 : Hid (Upd (Own bh bp bf G h) w w2) := HUj.out.trans hu2 (fun i _ e => own_put HX.out e)
        clear hm2 hu2 HC
        go_wp2_with fail
        go_roundg (16 - (j + 1))
        case rel => exact ⟨j + 1, by omega, by go_num, HM2.out, HU2.out⟩
        case measure => have := HJ.out; omega
      · obtain rfl : j = 16 := by have := HJ.out; omega
        have c := HMj.out.cSome hk (put_at _ _ _)
        have z := HMj.out.fz (1 + k)
        have HO : Hid _ := HM.off hk HMj.out
        have HU : Hid _ := HUj.out.trans (Upd.one wr bh (1 + k) (.pointer none)) (fun i _ e => Or.inl e)
        go_wp2_with fail
        go_ret
        exact ⟨by rw [errV_zero]; first | done | rfl, HO.out, HU.out⟩
end Go.Proofs.Ytadpibcgjgcjhaa
/- Package host: New, Add. -/
namespace Go.Proofs.Ytadpibcgjgcjhaa
open Go.ChangeShapes Go.WideShapes Go.ChangeAt Go.RowKit
set_option maxRecDepth 100000
attribute [local go_sem ↓] Go.wp_at_zero Go.wp_at_succ
variable {w w' : World} {bh bp bf : Nat} {G G' : Nat → G3} {h h' : Hs} {x : Gs} {s' : Pl} {x' : Gs} {b : Mp} {W : Int}

theorem hNew_no (w : World) (n : Int) (hn : n < 1 ∨ 64 < n) : Calls Try.prog 58 #[.int .i64 n] w (MRead w (.tuple #[.pointer none, .iface 110 (.int .i64 1)])) := by
  have HN : Hid _ := new_no w n hn
  clear hn
  go_enter Try.func58, Try.ntmps58
  go_wp2_with fail
  refine Calls.mono HN.out ?_
  rintro e w1 ⟨rfl, hw1⟩
  subst hw1
  go_wp2_with fail
  go_ret2
  exact ⟨rfl, Upd.refl _ _⟩
theorem HM.start {n : Nat} (hn : 1 ≤ n) (hp : PoolAt w bp bf (pl0 n)) : HM (w.alloc (.cells #[.pointer (some ⟨bp, 0, none⟩), .pointer none, .pointer none, .pointer none, .pointer none] 155)) w.heap.size bp bf G (hs0 n) := by
  have u := (Upd.refl (fun _ => False) w).alloc (.cells #[.pointer (some ⟨bp, 0, none⟩), .pointer none, .pointer none, .pointer none, .pointer none] 155)
  have hlt := hp.lt hn
  have hlp := hp.ltp
  have e : ∀ i y, (hs0 n).g i = some y → False := fun i y hy => by cases hy
  refine ⟨by rw [World.cell?_alloc_new]; rfl, fun i hi => ?_, fun o => World.frozen?_alloc_new _ _ _ _, hp.upd u (fun f => f) (fun f => f) hlt, fun i y hy => (e i y hy).elim, fun i y hy => (e i y hy).elim, ⟨by omega, by omega⟩, fun i y hy => (e i y hy).elim, fun i j y z hy => (e i y hy).elim, hn⟩
  rw [World.cell?_alloc_new]
  have : i = 0 ∨ i = 1 ∨ i = 2 ∨ i = 3 := by omega
  rcases this with rfl | rfl | rfl | rfl <;> rfl
theorem hNew_yes (w : World) (n : Nat) (h1 : 1 ≤ n) (h2 : n ≤ 64) : Calls Try.prog 58 #[.int .i64 (n : Int)] w fun e w' => ∃ bh bp bf, e = .returned (.tuple #[.pointer (some ⟨bh, 0, none⟩), .nilIface]) ∧ (∀ G, HM w' bh bp bf G (hs0 n)) ∧ w.heap.size ≤ bh ∧ w.heap.size ≤ bp ∧ w.heap.size ≤ bf ∧ Upd (fun _ => False) w w' := by
  have HN : Hid _ := new_any w n h1 h2
  go_enter Try.func58, Try.ntmps58
  go_wp2_with fail
  refine Calls.mono HN.out ?_
  rintro e w1 ⟨rfl, hp, hu, hz⟩
  have HP : Hid _ := hp
  have HU : Hid _ := hu
  have HZ : Hid _ := hz
  clear hp hu hz
  go_wp2_with fail
  go_ret2
  exact ⟨w1.heap.size, w.heap.size + 1, w.heap.size, rfl, fun G => HM.start h1 HP.out, HU.out.size, by omega, by omega, HU.out.alloc _⟩
/-- A guest is made. -/
theorem HM.made {k : Nat} {q : G3} (m : HM w bh bp bf G h) (hk : k < 4) (hx : h.g k = none) (u0 : Upd (fun _ => False) w w') (g : GM1 w' bp q gs0) (ap : GAp q.g bp bf q.l q.c) (hq : ∀ j, q.has j → w.heap.size ≤ j) :
    HM (w'.setCell ⟨bh, 1 + k, none⟩ (.pointer (some ⟨q.g, 0, none⟩))) bh bp bf (setAt G k q) ⟨h.s, setAt h.g k (some gs0)⟩ := by
  have m1 := m.same u0
  have u := Upd.one w' bh (1 + k) (.pointer (some ⟨q.g, 0, none⟩))
  have hlt := m.lt
  have hp := m.hp
  have hne : ∀ i y, setAt h.g k (some gs0) i = some y → (i = k ∧ y = gs0) ∨ (i ≠ k ∧ h.g i = some y) := fun i y hy => by
    by_cases e : i = k
    · subst e; rw [setAt_same] at hy; cases hy; exact Or.inl ⟨rfl, rfl⟩
    · rw [setAt_other _ _ _ _ e] at hy; exact Or.inr ⟨e, hy⟩
  have hc := m1.cg k hk
  refine ⟨?_, fun i hi => ?_, fun o => by rw [World.frozen?_setCell]; exact m1.fz o, m1.pool.upd u (fun e => hp.1 e.symm) (fun e => hp.2 e.symm) m1.lt.2.2, fun i y hy => ?_, fun i y hy => ?_, hp, fun i y hy => ?_, fun i j y z hy hz e => ?_, m.hn⟩
  · rw [World.cell?_setCell_other _ _ _ _ (addr_ne (Or.inr (by omega)))]; exact m1.c0
  · by_cases e : i = k
    · subst e
      rw [World.cell?_setCell_same _ _ _ hc]
      show _ = some (gPtr (setAt h.g i (some gs0) i) (setAt G i q i).g)
      rw [setAt_same, setAt_same]; rfl
    · rw [World.cell?_setCell_other _ _ _ _ (addr_ne (Or.inr (by omega))), m1.cg i hi]
      show _ = some (gPtr (setAt h.g k (some gs0) i) (setAt G k q i).g)
      rw [setAt_other _ _ _ _ e, setAt_other _ _ _ _ e]
  · rcases hne i y hy with ⟨rfl, rfl⟩ | ⟨e, hy'⟩
    · rw [setAt_same]
      exact g.upd u (fun j hj e => by have := hq j hj; omega)
    · rw [setAt_other _ _ _ _ e]
      exact (m1.gu i y hy').upd u (fun j hj e => m.ne i y hy' (by rw [← e]; exact hj))
  · rcases hne i y hy with ⟨rfl, rfl⟩ | ⟨e, hy'⟩
    · rw [setAt_same]; exact ap
    · rw [setAt_other _ _ _ _ e]; exact m.ap i y hy'
  · rcases hne i y hy with ⟨rfl, rfl⟩ | ⟨e, hy'⟩
    · rw [setAt_same]
      intro hj
      have := hq _ hj
      omega
    · rw [setAt_other _ _ _ _ e]; exact m.ne i y hy'
  · rcases hne i y hy with ⟨rfl, rfl⟩ | ⟨e1, hy'⟩
    · rcases hne j z hz with ⟨rfl, rfl⟩ | ⟨e2, hz'⟩
      · exact absurd rfl e
      · rw [setAt_same, setAt_other _ _ _ _ e2]
        intro a ha hb
        have := hq a ha
        have := m.gLt hz' hb
        omega
    · rcases hne j z hz with ⟨rfl, rfl⟩ | ⟨e2, hz'⟩
      · rw [setAt_same, setAt_other _ _ _ _ e1]
        intro a ha hb
        have := hq a hb
        have := m.gLt hy' ha
        omega
      · rw [setAt_other _ _ _ _ e1, setAt_other _ _ _ _ e2]
        exact m.nx i j y z hy' hz' e
/-- How Add ends. -/
def MAdd (w : World) (bh bp bf : Nat) (G : Nat → G3) (h : Hs) (r : (Int × Int) × Hs) (e : Ending) (w' : World) : Prop :=
  e = .returned (.tuple #[.int .i64 r.1.1, errV r.1.2]) ∧ (∃ G', HM w' bh bp bf G' r.2 ∧ ∀ k, Own bh bp bf G' r.2 k → Own bh bp bf G h k ∨ w.heap.size ≤ k) ∧ Upd (Own bh bp bf G h) w w'
set_option maxHeartbeats 1000000 in
theorem hAdd_m (m : HM w bh bp bf G h) : Calls Try.prog 92 #[.pointer (some ⟨bh, 0, none⟩)] w (MAdd w bh bp bf G h (hAdd h)) := by
  have HMM : Hid (HM w bh bp bf G h) := m
  have c0 := m.c0
  clear m
  go_enter Try.func92, Try.ntmps92
  go_wp2_with fail
  go_loopg [7] 4 (fun g i wr => ∃ k : Nat, k + g = 4 ∧ i = .int .i64 k ∧ wr = w ∧ Hid (∀ i, i < k → h.g i ≠ none))
  case atStart => exact ⟨0, by omega, rfl, rfl, fun i hi => absurd hi (by omega)⟩
  case round =>
    obtain ⟨k, hk, rfl, rfl, HS⟩ := hrel
    have HK : Hid _ := hk
    clear hk
    by_cases hlt : k < 4
    · have k0 : (0 : Int) ≤ (k : Int) := by omega
      have k1 : (k : Int) < 4 := by omega
      cases hx : h.g k with
      | none =>
        have c := HMM.out.cNone hlt hx
        have HX : Hid _ := hx
        have HF : Hid _ := hFree_at hlt HS.out hx
        have HE : Hid (hAdd h = (((k : Int), 0), ⟨h.s, setAt h.g k (some gs0)⟩)) := by show hAdd h = _; unfold hAdd; rw [HF.out]
        have HN : Hid _ := gNew wr bp
        clear hx
        go_wp2_with fail
        refine Calls.mono HN.out ?_
        rintro e w1 ⟨bg, bl, bc, rfl, hce, hlv, hca, q1, q2, q3, n1, n2, n3, hu⟩
        have d := hu.cell c (fun f => f)
        have z : w1.frozen? ⟨bh, 1 + k, none⟩ = false := (HMM.out.same hu).fz (1 + k)
        have hl := HMM.out.lt
        have HM1 : Hid _ := HMM.out.made hlt HX.out hu (q := ⟨bg, bl, bc⟩) ⟨hce, hlv, hca⟩ (by unfold GAp; have := HMM.out.pool.ne; simp only; omega) (fun j hj => by rcases hj with e | e | e <;> simp only at e <;> omega)
        have HU : Hid (Upd (Own bh bp bf G h) wr (w1.setCell ⟨bh, 1 + k, none⟩ (.pointer (some ⟨bg, 0, none⟩)))) := (MRead.no _ hu).trans (Upd.one w1 bh (1 + k) (.pointer (some ⟨bg, 0, none⟩))) (fun i _ e => Or.inl e)
        have HO : Hid (∀ j, Own bh bp bf (setAt G k ⟨bg, bl, bc⟩) ⟨h.s, setAt h.g k (some gs0)⟩ j → Own bh bp bf G h j ∨ wr.heap.size ≤ j) := fun j hj => by
          rcases hj with e | e | e | ⟨i, y, hy, e⟩
          · exact Or.inl (Or.inl e)
          · exact Or.inl (Or.inr (Or.inl e))
          · exact Or.inl (Or.inr (Or.inr (Or.inl e)))
          · by_cases ei : i = k
            · subst ei
              rw [setAt_same] at e
              right
              rcases e with e | e | e <;> simp only at e <;> omega
            · rw [setAt_other _ _ _ _ ei] at e
              have hy' : h.g i = some y := by rw [← hy]; exact (setAt_other _ _ _ _ ei).symm
              exact Or.inl (Or.inr (Or.inr (Or.inr ⟨i, y, hy', e⟩)))
        clear hce hlv hca hu
        go_wp2_with fail
        go_ret2
        rw [HE.out]
        exact ⟨by rw [errV_zero]; first | done | rfl, ⟨_, HM1.out, HO.out⟩, HU.out⟩
      | some x =>
        have c := HMM.out.cSome hlt hx
        have HX : Hid _ := hx
        clear hx
        go_wp2_with fail
        go_roundg (4 - (k + 1))
        case rel =>
          refine ⟨k + 1, by omega, by go_num, rfl, fun i hi => ?_⟩
          by_cases e : i = k
          · subst e; rw [HX.out]; simp
          · exact HS.out i (by omega)
        case measure => have := HK.out; omega
    · obtain rfl : k = 4 := by have := HK.out; omega
      have HF : Hid _ := hFree_no HS.out
      have HE : Hid (hAdd h = ((0, 4), h)) := by show hAdd h = _; unfold hAdd; rw [HF.out]
      go_wp2_with fail
      go_ret2
      rw [HE.out]
      exact ⟨by rw [errV4]; first | done | rfl, ⟨G, HMM.out, fun k hk => Or.inl hk⟩, Upd.refl _ _⟩
end Go.Proofs.Ytadpibcgjgcjhaa
