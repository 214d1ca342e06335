/- The document's host: Unplug, Give. -/
import Derived.Test.YtadpibcgjgcjhabGreatDoorHrC
import Derived.Test.YtadpibcgjgcjhabGreatDoorGuP
namespace Go.Proofs.YtadpibcgjgcjhabGreatDoor
open Go.ChangeShapes Go.WideShapes Go.ChangeAt Go.RowKit
set_option maxRecDepth 100000
attribute [local go_sem ↓] Go.wp_at_zero Go.wp_at_succ
variable {w w' : World} {bh bm base : Nat} {bx : Nat → Nat} {v : Nat → Value} {h : Hs} {x : Gs} {s' : Pl} {x' : Gs} {W : Int}

theorem unplug_codeH (s : Pl) (m : Mp) (n : Int) : 0 ≤ (unplugR s m n).1 := by
  unfold unplugR
  split
  · split <;> simp
  · simp
theorem gUnplugs_code (s : Pl) (x : Gs) (b : Nat) : ∀ j, 0 ≤ (gUnplugs s x b j).1
  | 0 => Int.le_refl _
  | j + 1 => by
    show 0 ≤ (if 0 < (gUnplugs s x b j).1 then gUnplugs s x b j else gUnplug (gUnplugs s x b j).2.1 (gUnplugs s x b j).2.2 ((4 * b + j : Nat) : Int)).1
    split
    · exact gUnplugs_code s x b j
    · exact unplug_codeH _ _ _
theorem gUnplugs_stop (s : Pl) (x : Gs) (b : Nat) {j : Nat} (hp : 0 < (gUnplugs s x b j).1) : ∀ i, j ≤ i → gUnplugs s x b i = gUnplugs s x b j
  | 0, hi => by
    have e : j = 0 := by omega
    rw [e]
  | i + 1, hi => by
    by_cases e : j = i + 1
    · subst e; rfl
    · have ih := gUnplugs_stop s x b hp i (by omega)
      show (if 0 < (gUnplugs s x b i).1 then gUnplugs s x b i else _) = _
      rw [ih, if_pos hp]
theorem rUnplug_host (r : RHo w bh bm base bx v h) (hi : HInv h W) (hW : W ≤ 1000000) (n b : Int) : Calls Tryz.prog 28 #[.pointer (some ⟨bh, 0, none⟩), .int .i64 n, .int .i64 b] w (HPost w bh bm base bx h (hUnplug h n b)) := by
  have HR : Hid (RHo w bh bm base bx v h) := r
  unfold hUnplug
  by_cases h0 : 0 < hWho h n
  · rw [if_pos h0]
    have HW : Hid _ := rWho_any r n
    have d : decide (0 < hWho h n) = true := by simp; exact h0
    clear r hi
    go_enter Tryz.func28, Tryz.ntmps28
    go_wp2_with (go_at_call 31; refine Calls.mono HW.out ?_; rintro e w1 ⟨rfl, m, rfl⟩)
    go_ret
    exact ⟨rfl, ⟨v, HR.out.same ((Upd.refl (fun _ => False) w).drewN m)⟩, (Upd.refl _ w).drewN m⟩
  · rw [if_neg h0]
    have hw0 : hWho h n = 0 := by have := hWho_le (h := h) n; omega
    obtain ⟨k, x, rfl, hk, hx, hat⟩ := hWho_zero hw0
    have hv := whoV_yes (bx := bx) hx hk
    have HW : Hid (Calls Tryz.prog 31 #[.pointer (some ⟨bh, 0, none⟩), .int .i64 (k : Int)] w fun e w' => e = .returned (.tuple #[.pointer (some ⟨bx k, 0, none⟩), .int .i64 0]) ∧ ∃ m, w' = w.drewN m) := by
      have := rWho_any r (k : Int)
      rw [hv, hw0] at this
      exact this
    rw [hat, Int.toNat_natCast]
    have HX : Hid (h.g k = some x) := hx
    have HI : Hid (HInv h W) := hi
    have k0 : (0 : Int) ≤ (k : Int) := by omega
    have k1 : (k : Int) < 4 := by omega
    clear r hi hv hat hx h0 hw0
    by_cases hb : b < 0 ∨ 3 < b
    · rw [if_pos hb]
      rcases hb with hb | hb
      · have d0 : decide (b < 0) = true := by simp; omega
        go_enter Tryz.func28, Tryz.ntmps28
        go_wp2_with (go_at_call 31; refine Calls.mono HW.out ?_; rintro e w1 ⟨rfl, m, rfl⟩)
        go_ret
        exact ⟨rfl, ⟨v, HR.out.same ((Upd.refl (fun _ => False) w).drewN m)⟩, (Upd.refl _ w).drewN m⟩
      · have d0 : decide (b < 0) = false := by simp; omega
        have d1 : decide (3 < b) = true := by simp; omega
        go_enter Tryz.func28, Tryz.ntmps28
        go_wp2_with (go_at_call 31; refine Calls.mono HW.out ?_; rintro e w1 ⟨rfl, m, rfl⟩)
        go_ret
        exact ⟨rfl, ⟨v, HR.out.same ((Upd.refl (fun _ => False) w).drewN m)⟩, (Upd.refl _ w).drewN m⟩
    · rw [if_neg hb]
      obtain ⟨q, rfl⟩ := Int.eq_ofNat_of_zero_le (show 0 ≤ b by omega)
      have hq : q < 4 := by omega
      have d0 : decide ((q : Int) < 0) = false := by simp
      have d1 : decide ((3 : Int) < (q : Int)) = false := by simp; omega
      rw [Int.toNat_natCast]
      clear hb
      have HCO : Hid (∀ j, 0 ≤ (gUnplugs h.s x q j).1) := fun j => gUnplugs_code h.s x q j
      go_enter Tryz.func28, Tryz.ntmps28
      go_wp2_with (go_at_call 31; refine Calls.mono HW.out ?_; rintro e w1 ⟨rfl, m, rfl⟩)
      go_loopg [9] 4 (fun g i wr => ∃ (j : Nat) (v' : Nat → Value), j + g = 4 ∧ i = .int .i64 j ∧ Hid (¬ 0 < (gUnplugs h.s x q j).1) ∧ Hid (RHo wr bh bm base bx v' (h.put k (gUnplugs h.s x q j).2)) ∧ Hid (Upd (RFt bh bm bx h) w wr))
      case atStart => exact ⟨0, v, by omega, rfl, (show ¬ (0 : Int) < 0 by omega), by rw [show h.put k (gUnplugs h.s x q 0).2 = h from Hs.put_self HX.out]; exact HR.out.same ((Upd.refl (fun _ => False) w).drewN m), (Upd.refl _ w).drewN m⟩
      case round =>
        obtain ⟨j, v', hj, rfl, HN, HRj, HUj⟩ := hrel
        have HJ : Hid _ := hj
        clear hj
        by_cases hlt : j < 4
        · have hcast : ((4 * q + j : Nat) : Int) = 4 * (q : Int) + (j : Int) := by omega
          have hc := HRj.out.go (res := gUnplug (gUnplugs h.s x q j).2.1 (gUnplugs h.s x q j).2.2 ((4 * q + j : Nat) : Int)) (HI.out.unplugs HX.out q j) hW (put_at _ _ _) (fun _ p => p.unplug ((4 * q + j : Nat) : Int))
          rw [hcast] at hc
          have HC : Hid _ := hc
          have HST : Hid (gUnplugs h.s x q (j + 1) = gUnplug (gUnplugs h.s x q j).2.1 (gUnplugs h.s x q j).2.2 (4 * (q : Int) + (j : Int))) := by
            show (if 0 < (gUnplugs h.s x q j).1 then gUnplugs h.s x q j else gUnplug (gUnplugs h.s x q j).2.1 (gUnplugs h.s x q j).2.2 ((4 * q + j : Nat) : Int)) = _
            rw [if_neg HN.out, hcast]
          have w5 : IntKind.i64.wrap (4 * (q : Int) + (j : Int)) = 4 * (q : Int) + (j : Int) := by rw [IntKind.wrap_i64]; omega
          have w4 : IntKind.i64.wrap (4 * (q : Int)) = 4 * (q : Int) := by rw [IntKind.wrap_i64]; omega
          clear hc hcast
          by_cases hp : 0 < (gUnplugs h.s x q (j + 1)).1
          · have HE : Hid _ := gUnplugs_stop h.s x q hp 4 (by omega)
            rw [HST.out] at hp
            have d5 : decide (0 < (gUnplug (gUnplugs h.s x q j).2.1 (gUnplugs h.s x q j).2.2 (4 * (q : Int) + (j : Int))).1) = true := by simp; exact hp
            go_wp2_with fail
            refine Calls.mono HC.out ?_
            rintro e w2 ⟨rfl, ⟨v2, hr2⟩, hu2⟩
            have HR2 : Hid (RHo w2 bh bm base bx v2 (h.put k (gUnplugs h.s x q 4).2)) := by rw [HE.out, HST.out]; rw [put_put] at hr2; exact hr2
            have HU2 : Hid _ := upd_ft HUj.out HX.out hu2
            clear hr2 hu2 HC
            go_wp2_with fail
            go_ret
            exact ⟨by rw [HE.out, HST.out]; rfl, ⟨v2, HR2.out⟩, HU2.out⟩
          · have HP : Hid (¬ 0 < (gUnplugs h.s x q (j + 1)).1) := hp
            rw [HST.out] at hp
            have d5 : decide (0 < (gUnplug (gUnplugs h.s x q j).2.1 (gUnplugs h.s x q j).2.2 (4 * (q : Int) + (j : Int))).1) = false := by simp; omega
            go_wp2_with fail
            refine Calls.mono HC.out ?_
            rintro e w2 ⟨rfl, ⟨v2, hr2⟩, hu2⟩
            have HR2 : Hid (RHo w2 bh bm base bx v2 (h.put k (gUnplugs h.s x q (j + 1)).2)) := by rw [HST.out]; rw [put_put] at hr2; exact hr2
            have HU2 : Hid _ := upd_ft HUj.out HX.out hu2
            clear hr2 hu2 HC
            go_wp2_with fail
            go_roundg (4 - (j + 1))
            case rel => exact ⟨j + 1, v2, by omega, by go_num, HP.out, HR2.out, HU2.out⟩
            case measure => have := HJ.out; omega
        · obtain rfl : j = 4 := by have := HJ.out; omega
          have hz : (gUnplugs h.s x q 4).1 = 0 := by have := HCO.out 4; have := HN.out; omega
          have HZ : Hid _ := hz
          clear hz
          go_wp2_with fail
          go_ret
          exact ⟨by rw [HZ.out]; rfl, ⟨v', HRj.out⟩, HUj.out⟩
theorem rGive_host (r : RHo w bh bm base bx v h) (hi : HInv h W) (hW : W ≤ 1000000) (n p : Int) (back : Bool) : Calls Tryz.prog 29 #[.pointer (some ⟨bh, 0, none⟩), .int .i64 n, .int .i64 p, .bool back] w (HPost w bh bm base bx h (hGive h n p back)) := by
  have HR : Hid (RHo w bh bm base bx v h) := r
  unfold hGive
  by_cases h0 : 0 < hWho h n
  · rw [if_pos h0]
    have HW : Hid _ := rWho_any r n
    have d : decide (0 < hWho h n) = true := by simp; exact h0
    clear r hi
    go_enter Tryz.func29, Tryz.ntmps29
    go_wp2_with (go_at_call 31; refine Calls.mono HW.out ?_; rintro e w1 ⟨rfl, m, rfl⟩)
    go_ret
    exact ⟨rfl, ⟨v, HR.out.same ((Upd.refl (fun _ => False) w).drewN m)⟩, (Upd.refl _ w).drewN m⟩
  · rw [if_neg h0]
    have hw0 : hWho h n = 0 := by have := hWho_le (h := h) n; omega
    obtain ⟨k, x, rfl, hk, hx, hat⟩ := hWho_zero hw0
    have hv := whoV_yes (bx := bx) hx hk
    have HW : Hid (Calls Tryz.prog 31 #[.pointer (some ⟨bh, 0, none⟩), .int .i64 (k : Int)] w fun e w' => e = .returned (.tuple #[.pointer (some ⟨bx k, 0, none⟩), .int .i64 0]) ∧ ∃ m, w' = w.drewN m) := by
      have := rWho_any r (k : Int)
      rw [hv, hw0] at this
      exact this
    rw [hat, Int.toNat_natCast]
    have HX : Hid (h.g k = some x) := hx
    have HI : Hid (HInv h W) := hi
    have k0 : (0 : Int) ≤ (k : Int) := by omega
    have k1 : (k : Int) < 4 := by omega
    clear r hi hv hat hx h0 hw0
    have HGV : Hid (∀ M, Calls Tryz.prog 40 #[.pointer (some ⟨bx k, 0, none⟩), .int .i64 p, .bool back] (w.drewN M) fun e w' => e = .returned (.int .i64 (gGive h.s x p back).1) ∧ (∃ v', RHo w' bh bm base bx v' (h.put k (gGive h.s x p back).2)) ∧ Upd (fun k' => k' = bm ∨ k' = bx k) (w.drewN M) w') := fun M => (HR.out.same ((Upd.refl (fun _ => False) w).drewN M)).go HI.out hW HX.out (fun _ q => q.give p back)
    have HON : Hid (∀ w1, Calls Tryz.prog 39 #[.int .i64 p] w1 fun e w' => e = .returned (.bool (onB p)) ∧ w' = w1) := fun w1 => on_any w1 p
    cases back with
    | false =>
      rw [if_neg (by simp)]
      go_enter Tryz.func29, Tryz.ntmps29
      go_wp2_with (first | (go_at_call 31; refine Calls.mono HW.out ?_; rintro e w1 ⟨rfl, m, rfl⟩) | (go_at_call 39; refine Calls.mono (HON.out _) ?_; rintro e w2 ⟨rfl, hw2⟩; subst hw2))
      go_quiet (fail)
      go_wp2_with fail
      refine Calls.mono (HGV.out _) ?_
      rintro e w3 ⟨rfl, ⟨v3, hr3⟩, hu3⟩
      have HR3 : Hid (RHo w3 bh bm base bx v3 (h.put k (gGive h.s x p false).2)) := hr3
      have HU3 : Hid (Upd (RFt bh bm bx h) w w3) := upd_ft ((Upd.refl _ w).drewN _) HX.out hu3
      clear hr3 hu3
      go_wp2_with fail
      go_ret
      exact ⟨rfl, ⟨v3, HR3.out⟩, HU3.out⟩
    | true =>
      cases ho : onB p with
      | false =>
        rw [if_neg (by simp)]
        have HON : Hid (∀ w1, Calls Tryz.prog 39 #[.int .i64 p] w1 fun e w' => e = .returned (.bool false) ∧ w' = w1) := fun w1 => by have := on_any w1 p; rw [ho] at this; exact this
        clear ho
        go_enter Tryz.func29, Tryz.ntmps29
        go_wp2_with (first | (go_at_call 31; refine Calls.mono HW.out ?_; rintro e w1 ⟨rfl, m, rfl⟩) | (go_at_call 39; refine Calls.mono (HON.out _) ?_; rintro e w2 ⟨rfl, hw2⟩; subst hw2))
        go_quiet (fail)
        go_wp2_with fail
        refine Calls.mono (HGV.out _) ?_
        rintro e w3 ⟨rfl, ⟨v3, hr3⟩, hu3⟩
        have HR3 : Hid (RHo w3 bh bm base bx v3 (h.put k (gGive h.s x p true).2)) := hr3
        have HU3 : Hid (Upd (RFt bh bm bx h) w w3) := upd_ft ((Upd.refl _ w).drewN _) HX.out hu3
        clear hr3 hu3
        go_wp2_with fail
        go_ret
        exact ⟨rfl, ⟨v3, HR3.out⟩, HU3.out⟩
      | true =>
        have HON : Hid (∀ w1, Calls Tryz.prog 39 #[.int .i64 p] w1 fun e w' => e = .returned (.bool true) ∧ w' = w1) := fun w1 => by have := on_any w1 p; rw [ho] at this; exact this
        obtain ⟨p0, p1⟩ := (onB_iff p).1 ho
        obtain ⟨q, rfl⟩ := Int.eq_ofNat_of_zero_le p0
        have hq : q < 16 := by omega
        rw [Int.toNat_natCast]
        have sA : w.cell? ⟨bh, 0, none⟩ = some (.pointer (some ⟨bm, 0, none⟩)) ∧ w.cell? ⟨bm, 0, none⟩ = some (.int .i64 h.s.n) ∧ w.cell? ⟨bx k, 1 + q, none⟩ = some (.int .i64 (x.m.st q)) := ⟨HR.out.c0, HR.out.ref.num, (HR.out.gu k x HX.out).mp.st q hq⟩
        clear ho
        by_cases h2 : x.m.st q = 2
        · have d2 : (x.m.st q == 2) = true := by simp [h2]
          by_cases hp : pln (rowS h) 64 = h.s.n
          · rw [if_pos ⟨by simp, h2, hp⟩]
            have d3 : (((pln (rowS h) 64 : Nat) : Int) == (h.s.n : Int)) = true := by simp [hp]
            clear h2 hp
            go_enter Tryz.func29, Tryz.ntmps29
            go_wp2_with (first | (go_at_call 31; refine Calls.mono HW.out ?_; rintro e w1 ⟨rfl, m, rfl⟩) | (go_at_call 39; refine Calls.mono (HON.out _) ?_; rintro e w2 ⟨rfl, hw2⟩; subst hw2))
            have HP : Hid _ := rPromised_any (HR.out.same (((Upd.refl (fun _ => False) w).drewN m).drew))
            generalize pln (rowS h) 64 = P at *
            go_region_held3 (fun w' => w'.cell? ⟨bh, 0, none⟩ = some (.pointer (some ⟨bm, 0, none⟩)) ∧ w'.cell? ⟨bm, 0, none⟩ = some (.int .i64 h.s.n) ∧ w'.cell? ⟨bx k, 1 + q, none⟩ = some (.int .i64 (x.m.st q))) (first | exact sA | exact h4c)
              ((go_at_call 23; refine Calls.mono HP.out ?_; rintro e w2 ⟨rfl, m2, rfl⟩; have h4c : ((w.drewN m).drew.drewN m2).cell? ⟨bh, 0, none⟩ = some (.pointer (some ⟨bm, 0, none⟩)) ∧ ((w.drewN m).drew.drewN m2).cell? ⟨bm, 0, none⟩ = some (.int .i64 h.s.n) ∧ ((w.drewN m).drew.drewN m2).cell? ⟨bx k, 1 + q, none⟩ = some (.int .i64 (x.m.st q)) := sA))
            go_wp2_with fail
            go_ret
            exact ⟨rfl, ⟨v, HR.out.same ((Upd.refl (fun _ => False) w).drewN _)⟩, (Upd.refl _ w).drewN _⟩
          · rw [if_neg (fun c => hp c.2.2)]
            have d3 : (((pln (rowS h) 64 : Nat) : Int) == (h.s.n : Int)) = false := by simp; omega
            clear h2 hp
            go_enter Tryz.func29, Tryz.ntmps29
            go_wp2_with (first | (go_at_call 31; refine Calls.mono HW.out ?_; rintro e w1 ⟨rfl, m, rfl⟩) | (go_at_call 39; refine Calls.mono (HON.out _) ?_; rintro e w2 ⟨rfl, hw2⟩; subst hw2))
            have HP : Hid _ := rPromised_any (HR.out.same (((Upd.refl (fun _ => False) w).drewN m).drew))
            generalize pln (rowS h) 64 = P at *
            go_region_held3 (fun w' => w'.cell? ⟨bh, 0, none⟩ = some (.pointer (some ⟨bm, 0, none⟩)) ∧ w'.cell? ⟨bm, 0, none⟩ = some (.int .i64 h.s.n) ∧ w'.cell? ⟨bx k, 1 + q, none⟩ = some (.int .i64 (x.m.st q))) (first | exact sA | exact h4c)
              ((go_at_call 23; refine Calls.mono HP.out ?_; rintro e w2 ⟨rfl, m2, rfl⟩; have h4c : ((w.drewN m).drew.drewN m2).cell? ⟨bh, 0, none⟩ = some (.pointer (some ⟨bm, 0, none⟩)) ∧ ((w.drewN m).drew.drewN m2).cell? ⟨bm, 0, none⟩ = some (.int .i64 h.s.n) ∧ ((w.drewN m).drew.drewN m2).cell? ⟨bx k, 1 + q, none⟩ = some (.int .i64 (x.m.st q)) := sA))
            go_wp2_with fail
            refine Calls.mono (HGV.out _) ?_
            rintro e w3 ⟨rfl, ⟨v3, hr3⟩, hu3⟩
            have HR3 : Hid (RHo w3 bh bm base bx v3 (h.put k (gGive h.s x q true).2)) := hr3
            have HU3 : Hid (Upd (RFt bh bm bx h) w w3) := upd_ft ((Upd.refl _ w).drewN _) HX.out hu3
            clear hr3 hu3
            go_wp2_with fail
            go_ret
            exact ⟨rfl, ⟨v3, HR3.out⟩, HU3.out⟩
        · have d2 : (x.m.st q == 2) = false := by simp [h2]
          rw [if_neg (fun c => h2 c.2.1)]
          have cs := sA.2.2
          clear h2
          go_enter Tryz.func29, Tryz.ntmps29
          go_wp2_with (first | (go_at_call 31; refine Calls.mono HW.out ?_; rintro e w1 ⟨rfl, m, rfl⟩) | (go_at_call 39; refine Calls.mono (HON.out _) ?_; rintro e w2 ⟨rfl, hw2⟩; subst hw2))
          go_quiet (fail)
          go_wp2_with fail
          refine Calls.mono (HGV.out _) ?_
          rintro e w3 ⟨rfl, ⟨v3, hr3⟩, hu3⟩
          have HR3 : Hid (RHo w3 bh bm base bx v3 (h.put k (gGive h.s x q true).2)) := hr3
          have HU3 : Hid (Upd (RFt bh bm bx h) w w3) := upd_ft ((Upd.refl _ w).drewN _) HX.out hu3
          clear hr3 hu3
          go_wp2_with fail
          go_ret
          exact ⟨rfl, ⟨v3, HR3.out⟩, HU3.out⟩
end Go.Proofs.YtadpibcgjgcjhabGreatDoor
