/- The document's host: Remove, Plug, Unplug, Give. -/
import Derived.Test.YtadpibcgjgcjhabGreatDoorHrB
namespace Go.Proofs.YtadpibcgjgcjhabGreatDoor
open Go.ChangeShapes Go.WideShapes Go.ChangeAt Go.RowKit
set_option maxRecDepth 100000
attribute [local go_sem ↓] Go.wp_at_zero Go.wp_at_succ
variable {w w' : World} {bh bm base : Nat} {bx : Nat → Nat} {v : Nat → Value} {h : Hs} {x : Gs} {s' : Pl} {x' : Gs} {W : Int}

/-- What the document's host may turn. -/
def RFt (bh bm : Nat) (bx : Nat → Nat) (h : Hs) : Nat → Prop := fun k => k = bh ∨ k = bm ∨ ∃ i x, h.g i = some x ∧ k = bx i
/-- How an act of the document's host ends. -/
def HPost (w : World) (bh bm base : Nat) (bx : Nat → Nat) (h : Hs) (r : Int × Hs) (e : Ending) (w' : World) : Prop :=
  e = .returned (.int .i64 r.1) ∧ (∃ v', RHo w' bh bm base bx v' r.2) ∧ Upd (RFt bh bm bx h) w w'
theorem RHo.go {n : Nat} {f : Nat} {av : Array Value} {res : Int × Pl × Gs} (r : RHo w bh bm base bx v h) (hi : HInv h W) (hW : W ≤ 1000000) (hx : h.g n = some x) (hc : ∀ v, RPre w (bx n) bm base v h.s x (oth h n) → Calls Tryz.prog f av w (RPost w (bx n) bm base v res)) :
    Calls Tryz.prog f av w fun e w' => e = .returned (.int .i64 res.1) ∧ (∃ v', RHo w' bh bm base bx v' (h.put n res.2)) ∧ Upd (fun k => k = bm ∨ k = bx n) w w' := by
  refine (hc _ (r.pre hi hW hx)).mono ?_
  rintro e w' ⟨he, hr, ⟨v', hg, hf⟩, hu⟩
  exact ⟨he, ⟨_, r.act hx hr hg hf hu⟩, hu⟩
theorem upd_ft {n : Nat} {w1 w2 : World} (u : Upd (RFt bh bm bx h) w w1) (hx : h.g n = some x) (u2 : Upd (fun k => k = bm ∨ k = bx n) w1 w2) : Upd (RFt bh bm bx h) w w2 :=
  u.trans u2 (fun i _ e => by
    rcases e with e | e
    · exact Or.inr (Or.inl e)
    · exact Or.inr (Or.inr ⟨n, x, hx, e⟩))
theorem RHo.off {n : Nat} (hn : n < 4) (r : RHo w bh bm base bx v (h.put n (s', x'))) : RHo (w.setCell ⟨bh, 1 + n, none⟩ (.pointer none)) bh bm base bx v (hOff s' h n) := by
  have u := Upd.one w bh (1 + n) (.pointer none)
  have hne : ∀ i y, (hOff s' h n).g i = some y → i ≠ n ∧ (h.put n (s', x')).g i = some y := fun i y hy => by
    have hy : setAt h.g n none i = some y := hy
    by_cases e : i = n
    · subst e; rw [setAt_same] at hy; cases hy
    · rw [setAt_other _ _ _ _ e] at hy; exact ⟨e, (setAt_other _ _ _ _ e).trans hy⟩
  have hc := r.cg n hn
  refine ⟨?_, fun i hi => ?_, fun o => by rw [World.frozen?_setCell]; exact r.fz o, r.ref.upd u (fun e => r.hm e.symm), fun i y hy => ?_, r.hm, fun i y hy => r.ne i y (hne i y hy).2, fun i j y z hy hz e => r.nx i j y z (hne i y hy).2 (hne j z hz).2 e, fun i y k hy hk => ?_, Nat.le_trans r.base u.size, fun j hj => Nat.lt_of_lt_of_le (r.lx j hj) u.size, fun i y k j hy hk hj => r.nl i y k j (hne i y hy).2 hk hj⟩
  · rw [World.cell?_setCell_other _ _ _ _ (addr_ne (Or.inr (by omega)))]; exact r.c0
  · by_cases e : i = n
    · subst e
      rw [World.cell?_setCell_same _ _ _ hc, show (hOff s' h i).g i = none from setAt_same _ _ _]
      rfl
    · rw [World.cell?_setCell_other _ _ _ _ (addr_ne (Or.inr (by omega))), r.cg i hi, show (h.put n (s', x')).g i = h.g i from setAt_other _ _ _ _ e, show (hOff s' h n).g i = h.g i from setAt_other _ _ _ _ e]
  · have h1 := (hne i y hy).2
    exact (r.gu i y h1).upd u (r.ne i y h1).1 (fun k hk e => (r.nv i y k h1 hk).1 e)
  · have h1 := (hne i y hy).2
    have h2 := r.nv i y k h1 hk
    exact ⟨h2.1, h2.2.1, fun j z hz => h2.2.2 j z (hne j z hz).2⟩
theorem rRemove_any (r : RHo w bh bm base bx v h) (hi : HInv h W) (hW : W ≤ 1000000) (n : Int) : Calls Tryz.prog 25 #[.pointer (some ⟨bh, 0, none⟩), .int .i64 n] w (HPost w bh bm base bx h (hRemove h n)) := by
  have HR : Hid (RHo w bh bm base bx v h) := r
  unfold hRemove
  by_cases h0 : 0 < hWho h n
  · rw [if_pos h0]
    have HW : Hid _ := rWho_any r n
    have d : decide (0 < hWho h n) = true := by simp; exact h0
    clear r hi
    go_enter Tryz.func25, Tryz.ntmps25
    go_wp2_with (go_at_call 31; refine Calls.mono HW.out ?_; rintro e w1 ⟨rfl, m, rfl⟩)
    go_ret
    exact ⟨rfl, ⟨v, HR.out.same ((Upd.refl (fun _ => False) w).drewN m)⟩, (Upd.refl _ w).drewN m⟩
  · rw [if_neg h0]
    have hw0 : hWho h n = 0 := by have := hWho_le (h := h) n; omega
    obtain ⟨k, x, rfl, hk, hx, hat⟩ := hWho_zero hw0
    have hv := whoV_yes (bx := bx) hx hk
    have HW : Hid (Calls Tryz.prog 31 #[.pointer (some ⟨bh, 0, none⟩), .int .i64 (k : Int)] w fun e w' => e = .returned (.tuple #[.pointer (some ⟨bx k, 0, none⟩), .int .i64 0]) ∧ ∃ m, w' = w.drewN m) := by
      have := rWho_any r (k : Int)
      rw [hv, hw0] at this
      exact this
    rw [hat, Int.toNat_natCast]
    have HX : Hid (h.g k = some x) := hx
    have HI : Hid (HInv h W) := hi
    have k0 : (0 : Int) ≤ (k : Int) := by omega
    have k1 : (k : Int) < 4 := by omega
    clear r hi hv hat hx h0 hw0
    go_enter Tryz.func25, Tryz.ntmps25
    go_wp2_with (go_at_call 31; refine Calls.mono HW.out ?_; rintro e w1 ⟨rfl, m, rfl⟩)
    go_loopg [7] 16 (fun g i wr => ∃ (j : Nat) (v' : Nat → Value), j + g = 16 ∧ i = .int .i64 j ∧ Hid (RHo wr bh bm base bx v' (h.put k (gClear h.s x j))) ∧ Hid (Upd (RFt bh bm bx h) w wr))
    case atStart => exact ⟨0, v, by omega, rfl, by rw [show h.put k (gClear h.s x 0) = h from Hs.put_self HX.out]; exact HR.out.same ((Upd.refl (fun _ => False) w).drewN m), (Upd.refl _ w).drewN m⟩
    case round =>
      obtain ⟨j, v', hj, rfl, HRj, HUj⟩ := hrel
      have HJ : Hid _ := hj
      clear hj
      by_cases hlt : j < 16
      · have hc := HRj.out.go (HI.out.clear HX.out j) hW (put_at _ _ _) (fun _ p => p.unplug (j : Int))
        have HC : Hid _ := hc
        clear hc
        go_wp2_with fail
        refine Calls.mono HC.out ?_
        rintro e w2 ⟨rfl, ⟨v2, hr2⟩, hu2⟩
        rw [put_put] at hr2
        have HR2 : Hid (RHo w2 bh bm base bx v2 (h.put k (gClear h.s x (j + 1)))) := hr2
        have HU2 : Hid _ := upd_ft HUj.out HX.out hu2
        clear hr2 hu2 HC
        go_wp2_with fail
        go_roundg (16 - (j + 1))
        case rel => exact ⟨j + 1, v2, by omega, by go_num, HR2.out, HU2.out⟩
        case measure => have := HJ.out; omega
      · obtain rfl : j = 16 := by have := HJ.out; omega
        have c := HRj.out.cg k hk
        have z := HRj.out.fz (1 + k)
        have HO : Hid _ := HRj.out.off hk
        go_wp2_with fail
        go_ret
        exact ⟨rfl, ⟨v', HO.out⟩, HUj.out.trans (Upd.one wr bh (1 + k) (.pointer none)) (fun _ _ e => Or.inl e)⟩
theorem rPlug_host (r : RHo w bh bm base bx v h) (hi : HInv h W) (hW : W ≤ 1000000) (n b : Int) : Calls Tryz.prog 27 #[.pointer (some ⟨bh, 0, none⟩), .int .i64 n, .int .i64 b] w (HPost w bh bm base bx h (hPlug h n b)) := by
  have HR : Hid (RHo w bh bm base bx v h) := r
  unfold hPlug
  by_cases h0 : 0 < hWho h n
  · rw [if_pos h0]
    have HW : Hid _ := rWho_any r n
    have d : decide (0 < hWho h n) = true := by simp; exact h0
    clear r hi
    go_enter Tryz.func27, Tryz.ntmps27
    go_wp2_with (go_at_call 31; refine Calls.mono HW.out ?_; rintro e w1 ⟨rfl, m, rfl⟩)
    go_ret
    exact ⟨rfl, ⟨v, HR.out.same ((Upd.refl (fun _ => False) w).drewN m)⟩, (Upd.refl _ w).drewN m⟩
  · rw [if_neg h0]
    have hw0 : hWho h n = 0 := by have := hWho_le (h := h) n; omega
    obtain ⟨k, x, rfl, hk, hx, hat⟩ := hWho_zero hw0
    have hv := whoV_yes (bx := bx) hx hk
    have HW : Hid (Calls Tryz.prog 31 #[.pointer (some ⟨bh, 0, none⟩), .int .i64 (k : Int)] w fun e w' => e = .returned (.tuple #[.pointer (some ⟨bx k, 0, none⟩), .int .i64 0]) ∧ ∃ m, w' = w.drewN m) := by
      have := rWho_any r (k : Int)
      rw [hv, hw0] at this
      exact this
    rw [hat, Int.toNat_natCast]
    have HX : Hid (h.g k = some x) := hx
    have HI : Hid (HInv h W) := hi
    have k0 : (0 : Int) ≤ (k : Int) := by omega
    have k1 : (k : Int) < 4 := by omega
    clear r hi hv hat hx h0 hw0
    by_cases hb : b < 0 ∨ 3 < b
    · rw [if_pos hb]
      rcases hb with hb | hb
      · have d0 : decide (b < 0) = true := by simp; omega
        go_enter Tryz.func27, Tryz.ntmps27
        go_wp2_with (go_at_call 31; refine Calls.mono HW.out ?_; rintro e w1 ⟨rfl, m, rfl⟩)
        go_ret
        exact ⟨rfl, ⟨v, HR.out.same ((Upd.refl (fun _ => False) w).drewN m)⟩, (Upd.refl _ w).drewN m⟩
      · have d0 : decide (b < 0) = false := by simp; omega
        have d1 : decide (3 < b) = true := by simp; omega
        go_enter Tryz.func27, Tryz.ntmps27
        go_wp2_with (go_at_call 31; refine Calls.mono HW.out ?_; rintro e w1 ⟨rfl, m, rfl⟩)
        go_ret
        exact ⟨rfl, ⟨v, HR.out.same ((Upd.refl (fun _ => False) w).drewN m)⟩, (Upd.refl _ w).drewN m⟩
    · rw [if_neg hb]
      obtain ⟨q, rfl⟩ := Int.eq_ofNat_of_zero_le (show 0 ≤ b by omega)
      have hq : q < 4 := by omega
      have d0 : decide ((q : Int) < 0) = false := by simp
      have d1 : decide ((3 : Int) < (q : Int)) = false := by simp; omega
      rw [Int.toNat_natCast]
      clear hb
      have w4 : IntKind.i64.wrap (4 * (q : Int)) = 4 * (q : Int) := by rw [IntKind.wrap_i64]; omega
      have i0 : (0 : Int) ≤ 4 * (q : Int) := by omega
      have i1 : (4 * (q : Int)) < 16 := by omega
      have it : (4 * (q : Int)).toNat = 4 * q := by omega
      by_cases hs : x.m.st (4 * q) ≠ 0
      · rw [if_pos hs]
        have d2 : (x.m.st (4 * q) != 0) = true := by simp; exact hs
        go_enter Tryz.func27, Tryz.ntmps27
        go_wp2_with (go_at_call 31; refine Calls.mono HW.out ?_; rintro e w1 ⟨rfl, m, rfl⟩; have cs := (HR.out.gu k x HX.out).mp.st (4 * q) (by omega))
        go_ret
        exact ⟨rfl, ⟨v, HR.out.same ((Upd.refl (fun _ => False) w).drewN m)⟩, (Upd.refl _ w).drewN m⟩
      · rw [if_neg hs]
        have hs0 : x.m.st (4 * q) = 0 := by simpa using hs
        have d2 : (x.m.st (4 * q) != 0) = false := by simp [hs0]
        have hle := pln_le (rowS h) 64
        have sA : w.cell? ⟨bh, 0, none⟩ = some (.pointer (some ⟨bm, 0, none⟩)) ∧ w.cell? ⟨bm, 0, none⟩ = some (.int .i64 h.s.n) := ⟨HR.out.c0, HR.out.ref.num⟩
        have w6 : IntKind.i64.wrap (((pln (rowS h) 64 : Nat) : Int) + 4) = ((pln (rowS h) 64 : Nat) : Int) + 4 := by rw [IntKind.wrap_i64]; omega
        clear hs hs0
        by_cases hp : h.s.n < pln (rowS h) 64 + 4
        · rw [if_pos hp]
          have d3 : decide ((h.s.n : Int) < ((pln (rowS h) 64 : Nat) : Int) + 4) = true := by simp; omega
          clear hp
          go_enter Tryz.func27, Tryz.ntmps27
          go_wp2_with (go_at_call 31; refine Calls.mono HW.out ?_; rintro e w1 ⟨rfl, m, rfl⟩; have cs := (HR.out.gu k x HX.out).mp.st (4 * q) (by omega))
          have HRm : Hid (RHo (w.drewN m).drew bh bm base bx v h) := HR.out.same ((Upd.refl (fun _ => False) w).drewN m).drew
          have HP : Hid _ := rPromised_any HRm.out
          generalize pln (rowS h) 64 = P at *
          go_region_held3 (fun w' => w'.cell? ⟨bh, 0, none⟩ = some (.pointer (some ⟨bm, 0, none⟩)) ∧ w'.cell? ⟨bm, 0, none⟩ = some (.int .i64 h.s.n)) (first | exact sA | exact h4c)
            ((go_at_call 23; refine Calls.mono HP.out ?_; rintro e w2 ⟨rfl, m2, rfl⟩; have h4c : ((w.drewN m).drew.drewN m2).cell? ⟨bh, 0, none⟩ = some (.pointer (some ⟨bm, 0, none⟩)) ∧ ((w.drewN m).drew.drewN m2).cell? ⟨bm, 0, none⟩ = some (.int .i64 h.s.n) := sA))
          go_wp2_with fail
          go_ret
          exact ⟨rfl, ⟨v, HR.out.same ((Upd.refl (fun _ => False) w).drewN _)⟩, (Upd.refl _ w).drewN _⟩
        · rw [if_neg hp]
          have d3 : decide ((h.s.n : Int) < ((pln (rowS h) 64 : Nat) : Int) + 4) = false := by simp; omega
          clear hp
          go_enter Tryz.func27, Tryz.ntmps27
          go_wp2_with (go_at_call 31; refine Calls.mono HW.out ?_; rintro e w1 ⟨rfl, m, rfl⟩; have cs := (HR.out.gu k x HX.out).mp.st (4 * q) (by omega))
          have HRm : Hid (RHo (w.drewN m).drew bh bm base bx v h) := HR.out.same ((Upd.refl (fun _ => False) w).drewN m).drew
          have HP : Hid _ := rPromised_any HRm.out
          generalize pln (rowS h) 64 = P at *
          go_region_held3 (fun w' => w'.cell? ⟨bh, 0, none⟩ = some (.pointer (some ⟨bm, 0, none⟩)) ∧ w'.cell? ⟨bm, 0, none⟩ = some (.int .i64 h.s.n)) (first | exact sA | exact h4c)
            ((go_at_call 23; refine Calls.mono HP.out ?_; rintro e w2 ⟨rfl, m2, rfl⟩; have h4c : ((w.drewN m).drew.drewN m2).cell? ⟨bh, 0, none⟩ = some (.pointer (some ⟨bm, 0, none⟩)) ∧ ((w.drewN m).drew.drewN m2).cell? ⟨bm, 0, none⟩ = some (.int .i64 h.s.n) := sA))
          have HRp : Hid (RHo (w.drewN (m + 1 + m2)) bh bm base bx v h) := HR.out.same ((Upd.refl (fun _ => False) w).drewN _)
          have HUp : Hid (Upd (RFt bh bm bx h) w (w.drewN (m + 1 + m2))) := (Upd.refl _ w).drewN _
          clear h4c sA cs HP HRm
          go_wp2_with fail
          revert HRp HUp
          generalize w.drewN (m + 1 + m2) = wp
          intro HRp HUp
          go_loopg [9] 4 (fun g i wr => ∃ (j : Nat) (v' : Nat → Value), j + g = 4 ∧ i = .int .i64 j ∧ Hid (RHo wr bh bm base bx v' (h.put k (gPlugs h.s x q j))) ∧ Hid (Upd (RFt bh bm bx h) w wr))
          case atStart => exact ⟨0, v, by omega, rfl, by rw [show h.put k (gPlugs h.s x q 0) = h from Hs.put_self HX.out]; exact HRp.out, HUp.out⟩
          case round =>
            obtain ⟨j, v', hj, rfl, HRj, HUj⟩ := hrel
            have HJ : Hid _ := hj
            clear hj
            by_cases hlt : j < 4
            · have hcast : ((4 * q + j : Nat) : Int) = 4 * (q : Int) + (j : Int) := by omega
              have hc := HRj.out.go (HI.out.plugs HX.out q j) hW (put_at _ _ _) (fun _ p => p.plug ((4 * q + j : Nat) : Int))
              rw [hcast] at hc
              have HC : Hid _ := hc
              have HCA : Hid _ := hcast
              have w5 : IntKind.i64.wrap (4 * (q : Int) + (j : Int)) = 4 * (q : Int) + (j : Int) := by rw [IntKind.wrap_i64]; omega
              clear hc hcast
              go_wp2_with fail
              refine Calls.mono HC.out ?_
              rintro e w2 ⟨rfl, ⟨v2, hr2⟩, hu2⟩
              rw [put_put, ← HCA.out] at hr2
              have HR2 : Hid (RHo w2 bh bm base bx v2 (h.put k (gPlugs h.s x q (j + 1)))) := hr2
              have HU2 : Hid _ := upd_ft HUj.out HX.out hu2
              clear hr2 hu2 HC
              go_wp2_with fail
              go_roundg (4 - (j + 1))
              case rel => exact ⟨j + 1, v2, by omega, by go_num, HR2.out, HU2.out⟩
              case measure => have := HJ.out; omega
            · obtain rfl : j = 4 := by have := HJ.out; omega
              go_wp2_with fail
              go_ret
              exact ⟨rfl, ⟨v', HRj.out⟩, HUj.out⟩
end Go.Proofs.YtadpibcgjgcjhabGreatDoor
