/- The document's host: Promised, Guests. -/
import Derived.Test.YtadpibcgjgcjhabGreatDoorPart18
import Derived.Test.YtadpibcgjgcjhabGreatDoorPart05
import Derived.Test.YtadpibcgjgcjhabGreatDoorPart03
import Derived.Test.YtadpibcgjgcjhabGreatDoorPart11
namespace Go.Proofs.YtadpibcgjgcjhabGreatDoor
open Go.ChangeShapes Go.WideShapes Go.ChangeAt Go.RowKit
set_option maxRecDepth 100000
attribute [local go_sem ↓] Go.wp_at_zero Go.wp_at_succ
variable {w w' : World} {bh bm base : Nat} {bx : Nat → Nat} {v : Nat → Value} {h : Hs} {n : Nat} {x : Gs} {s' : Pl} {x' : Gs}

theorem rPromised_any (r : RHo w bh bm base bx v h) : Calls Tryz.prog 23 #[.pointer (some ⟨bh, 0, none⟩)] w fun e w' => e = .returned (.int .i64 (pln (rowS h) 64 : Nat)) ∧ ∃ m, w' = w.drewN m := by
  have HR : Hid (RHo w bh bm base bx v h) := r
  clear r
  go_enter Tryz.func23, Tryz.ntmps23
  go_wp2_with fail
  go_loopg [3, 4] 4 (fun g c i wr => ∃ k m : Nat, k + g = 4 ∧ i = .int .i64 k ∧ c = .int .i64 (pln (rowS h) (16 * k) : Nat) ∧ wr = w.drewN m)
  case atStart => exact ⟨0, 0, by omega, rfl, rfl, rfl⟩
  case round =>
    obtain ⟨k, m, hk, rfl, rfl, rfl⟩ := hrel
    have HK : Hid _ := hk
    clear hk
    by_cases hlt : k < 4
    · have k0 : (0 : Int) ≤ (k : Int) := by omega
      have k1 : (k : Int) < 4 := by omega
      have HRm : Hid (RHo (w.drewN m) bh bm base bx v h) := HR.out.same ((Upd.refl (fun _ => False) w).drewN m)
      cases hx : h.g k with
      | none =>
        have c := HRm.out.cNone hlt hx
        have HP : Hid _ := pln_none hx 16 (Nat.le_refl _)
        clear hx HRm
        go_wp2_with fail
        go_loopg [3, 5] 0 (fun g c i wr => i = .int .i64 0 ∧ c = .int .i64 (pln (rowS h) (16 * k) : Nat) ∧ wr = w.drewN m)
        case atStart => exact ⟨rfl, rfl, rfl⟩
        case round =>
          obtain ⟨rfl, rfl, rfl⟩ := hrel
          go_wp2_with fail
          go_roundg (4 - (k + 1))
          case rel => exact ⟨k + 1, m, by omega, by go_num, by rw [show 16 * (k + 1) = 16 * k + 16 by omega, HP.out], rfl⟩
          case measure => have := HK.out; omega
      | some x =>
        have c := HRm.out.cSome hlt hx
        have HG : Hid _ := (HRm.out.gu k x hx).mp
        have HX : Hid (h.g k = some x) := hx
        clear hx HRm
        go_wp2_with fail
        go_loopg [3, 5] 16 (fun g c i wr => ∃ j : Nat, j + g = 16 ∧ i = .int .i64 j ∧ c = .int .i64 (pln (rowS h) (16 * k + j) : Nat) ∧ wr = w.drewN m)
        case atStart => exact ⟨0, by omega, rfl, rfl, rfl⟩
        case round =>
          obtain ⟨j, hj, rfl, rfl, rfl⟩ := hrel
          have HJ : Hid _ := hj
          clear hj
          by_cases hlj : j < 16
          · have j0 : (0 : Int) ≤ (j : Int) := by omega
            have j1 : (j : Int) < 16 := by omega
            have cs := HG.out.st j hlj
            have HS : Hid _ := rowS_at HX.out hlj
            have hle := pln_le (rowS h) (16 * k + j)
            have HST : Hid (pln (rowS h) (16 * k + (j + 1)) = pln (rowS h) (16 * k + j) + if rowS h (16 * k + j) = 1 then 1 else 0) := rfl
            by_cases h1 : x.m.st j = 1
            · have d : (x.m.st j == 1) = true := by simp [h1]
              go_wp2_with fail
              go_roundg (16 - (j + 1))
              case rel => exact ⟨j + 1, by omega, by go_num, by rw [HST.out, HS.out, if_pos h1]; go_num, rfl⟩
              case measure => have := HJ.out; omega
            · have d : (x.m.st j == 1) = false := by simp [h1]
              go_wp2_with fail
              go_roundg (16 - (j + 1))
              case rel => exact ⟨j + 1, by omega, by go_num, by rw [HST.out, HS.out, if_neg h1]; rfl, rfl⟩
              case measure => have := HJ.out; omega
          · obtain rfl : j = 16 := by have := HJ.out; omega
            go_wp2_with fail
            go_roundg (4 - (k + 1))
            case rel => exact ⟨k + 1, m, by omega, by go_num, rfl, rfl⟩
            case measure => have := HK.out; omega
    · obtain rfl : k = 4 := by have := HK.out; omega
      go_wp2_with fail
      go_ret
      exact ⟨rfl, m, rfl⟩
end Go.Proofs.YtadpibcgjgcjhabGreatDoor
/- The document's host: Remove, Plug, Unplug, Give. -/
namespace Go.Proofs.YtadpibcgjgcjhabGreatDoor
open Go.ChangeShapes Go.WideShapes Go.ChangeAt Go.RowKit
set_option maxRecDepth 100000
attribute [local go_sem ↓] Go.wp_at_zero Go.wp_at_succ
variable {w w' : World} {bh bm base : Nat} {bx : Nat → Nat} {v : Nat → Value} {h : Hs} {x : Gs} {s' : Pl} {x' : Gs} {W : Int}

/-- What the document's host may turn. -/
def RFt (bh bm : Nat) (bx : Nat → Nat) (h : Hs) : Nat → Prop := fun k => k = bh ∨ k = bm ∨ ∃ i x, h.g i = some x ∧ k = bx i
/-- How an act of the document's host ends. -/
def HPost (w : World) (bh bm base : Nat) (bx : Nat → Nat) (h : Hs) (r : Int × Hs) (e : Ending) (w' : World) : Prop :=
  e = .returned (.int .i64 r.1) ∧ (∃ v', RHo w' bh bm base bx v' r.2) ∧ Upd (RFt bh bm bx h) w w'
theorem RHo.go {n : Nat} {f : Nat} {av : Array Value} {res : Int × Pl × Gs} (r : RHo w bh bm base bx v h) (hi : HInv h W) (hW : W ≤ 1000000) (hx : h.g n = some x) (hc : ∀ v, RPre w (bx n) bm base v h.s x (oth h n) → Calls Tryz.prog f av w (RPost w (bx n) bm base v res)) :
    Calls Tryz.prog f av w fun e w' => e = .returned (.int .i64 res.1) ∧ (∃ v', RHo w' bh bm base bx v' (h.put n res.2)) ∧ Upd (fun k => k = bm ∨ k = bx n) w w' := by
  refine (hc _ (r.pre hi hW hx)).mono ?_
  rintro e w' ⟨he, hr, ⟨v', hg, hf⟩, hu⟩
  exact ⟨he, ⟨_, r.act hx hr hg hf hu⟩, hu⟩
theorem upd_ft {n : Nat} {w1 w2 : World} (u : Upd (RFt bh bm bx h) w w1) (hx : h.g n = some x) (u2 : Upd (fun k => k = bm ∨ k = bx n) w1 w2) : Upd (RFt bh bm bx h) w w2 :=
  u.trans u2 (fun i _ e => by
    rcases e with e | e
    · exact Or.inr (Or.inl e)
    · exact Or.inr (Or.inr ⟨n, x, hx, e⟩))
theorem RHo.off {n : Nat} (hn : n < 4) (r : RHo w bh bm base bx v (h.put n (s', x'))) : RHo (w.setCell ⟨bh, 1 + n, none⟩ (.pointer none)) bh bm base bx v (hOff s' h n) := by
  have u := Upd.one w bh (1 + n) (.pointer none)
  have hne : ∀ i y, (hOff s' h n).g i = some y → i ≠ n ∧ (h.put n (s', x')).g i = some y := fun i y hy => by
    have hy : setAt h.g n none i = some y := hy
    by_cases e : i = n
    · subst e; rw [setAt_same] at hy; cases hy
    · rw [setAt_other _ _ _ _ e] at hy; exact ⟨e, (setAt_other _ _ _ _ e).trans hy⟩
  have hc := r.cg n hn
  refine ⟨?_, fun i hi => ?_, fun o => by rw [World.frozen?_setCell]; exact r.fz o, r.ref.upd u (fun e => r.hm e.symm), fun i y hy => ?_, r.hm, fun i y hy => r.ne i y (hne i y hy).2, fun i j y z hy hz e => r.nx i j y z (hne i y hy).2 (hne j z hz).2 e, fun i y k hy hk => ?_, Nat.le_trans r.base u.size, fun j hj => Nat.lt_of_lt_of_le (r.lx j hj) u.size, fun i y k j hy hk hj => r.nl i y k j (hne i y hy).2 hk hj⟩
  · rw [World.cell?_setCell_other _ _ _ _ (addr_ne (Or.inr (by omega)))]; exact r.c0
  · by_cases e : i = n
    · subst e
      rw [World.cell?_setCell_same _ _ _ hc, show (hOff s' h i).g i = none from setAt_same _ _ _]
      rfl
    · rw [World.cell?_setCell_other _ _ _ _ (addr_ne (Or.inr (by omega))), r.cg i hi, show (h.put n (s', x')).g i = h.g i from setAt_other _ _ _ _ e, show (hOff s' h n).g i = h.g i from setAt_other _ _ _ _ e]
  · have h1 := (hne i y hy).2
    exact (r.gu i y h1).upd u (r.ne i y h1).1 (fun k hk e => (r.nv i y k h1 hk).1 e)
  · have h1 := (hne i y hy).2
    have h2 := r.nv i y k h1 hk
    exact ⟨h2.1, h2.2.1, fun j z hz => h2.2.2 j z (hne j z hz).2⟩
theorem rRemove_any (r : RHo w bh bm base bx v h) (hi : HInv h W) (hW : W ≤ 1000000) (n : Int) : Calls Tryz.prog 25 #[.pointer (some ⟨bh, 0, none⟩), .int .i64 n] w (HPost w bh bm base bx h (hRemove h n)) := by
  have HR : Hid (RHo w bh bm base bx v h) := r
  unfold hRemove
  by_cases h0 : 0 < hWho h n
  · rw [if_pos h0]
    have HW : Hid _ := rWho_any r n
    have d : decide (0 < hWho h n) = true := by simp; exact h0
    clear r hi
    go_enter Tryz.func25, Tryz.ntmps25
    go_wp2_with (go_at_call 31; refine Calls.mono HW.out ?_; rintro e w1 ⟨rfl, m, rfl⟩)
    go_ret
    exact ⟨rfl, ⟨v, HR.out.same ((Upd.refl (fun _ => False) w).drewN m)⟩, (Upd.refl _ w).drewN m⟩
  · rw [if_neg h0]
    have hw0 : hWho h n = 0 := by have := hWho_le (h := h) n; omega
    obtain ⟨k, x, rfl, hk, hx, hat⟩ := hWho_zero hw0
    have hv := whoV_yes (bx := bx) hx hk
    have HW : Hid (Calls Tryz.prog 31 #[.pointer (some ⟨bh, 0, none⟩), .int .i64 (k : Int)] w fun e w' => e = .returned (.tuple #[.pointer (some ⟨bx k, 0, none⟩), .int .i64 0]) ∧ ∃ m, w' = w.drewN m) := by
      have := rWho_any r (k : Int)
      rw [hv, hw0] at this
      exact this
    rw [hat, Int.toNat_natCast]
    have HX : Hid (h.g k = some x) := hx
    have HI : Hid (HInv h W) := hi
    have k0 : (0 : Int) ≤ (k : Int) := by omega
    have k1 : (k : Int) < 4 := by omega
    clear r hi hv hat hx h0 hw0
    go_enter Tryz.func25, Tryz.ntmps25
    go_wp2_with (go_at_call 31; refine Calls.mono HW.out ?_; rintro e w1 ⟨rfl, m, rfl⟩)
    go_loopg [7] 16 (fun g i wr => ∃ (j : Nat) (v' : Nat → Value), j + g = 16 ∧ i = .int .i64 j ∧ Hid (RHo wr bh bm base bx v' (h.put k (gClear h.s x j))) ∧ Hid (Upd (RFt bh bm bx h) w wr))
    case atStart => exact ⟨0, v, by omega, rfl, by rw [show h.put k (gClear h.s x 0) = h from Hs.put_self HX.out]; exact HR.out.same ((Upd.refl (fun _ => False) w).drewN m), (Upd.refl _ w).drewN m⟩
    case round =>
      obtain ⟨j, v', hj, rfl, HRj, HUj⟩ := hrel
      have HJ : Hid _ := hj
      clear hj
      by_cases hlt : j < 16
      · have hc := HRj.out.go (HI.out.clear HX.out j) hW (put_at _ _ _) (fun _ p => p.unplug (j : Int))
        have HC : Hid _ := hc
        clear hc
        go_wp2_with fail
        refine Calls.mono HC.out ?_
        rintro e w2 ⟨rfl, ⟨v2, hr2⟩, hu2⟩
        rw [put_put] at hr2
        have HR2 : Hid (RHo w2 bh bm base bx v2 (h.put k (gClear h.s x (j + 1)))) := hr2
        have HU2 : Hid _ := upd_ft HUj.out HX.out hu2
        clear hr2 hu2 HC
        go_wp2_with fail
        go_roundg (16 - (j + 1))
        case rel => exact ⟨j + 1, v2, by omega, by go_num, HR2.out, HU2.out⟩
        case measure => have := HJ.out; omega
      · obtain rfl : j = 16 := by have := HJ.out; omega
        have c := HRj.out.cg k hk
        have z := HRj.out.fz (1 + k)
        have HO : Hid _ := HRj.out.off hk
        go_wp2_with fail
        go_ret
        exact ⟨rfl, ⟨v', HO.out⟩, HUj.out.trans (Upd.one wr bh (1 + k) (.pointer none)) (fun _ _ e => Or.inl e)⟩
theorem rPlug_host (r : RHo w bh bm base bx v h) (hi : HInv h W) (hW : W ≤ 1000000) (n b : Int) : Calls Tryz.prog 27 #[.pointer (some ⟨bh, 0, none⟩), .int .i64 n, .int .i64 b] w (HPost w bh bm base bx h (hPlug h n b)) := by
  have HR : Hid (RHo w bh bm base bx v h) := r
  unfold hPlug
  by_cases h0 : 0 < hWho h n
  · rw [if_pos h0]
    have HW : Hid _ := rWho_any r n
    have d : decide (0 < hWho h n) = true := by simp; exact h0
    clear r hi
    go_enter Tryz.func27, Tryz.ntmps27
    go_wp2_with (go_at_call 31; refine Calls.mono HW.out ?_; rintro e w1 ⟨rfl, m, rfl⟩)
    go_ret
    exact ⟨rfl, ⟨v, HR.out.same ((Upd.refl (fun _ => False) w).drewN m)⟩, (Upd.refl _ w).drewN m⟩
  · rw [if_neg h0]
    have hw0 : hWho h n = 0 := by have := hWho_le (h := h) n; omega
    obtain ⟨k, x, rfl, hk, hx, hat⟩ := hWho_zero hw0
    have hv := whoV_yes (bx := bx) hx hk
    have HW : Hid (Calls Tryz.prog 31 #[.pointer (some ⟨bh, 0, none⟩), .int .i64 (k : Int)] w fun e w' => e = .returned (.tuple #[.pointer (some ⟨bx k, 0, none⟩), .int .i64 0]) ∧ ∃ m, w' = w.drewN m) := by
      have := rWho_any r (k : Int)
      rw [hv, hw0] at this
      exact this
    rw [hat, Int.toNat_natCast]
    have HX : Hid (h.g k = some x) := hx
    have HI : Hid (HInv h W) := hi
    have k0 : (0 : Int) ≤ (k : Int) := by omega
    have k1 : (k : Int) < 4 := by omega
    clear r hi hv hat hx h0 hw0
    by_cases hb : b < 0 ∨ 3 < b
    · rw [if_pos hb]
      rcases hb with hb | hb
      · have d0 : decide (b < 0) = true := by simp; omega
        go_enter Tryz.func27, Tryz.ntmps27
        go_wp2_with (go_at_call 31; refine Calls.mono HW.out ?_; rintro e w1 ⟨rfl, m, rfl⟩)
        go_ret
        exact ⟨rfl, ⟨v, HR.out.same ((Upd.refl (fun _ => False) w).drewN m)⟩, (Upd.refl _ w).drewN m⟩
      · have d0 : decide (b < 0) = false := by simp; omega
        have d1 : decide (3 < b) = true := by simp; omega
        go_enter Tryz.func27, Tryz.ntmps27
        go_wp2_with (go_at_call 31; refine Calls.mono HW.out ?_; rintro e w1 ⟨rfl, m, rfl⟩)
        go_ret
        exact ⟨rfl, ⟨v, HR.out.same ((Upd.refl (fun _ => False) w).drewN m)⟩, (Upd.refl _ w).drewN m⟩
    · rw [if_neg hb]
      obtain ⟨q, rfl⟩ := Int.eq_ofNat_of_zero_le (show 0 ≤ b by omega)
      have hq : q < 4 := by omega
      have d0 : decide ((q : Int) < 0) = false := by simp
      have d1 : decide ((3 : Int) < (q : Int)) = false := by simp; omega
      rw [Int.toNat_natCast]
      clear hb
      have w4 : IntKind.i64.wrap (4 * (q : Int)) = 4 * (q : Int) := by rw [IntKind.wrap_i64]; omega
      have i0 : (0 : Int) ≤ 4 * (q : Int) := by omega
      have i1 : (4 * (q : Int)) < 16 := by omega
      have it : (4 * (q : Int)).toNat = 4 * q := by omega
      by_cases hs : x.m.st (4 * q) ≠ 0
      · rw [if_pos hs]
        have d2 : (x.m.st (4 * q) != 0) = true := by simp; exact hs
        go_enter Tryz.func27, Tryz.ntmps27
        go_wp2_with (go_at_call 31; refine Calls.mono HW.out ?_; rintro e w1 ⟨rfl, m, rfl⟩; have cs := (HR.out.gu k x HX.out).mp.st (4 * q) (by omega))
        go_ret
        exact ⟨rfl, ⟨v, HR.out.same ((Upd.refl (fun _ => False) w).drewN m)⟩, (Upd.refl _ w).drewN m⟩
      · rw [if_neg hs]
        have hs0 : x.m.st (4 * q) = 0 := by simpa using hs
        have d2 : (x.m.st (4 * q) != 0) = false := by simp [hs0]
        have hle := pln_le (rowS h) 64
        have sA : w.cell? ⟨bh, 0, none⟩ = some (.pointer (some ⟨bm, 0, none⟩)) ∧ w.cell? ⟨bm, 0, none⟩ = some (.int .i64 h.s.n) := ⟨HR.out.c0, HR.out.ref.num⟩
        have w6 : IntKind.i64.wrap (((pln (rowS h) 64 : Nat) : Int) + 4) = ((pln (rowS h) 64 : Nat) : Int) + 4 := by rw [IntKind.wrap_i64]; omega
        clear hs hs0
        by_cases hp : h.s.n < pln (rowS h) 64 + 4
        · rw [if_pos hp]
          have d3 : decide ((h.s.n : Int) < ((pln (rowS h) 64 : Nat) : Int) + 4) = true := by simp; omega
          clear hp
          go_enter Tryz.func27, Tryz.ntmps27
          go_wp2_with (go_at_call 31; refine Calls.mono HW.out ?_; rintro e w1 ⟨rfl, m, rfl⟩; have cs := (HR.out.gu k x HX.out).mp.st (4 * q) (by omega))
          have HRm : Hid (RHo (w.drewN m).drew bh bm base bx v h) := HR.out.same ((Upd.refl (fun _ => False) w).drewN m).drew
          have HP : Hid _ := rPromised_any HRm.out
          generalize pln (rowS h) 64 = P at *
          go_region_held3 (fun w' => w'.cell? ⟨bh, 0, none⟩ = some (.pointer (some ⟨bm, 0, none⟩)) ∧ w'.cell? ⟨bm, 0, none⟩ = some (.int .i64 h.s.n)) (first | exact sA | exact h4c)
            ((go_at_call 23; refine Calls.mono HP.out ?_; rintro e w2 ⟨rfl, m2, rfl⟩; have h4c : ((w.drewN m).drew.drewN m2).cell? ⟨bh, 0, none⟩ = some (.pointer (some ⟨bm, 0, none⟩)) ∧ ((w.drewN m).drew.drewN m2).cell? ⟨bm, 0, none⟩ = some (.int .i64 h.s.n) := sA))
          go_wp2_with fail
          go_ret
          exact ⟨rfl, ⟨v, HR.out.same ((Upd.refl (fun _ => False) w).drewN _)⟩, (Upd.refl _ w).drewN _⟩
        · rw [if_neg hp]
          have d3 : decide ((h.s.n : Int) < ((pln (rowS h) 64 : Nat) : Int) + 4) = false := by simp; omega
          clear hp
          go_enter Tryz.func27, Tryz.ntmps27
          go_wp2_with (go_at_call 31; refine Calls.mono HW.out ?_; rintro e w1 ⟨rfl, m, rfl⟩; have cs := (HR.out.gu k x HX.out).mp.st (4 * q) (by omega))
          have HRm : Hid (RHo (w.drewN m).drew bh bm base bx v h) := HR.out.same ((Upd.refl (fun _ => False) w).drewN m).drew
          have HP : Hid _ := rPromised_any HRm.out
          generalize pln (rowS h) 64 = P at *
          go_region_held3 (fun w' => w'.cell? ⟨bh, 0, none⟩ = some (.pointer (some ⟨bm, 0, none⟩)) ∧ w'.cell? ⟨bm, 0, none⟩ = some (.int .i64 h.s.n)) (first | exact sA | exact h4c)
            ((go_at_call 23; refine Calls.mono HP.out ?_; rintro e w2 ⟨rfl, m2, rfl⟩; have h4c : ((w.drewN m).drew.drewN m2).cell? ⟨bh, 0, none⟩ = some (.pointer (some ⟨bm, 0, none⟩)) ∧ ((w.drewN m).drew.drewN m2).cell? ⟨bm, 0, none⟩ = some (.int .i64 h.s.n) := sA))
          have HRp : Hid (RHo (w.drewN (m + 1 + m2)) bh bm base bx v h) := HR.out.same ((Upd.refl (fun _ => False) w).drewN _)
          have HUp : Hid (Upd (RFt bh bm bx h) w (w.drewN (m + 1 + m2))) := (Upd.refl _ w).drewN _
          clear h4c sA cs HP HRm
          go_wp2_with fail
          revert HRp HUp
          generalize w.drewN (m + 1 + m2) = wp
          intro HRp HUp
          go_loopg [9] 4 (fun g i wr => ∃ (j : Nat) (v' : Nat → Value), j + g = 4 ∧ i = .int .i64 j ∧ Hid (RHo wr bh bm base bx v' (h.put k (gPlugs h.s x q j))) ∧ Hid (Upd (RFt bh bm bx h) w wr))
          case atStart => exact ⟨0, v, by omega, rfl, by rw [show h.put k (gPlugs h.s x q 0) = h from Hs.put_self HX.out]; exact HRp.out, HUp.out⟩
          case round =>
            obtain ⟨j, v', hj, rfl, HRj, HUj⟩ := hrel
            have HJ : Hid _ := hj
            clear hj
            by_cases hlt : j < 4
            · have hcast : ((4 * q + j : Nat) : Int) = 4 * (q : Int) + (j : Int) := by omega
              have hc := HRj.out.go (HI.out.plugs HX.out q j) hW (put_at _ _ _) (fun _ p => p.plug ((4 * q + j : Nat) : Int))
              rw [hcast] at hc
              have HC : Hid _ := hc
              have HCA : Hid _ := hcast
              have w5 : IntKind.i64.wrap (4 * (q : Int) + (j : Int)) = 4 * (q : Int) + (j : Int) := by rw [IntKind.wrap_i64]; omega
              clear hc hcast
              go_wp2_with fail
              refine Calls.mono HC.out ?_
              rintro e w2 ⟨rfl, ⟨v2, hr2⟩, hu2⟩
              rw [put_put, ← HCA.out] at hr2
              have HR2 : Hid (RHo w2 bh bm base bx v2 (h.put k (gPlugs h.s x q (j + 1)))) := hr2
              have HU2 : Hid _ := upd_ft HUj.out HX.out hu2
              clear hr2 hu2 HC
              go_wp2_with fail
              go_roundg (4 - (j + 1))
              case rel => exact ⟨j + 1, v2, by omega, by go_num, HR2.out, HU2.out⟩
              case measure => have := HJ.out; omega
            · obtain rfl : j = 4 := by have := HJ.out; omega
              go_wp2_with fail
              go_ret
              exact ⟨rfl, ⟨v', HRj.out⟩, HUj.out⟩
end Go.Proofs.YtadpibcgjgcjhabGreatDoor
/- The document's host: Unplug, Give. -/
namespace Go.Proofs.YtadpibcgjgcjhabGreatDoor
open Go.ChangeShapes Go.WideShapes Go.ChangeAt Go.RowKit
set_option maxRecDepth 100000
attribute [local go_sem ↓] Go.wp_at_zero Go.wp_at_succ
variable {w w' : World} {bh bm base : Nat} {bx : Nat → Nat} {v : Nat → Value} {h : Hs} {x : Gs} {s' : Pl} {x' : Gs} {W : Int}

theorem unplug_codeH (s : Pl) (m : Mp) (n : Int) : 0 ≤ (unplugR s m n).1 := by
  unfold unplugR
  split
  · split <;> simp
  · simp
theorem gUnplugs_code (s : Pl) (x : Gs) (b : Nat) : ∀ j, 0 ≤ (gUnplugs s x b j).1
  | 0 => Int.le_refl _
  | j + 1 => by
    show 0 ≤ (if 0 < (gUnplugs s x b j).1 then gUnplugs s x b j else gUnplug (gUnplugs s x b j).2.1 (gUnplugs s x b j).2.2 ((4 * b + j : Nat) : Int)).1
    split
    · exact gUnplugs_code s x b j
    · exact unplug_codeH _ _ _
theorem gUnplugs_stop (s : Pl) (x : Gs) (b : Nat) {j : Nat} (hp : 0 < (gUnplugs s x b j).1) : ∀ i, j ≤ i → gUnplugs s x b i = gUnplugs s x b j
  | 0, hi => by
    have e : j = 0 := by omega
    rw [e]
  | i + 1, hi => by
    by_cases e : j = i + 1
    · subst e; rfl
    · have ih := gUnplugs_stop s x b hp i (by omega)
      show (if 0 < (gUnplugs s x b i).1 then gUnplugs s x b i else _) = _
      rw [ih, if_pos hp]
theorem rUnplug_host (r : RHo w bh bm base bx v h) (hi : HInv h W) (hW : W ≤ 1000000) (n b : Int) : Calls Tryz.prog 28 #[.pointer (some ⟨bh, 0, none⟩), .int .i64 n, .int .i64 b] w (HPost w bh bm base bx h (hUnplug h n b)) := by
  have HR : Hid (RHo w bh bm base bx v h) := r
  unfold hUnplug
  by_cases h0 : 0 < hWho h n
  · rw [if_pos h0]
    have HW : Hid _ := rWho_any r n
    have d : decide (0 < hWho h n) = true := by simp; exact h0
    clear r hi
    go_enter Tryz.func28, Tryz.ntmps28
    go_wp2_with (go_at_call 31; refine Calls.mono HW.out ?_; rintro e w1 ⟨rfl, m, rfl⟩)
    go_ret
    exact ⟨rfl, ⟨v, HR.out.same ((Upd.refl (fun _ => False) w).drewN m)⟩, (Upd.refl _ w).drewN m⟩
  · rw [if_neg h0]
    have hw0 : hWho h n = 0 := by have := hWho_le (h := h) n; omega
    obtain ⟨k, x, rfl, hk, hx, hat⟩ := hWho_zero hw0
    have hv := whoV_yes (bx := bx) hx hk
    have HW : Hid (Calls Tryz.prog 31 #[.pointer (some ⟨bh, 0, none⟩), .int .i64 (k : Int)] w fun e w' => e = .returned (.tuple #[.pointer (some ⟨bx k, 0, none⟩), .int .i64 0]) ∧ ∃ m, w' = w.drewN m) := by
      have := rWho_any r (k : Int)
      rw [hv, hw0] at this
      exact this
    rw [hat, Int.toNat_natCast]
    have HX : Hid (h.g k = some x) := hx
    have HI : Hid (HInv h W) := hi
    have k0 : (0 : Int) ≤ (k : Int) := by omega
    have k1 : (k : Int) < 4 := by omega
    clear r hi hv hat hx h0 hw0
    by_cases hb : b < 0 ∨ 3 < b
    · rw [if_pos hb]
      rcases hb with hb | hb
      · have d0 : decide (b < 0) = true := by simp; omega
        go_enter Tryz.func28, Tryz.ntmps28
        go_wp2_with (go_at_call 31; refine Calls.mono HW.out ?_; rintro e w1 ⟨rfl, m, rfl⟩)
        go_ret
        exact ⟨rfl, ⟨v, HR.out.same ((Upd.refl (fun _ => False) w).drewN m)⟩, (Upd.refl _ w).drewN m⟩
      · have d0 : decide (b < 0) = false := by simp; omega
        have d1 : decide (3 < b) = true := by simp; omega
        go_enter Tryz.func28, Tryz.ntmps28
        go_wp2_with (go_at_call 31; refine Calls.mono HW.out ?_; rintro e w1 ⟨rfl, m, rfl⟩)
        go_ret
        exact ⟨rfl, ⟨v, HR.out.same ((Upd.refl (fun _ => False) w).drewN m)⟩, (Upd.refl _ w).drewN m⟩
    · rw [if_neg hb]
      obtain ⟨q, rfl⟩ := Int.eq_ofNat_of_zero_le (show 0 ≤ b by omega)
      have hq : q < 4 := by omega
      have d0 : decide ((q : Int) < 0) = false := by simp
      have d1 : decide ((3 : Int) < (q : Int)) = false := by simp; omega
      rw [Int.toNat_natCast]
      clear hb
      have HCO : Hid (∀ j, 0 ≤ (gUnplugs h.s x q j).1) := fun j => gUnplugs_code h.s x q j
      go_enter Tryz.func28, Tryz.ntmps28
      go_wp2_with (go_at_call 31; refine Calls.mono HW.out ?_; rintro e w1 ⟨rfl, m, rfl⟩)
      go_loopg [9] 4 (fun g i wr => ∃ (j : Nat) (v' : Nat → Value), j + g = 4 ∧ i = .int .i64 j ∧ Hid (¬ 0 < (gUnplugs h.s x q j).1) ∧ Hid (RHo wr bh bm base bx v' (h.put k (gUnplugs h.s x q j).2)) ∧ Hid (Upd (RFt bh bm bx h) w wr))
      case atStart => exact ⟨0, v, by omega, rfl, (show ¬ (0 : Int) < 0 by omega), by rw [show h.put k (gUnplugs h.s x q 0).2 = h from Hs.put_self HX.out]; exact HR.out.same ((Upd.refl (fun _ => False) w).drewN m), (Upd.refl _ w).drewN m⟩
      case round =>
        obtain ⟨j, v', hj, rfl, HN, HRj, HUj⟩ := hrel
        have HJ : Hid _ := hj
        clear hj
        by_cases hlt : j < 4
        · have hcast : ((4 * q + j : Nat) : Int) = 4 * (q : Int) + (j : Int) := by omega
          have hc := HRj.out.go (res := gUnplug (gUnplugs h.s x q j).2.1 (gUnplugs h.s x q j).2.2 ((4 * q + j : Nat) : Int)) (HI.out.unplugs HX.out q j) hW (put_at _ _ _) (fun _ p => p.unplug ((4 * q + j : Nat) : Int))
          rw [hcast] at hc
          have HC : Hid _ := hc
          have HST : Hid (gUnplugs h.s x q (j + 1) = gUnplug (gUnplugs h.s x q j).2.1 (gUnplugs h.s x q j).2.2 (4 * (q : Int) + (j : Int))) := by
            show (if 0 < (gUnplugs h.s x q j).1 then gUnplugs h.s x q j else gUnplug (gUnplugs h.s x q j).2.1 (gUnplugs h.s x q j).2.2 ((4 * q + j : Nat) : Int)) = _
            rw [if_neg HN.out, hcast]
          have w5 : IntKind.i64.wrap (4 * (q : Int) + (j : Int)) = 4 * (q : Int) + (j : Int) := by rw [IntKind.wrap_i64]; omega
          have w4 : IntKind.i64.wrap (4 * (q : Int)) = 4 * (q : Int) := by rw [IntKind.wrap_i64]; omega
          clear hc hcast
          by_cases hp : 0 < (gUnplugs h.s x q (j + 1)).1
          · have HE : Hid _ := gUnplugs_stop h.s x q hp 4 (by omega)
            rw [HST.out] at hp
            have d5 : decide (0 < (gUnplug (gUnplugs h.s x q j).2.1 (gUnplugs h.s x q j).2.2 (4 * (q : Int) + (j : Int))).1) = true := by simp; exact hp
            go_wp2_with fail
            refine Calls.mono HC.out ?_
            rintro e w2 ⟨rfl, ⟨v2, hr2⟩, hu2⟩
            have HR2 : Hid (RHo w2 bh bm base bx v2 (h.put k (gUnplugs h.s x q 4).2)) := by rw [HE.out, HST.out]; rw [put_put] at hr2; exact hr2
            have HU2 : Hid _ := upd_ft HUj.out HX.out hu2
            clear hr2 hu2 HC
            go_wp2_with fail
            go_ret
            exact ⟨by rw [HE.out, HST.out]; rfl, ⟨v2, HR2.out⟩, HU2.out⟩
          · have HP : Hid (¬ 0 < (gUnplugs h.s x q (j + 1)).1) := hp
            rw [HST.out] at hp
            have d5 : decide (0 < (gUnplug (gUnplugs h.s x q j).2.1 (gUnplugs h.s x q j).2.2 (4 * (q : Int) + (j : Int))).1) = false := by simp; omega
            go_wp2_with fail
            refine Calls.mono HC.out ?_
            rintro e w2 ⟨rfl, ⟨v2, hr2⟩, hu2⟩
            have HR2 : Hid (RHo w2 bh bm base bx v2 (h.put k (gUnplugs h.s x q (j + 1)).2)) := by rw [HST.out]; rw [put_put] at hr2; exact hr2
            have HU2 : Hid _ := upd_ft HUj.out HX.out hu2
            clear hr2 hu2 HC
            go_wp2_with fail
            go_roundg (4 - (j + 1))
            case rel => exact ⟨j + 1, v2, by omega, by go_num, HP.out, HR2.out, HU2.out⟩
            case measure => have := HJ.out; omega
        · obtain rfl : j = 4 := by have := HJ.out; omega
          have hz : (gUnplugs h.s x q 4).1 = 0 := by have := HCO.out 4; have := HN.out; omega
          have HZ : Hid _ := hz
          clear hz
          go_wp2_with fail
          go_ret
          exact ⟨by rw [HZ.out]; rfl, ⟨v', HRj.out⟩, HUj.out⟩
theorem rGive_host (r : RHo w bh bm base bx v h) (hi : HInv h W) (hW : W ≤ 1000000) (n p : Int) (back : Bool) : Calls Tryz.prog 29 #[.pointer (some ⟨bh, 0, none⟩), .int .i64 n, .int .i64 p, .bool back] w (HPost w bh bm base bx h (hGive h n p back)) := by
  have HR : Hid (RHo w bh bm base bx v h) := r
  unfold hGive
  by_cases h0 : 0 < hWho h n
  · rw [if_pos h0]
    have HW : Hid _ := rWho_any r n
    have d : decide (0 < hWho h n) = true := by simp; exact h0
    clear r hi
    go_enter Tryz.func29, Tryz.ntmps29
    go_wp2_with (go_at_call 31; refine Calls.mono HW.out ?_; rintro e w1 ⟨rfl, m, rfl⟩)
    go_ret
    exact ⟨rfl, ⟨v, HR.out.same ((Upd.refl (fun _ => False) w).drewN m)⟩, (Upd.refl _ w).drewN m⟩
  · rw [if_neg h0]
    have hw0 : hWho h n = 0 := by have := hWho_le (h := h) n; omega
    obtain ⟨k, x, rfl, hk, hx, hat⟩ := hWho_zero hw0
    have hv := whoV_yes (bx := bx) hx hk
    have HW : Hid (Calls Tryz.prog 31 #[.pointer (some ⟨bh, 0, none⟩), .int .i64 (k : Int)] w fun e w' => e = .returned (.tuple #[.pointer (some ⟨bx k, 0, none⟩), .int .i64 0]) ∧ ∃ m, w' = w.drewN m) := by
      have := rWho_any r (k : Int)
      rw [hv, hw0] at this
      exact this
    rw [hat, Int.toNat_natCast]
    have HX : Hid (h.g k = some x) := hx
    have HI : Hid (HInv h W) := hi
    have k0 : (0 : Int) ≤ (k : Int) := by omega
    have k1 : (k : Int) < 4 := by omega
    clear r hi hv hat hx h0 hw0
    have HGV : Hid (∀ M, Calls Tryz.prog 40 #[.pointer (some ⟨bx k, 0, none⟩), .int .i64 p, .bool back] (w.drewN M) fun e w' => e = .returned (.int .i64 (gGive h.s x p back).1) ∧ (∃ v', RHo w' bh bm base bx v' (h.put k (gGive h.s x p back).2)) ∧ Upd (fun k' => k' = bm ∨ k' = bx k) (w.drewN M) w') := fun M => (HR.out.same ((Upd.refl (fun _ => False) w).drewN M)).go HI.out hW HX.out (fun _ q => q.give p back)
    have HON : Hid (∀ w1, Calls Tryz.prog 39 #[.int .i64 p] w1 fun e w' => e = .returned (.bool (onB p)) ∧ w' = w1) := fun w1 => on_any w1 p
    cases back with
    | false =>
      rw [if_neg (by simp)]
      go_enter Tryz.func29, Tryz.ntmps29
      go_wp2_with (first | (go_at_call 31; refine Calls.mono HW.out ?_; rintro e w1 ⟨rfl, m, rfl⟩) | (go_at_call 39; refine Calls.mono (HON.out _) ?_; rintro e w2 ⟨rfl, hw2⟩; subst hw2))
      go_quiet (fail)
      go_wp2_with fail
      refine Calls.mono (HGV.out _) ?_
      rintro e w3 ⟨rfl, ⟨v3, hr3⟩, hu3⟩
      have HR3 : Hid (RHo w3 bh bm base bx v3 (h.put k (gGive h.s x p false).2)) := hr3
      have HU3 : Hid (Upd (RFt bh bm bx h) w w3) := upd_ft ((Upd.refl _ w).drewN _) HX.out hu3
      clear hr3 hu3
      go_wp2_with fail
      go_ret
      exact ⟨rfl, ⟨v3, HR3.out⟩, HU3.out⟩
    | true =>
      cases ho : onB p with
      | false =>
        rw [if_neg (by simp)]
        have HON : Hid (∀ w1, Calls Tryz.prog 39 #[.int .i64 p] w1 fun e w' => e = .returned (.bool false) ∧ w' = w1) := fun w1 => by have := on_any w1 p; rw [ho] at this; exact this
        clear ho
        go_enter Tryz.func29, Tryz.ntmps29
        go_wp2_with (first | (go_at_call 31; refine Calls.mono HW.out ?_; rintro e w1 ⟨rfl, m, rfl⟩) | (go_at_call 39; refine Calls.mono (HON.out _) ?_; rintro e w2 ⟨rfl, hw2⟩; subst hw2))
        go_quiet (fail)
        go_wp2_with fail
        refine Calls.mono (HGV.out _) ?_
        rintro e w3 ⟨rfl, ⟨v3, hr3⟩, hu3⟩
        have HR3 : Hid (RHo w3 bh bm base bx v3 (h.put k (gGive h.s x p true).2)) := hr3
        have HU3 : Hid (Upd (RFt bh bm bx h) w w3) := upd_ft ((Upd.refl _ w).drewN _) HX.out hu3
        clear hr3 hu3
        go_wp2_with fail
        go_ret
        exact ⟨rfl, ⟨v3, HR3.out⟩, HU3.out⟩
      | true =>
        have HON : Hid (∀ w1, Calls Tryz.prog 39 #[.int .i64 p] w1 fun e w' => e = .returned (.bool true) ∧ w' = w1) := fun w1 => by have := on_any w1 p; rw [ho] at this; exact this
        obtain ⟨p0, p1⟩ := (onB_iff p).1 ho
        obtain ⟨q, rfl⟩ := Int.eq_ofNat_of_zero_le p0
        have hq : q < 16 := by omega
        rw [Int.toNat_natCast]
        have sA : w.cell? ⟨bh, 0, none⟩ = some (.pointer (some ⟨bm, 0, none⟩)) ∧ w.cell? ⟨bm, 0, none⟩ = some (.int .i64 h.s.n) ∧ w.cell? ⟨bx k, 1 + q, none⟩ = some (.int .i64 (x.m.st q)) := ⟨HR.out.c0, HR.out.ref.num, (HR.out.gu k x HX.out).mp.st q hq⟩
        clear ho
        by_cases h2 : x.m.st q = 2
        · have d2 : (x.m.st q == 2) = true := by simp [h2]
          by_cases hp : pln (rowS h) 64 = h.s.n
          · rw [if_pos ⟨by simp, h2, hp⟩]
            have d3 : (((pln (rowS h) 64 : Nat) : Int) == (h.s.n : Int)) = true := by simp [hp]
            clear h2 hp
            go_enter Tryz.func29, Tryz.ntmps29
            go_wp2_with (first | (go_at_call 31; refine Calls.mono HW.out ?_; rintro e w1 ⟨rfl, m, rfl⟩) | (go_at_call 39; refine Calls.mono (HON.out _) ?_; rintro e w2 ⟨rfl, hw2⟩; subst hw2))
            have HP : Hid _ := rPromised_any (HR.out.same (((Upd.refl (fun _ => False) w).drewN m).drew))
            generalize pln (rowS h) 64 = P at *
            go_region_held3 (fun w' => w'.cell? ⟨bh, 0, none⟩ = some (.pointer (some ⟨bm, 0, none⟩)) ∧ w'.cell? ⟨bm, 0, none⟩ = some (.int .i64 h.s.n) ∧ w'.cell? ⟨bx k, 1 + q, none⟩ = some (.int .i64 (x.m.st q))) (first | exact sA | exact h4c)
              ((go_at_call 23; refine Calls.mono HP.out ?_; rintro e w2 ⟨rfl, m2, rfl⟩; have h4c : ((w.drewN m).drew.drewN m2).cell? ⟨bh, 0, none⟩ = some (.pointer (some ⟨bm, 0, none⟩)) ∧ ((w.drewN m).drew.drewN m2).cell? ⟨bm, 0, none⟩ = some (.int .i64 h.s.n) ∧ ((w.drewN m).drew.drewN m2).cell? ⟨bx k, 1 + q, none⟩ = some (.int .i64 (x.m.st q)) := sA))
            go_wp2_with fail
            go_ret
            exact ⟨rfl, ⟨v, HR.out.same ((Upd.refl (fun _ => False) w).drewN _)⟩, (Upd.refl _ w).drewN _⟩
          · rw [if_neg (fun c => hp c.2.2)]
            have d3 : (((pln (rowS h) 64 : Nat) : Int) == (h.s.n : Int)) = false := by simp; omega
            clear h2 hp
            go_enter Tryz.func29, Tryz.ntmps29
            go_wp2_with (first | (go_at_call 31; refine Calls.mono HW.out ?_; rintro e w1 ⟨rfl, m, rfl⟩) | (go_at_call 39; refine Calls.mono (HON.out _) ?_; rintro e w2 ⟨rfl, hw2⟩; subst hw2))
            have HP : Hid _ := rPromised_any (HR.out.same (((Upd.refl (fun _ => False) w).drewN m).drew))
            generalize pln (rowS h) 64 = P at *
            go_region_held3 (fun w' => w'.cell? ⟨bh, 0, none⟩ = some (.pointer (some ⟨bm, 0, none⟩)) ∧ w'.cell? ⟨bm, 0, none⟩ = some (.int .i64 h.s.n) ∧ w'.cell? ⟨bx k, 1 + q, none⟩ = some (.int .i64 (x.m.st q))) (first | exact sA | exact h4c)
              ((go_at_call 23; refine Calls.mono HP.out ?_; rintro e w2 ⟨rfl, m2, rfl⟩; have h4c : ((w.drewN m).drew.drewN m2).cell? ⟨bh, 0, none⟩ = some (.pointer (some ⟨bm, 0, none⟩)) ∧ ((w.drewN m).drew.drewN m2).cell? ⟨bm, 0, none⟩ = some (.int .i64 h.s.n) ∧ ((w.drewN m).drew.drewN m2).cell? ⟨bx k, 1 + q, none⟩ = some (.int .i64 (x.m.st q)) := sA))
            go_wp2_with fail
            refine Calls.mono (HGV.out _) ?_
            rintro e w3 ⟨rfl, ⟨v3, hr3⟩, hu3⟩
            have HR3 : Hid (RHo w3 bh bm base bx v3 (h.put k (gGive h.s x q true).2)) := hr3
            have HU3 : Hid (Upd (RFt bh bm bx h) w w3) := upd_ft ((Upd.refl _ w).drewN _) HX.out hu3
            clear hr3 hu3
            go_wp2_with fail
            go_ret
            exact ⟨rfl, ⟨v3, HR3.out⟩, HU3.out⟩
        · have d2 : (x.m.st q == 2) = false := by simp [h2]
          rw [if_neg (fun c => h2 c.2.1)]
          have cs := sA.2.2
          clear h2
          go_enter Tryz.func29, Tryz.ntmps29
          go_wp2_with (first | (go_at_call 31; refine Calls.mono HW.out ?_; rintro e w1 ⟨rfl, m, rfl⟩) | (go_at_call 39; refine Calls.mono (HON.out _) ?_; rintro e w2 ⟨rfl, hw2⟩; subst hw2))
          go_quiet (fail)
          go_wp2_with fail
          refine Calls.mono (HGV.out _) ?_
          rintro e w3 ⟨rfl, ⟨v3, hr3⟩, hu3⟩
          have HR3 : Hid (RHo w3 bh bm base bx v3 (h.put k (gGive h.s x q true).2)) := hr3
          have HU3 : Hid (Upd (RFt bh bm bx h) w w3) := upd_ft ((Upd.refl _ w).drewN _) HX.out hu3
          clear hr3 hu3
          go_wp2_with fail
          go_ret
          exact ⟨rfl, ⟨v3, HR3.out⟩, HU3.out⟩
end Go.Proofs.YtadpibcgjgcjhabGreatDoor
/- The document's guest as it is made. -/
namespace Go.Proofs.YtadpibcgjgcjhabGreatDoor
open Go.ChangeShapes Go.WideShapes Go.ChangeAt Go.RowKit
set_option maxRecDepth 100000

/-- Sixteen leaves that lead nowhere. -/
def leavesZ : Nat → List Value
  | 0 => []
  | k + 1 => .bool false :: .bool false :: .int .i64 0 :: leavesZ k
def mapTail (a b : Nat) : List Value := List.replicate a (.int .i64 0) ++ leavesZ b
theorem leavesZ_get : ∀ (b n j : Nat), n < b → j < 3 → (leavesZ b)[n * 3 + j]? = some (if j = 2 then .int .i64 0 else .bool false)
  | 0, _, _, h, _ => absurd h (by omega)
  | b + 1, 0, j, _, hj => by
    rcases j with _ | _ | _ | j
    · rfl
    · rfl
    · rfl
    · omega
  | b + 1, n + 1, j, h, hj => by
    have := leavesZ_get b n j (by omega) hj
    rw [show (n + 1) * 3 + j = (n * 3 + j) + 1 + 1 + 1 by omega]
    simpa [leavesZ] using this
theorem mapTail_st (a b n : Nat) (h : n < a) : (mapTail a b)[n]? = some (.int .i64 0) := by
  unfold mapTail
  rw [List.getElem?_append_left (by rw [List.length_replicate]; exact h), List.getElem?_replicate, if_pos h]
theorem mapTail_lf (a b n j : Nat) (h : n < b) (hj : j < 3) : (mapTail a b)[a + (n * 3 + j)]? = some (if j = 2 then .int .i64 0 else .bool false) := by
  unfold mapTail
  rw [List.getElem?_append_right (by rw [List.length_replicate]; omega), List.length_replicate, show a + (n * 3 + j) - a = n * 3 + j by omega]
  exact leavesZ_get b n j h hj
def rmZero (p : Value) : Array Value := (p :: mapTail 16 16).toArray
theorem zero72 (w : World) : (zeroValue 95).run Tryz.prog w = .ok (.agg (rmZero (.pointer none))) w := by kernel_rfl
theorem rmZero_ne : ¬ rmZero (.pointer none) = #[] := by
  unfold rmZero
  simp
theorem rmZero_set (v : Value) : (rmZero (.pointer none)).setIfInBounds 0 v = rmZero v := by
  unfold rmZero
  simp
theorem rmZero_0 (p : Value) : (rmZero p)[0]? = some p := by
  unfold rmZero
  simp
theorem rmZero_st (p : Value) (n : Nat) (h : n < 16) : (rmZero p)[1 + n]? = some (.int .i64 0) := by
  unfold rmZero
  rw [Nat.add_comm, List.getElem?_toArray, List.getElem?_cons_succ]
  exact mapTail_st 16 16 n h
theorem rmZero_lf (p : Value) (n j : Nat) (h : n < 16) (hj : j < 3) : (rmZero p)[17 + n * 3 + j]? = some (if j = 2 then .int .i64 0 else .bool false) := by
  unfold rmZero
  rw [show 17 + n * 3 + j = (16 + (n * 3 + j)) + 1 by omega, List.getElem?_toArray, List.getElem?_cons_succ]
  exact mapTail_lf 16 16 n j h hj
theorem RMap.new (w : World) (bm : Nat) : RMap (w.alloc (.cells (rmZero (.pointer (some ⟨bm, 0, none⟩))) 95)) w.heap.size bm mp0 where
  pool := by rw [World.cell?_alloc_new, rmZero_0]
  st := fun n hn => by rw [World.cell?_alloc_new, rmZero_st _ _ hn]; rfl
  th := fun n hn => by have := rmZero_lf (.pointer (some ⟨bm, 0, none⟩)) n 0 hn (by omega); rw [World.cell?_alloc_new]; exact this
  wr := fun n hn => by have := rmZero_lf (.pointer (some ⟨bm, 0, none⟩)) n 1 hn (by omega); rw [World.cell?_alloc_new]; exact this
  fr := fun n hn => by have := rmZero_lf (.pointer (some ⟨bm, 0, none⟩)) n 2 hn (by omega); rw [World.cell?_alloc_new]; exact this
  fz := fun o => World.frozen?_alloc_new _ _ _ _
  rs := fun o v _ hv => by cases hv

/-- The document's guest, as it is made. -/
def rgZero (p : Value) (r : Int) : Array Value := (p :: (mapTail 16 16 ++ [.slice none 0 0, .int .i64 r, .int .i64 0])).toArray
theorem zeroG (w : World) : (zeroValue 99).run Tryz.prog w = .ok (.agg (rgZero (.pointer none) 0)) w := by kernel_rfl
theorem rgZero_root (p : Value) (r : Int) : (rgZero p 0).setIfInBounds 66 (.int .i64 r) = rgZero p r := by kernel_rfl
theorem rgZero_0 (p : Value) (r : Int) : (rgZero p r)[0]? = some p := by
  unfold rgZero
  simp
theorem rgZero_in (p : Value) (r : Int) (i : Nat) (h : i < 64) : (rgZero p r)[i + 1]? = (mapTail 16 16)[i]? := by
  unfold rgZero
  rw [List.getElem?_toArray, List.getElem?_cons_succ, List.getElem?_append_left (by show i < 64; exact h)]
theorem rgZero_st (p : Value) (r : Int) (n : Nat) (h : n < 16) : (rgZero p r)[1 + n]? = some (.int .i64 0) := by
  rw [Nat.add_comm, rgZero_in p r n (by omega)]
  exact mapTail_st 16 16 n h
theorem rgZero_lf (p : Value) (r : Int) (n j : Nat) (h : n < 16) (hj : j < 3) : (rgZero p r)[17 + n * 3 + j]? = some (if j = 2 then .int .i64 0 else .bool false) := by
  rw [show 17 + n * 3 + j = (16 + (n * 3 + j)) + 1 by omega, rgZero_in p r _ (by omega)]
  exact mapTail_lf 16 16 n j h hj
theorem rgZero_65 (p : Value) (r : Int) : (rgZero p r)[65]? = some (.slice none 0 0) := rfl
theorem rgZero_66 (p : Value) (r : Int) : (rgZero p r)[66]? = some (.int .i64 r) := rfl
theorem rgZero_67 (p : Value) (r : Int) : (rgZero p r)[67]? = some (.int .i64 0) := rfl
theorem RGu.new (w : World) (bm base : Nat) : RGu (w.alloc (.cells (rgZero (.pointer (some ⟨bm, 0, none⟩)) (-1)) 99)) w.heap.size bm base (.slice none 0 0) gs0 where
  mp :=
    { pool := by rw [World.cell?_alloc_new, rgZero_0]
      st := fun n hn => by rw [World.cell?_alloc_new, rgZero_st _ _ _ hn]; rfl
      th := fun n hn => by have := rgZero_lf (.pointer (some ⟨bm, 0, none⟩)) (-1) n 0 hn (by omega); rw [World.cell?_alloc_new]; exact this
      wr := fun n hn => by have := rgZero_lf (.pointer (some ⟨bm, 0, none⟩)) (-1) n 1 hn (by omega); rw [World.cell?_alloc_new]; exact this
      fr := fun n hn => by have := rgZero_lf (.pointer (some ⟨bm, 0, none⟩)) (-1) n 2 hn (by omega); rw [World.cell?_alloc_new]; exact this
      fz := fun o => World.frozen?_alloc_new _ _ _ _
      rs := fun o v _ hv => by
        rw [World.cell?_alloc_new]
        simp only [gRest] at hv
        split at hv
        · next e => subst e; rw [rgZero_65]; exact hv
        · split at hv
          · next e => subst e; rw [rgZero_66]; exact hv
          · split at hv
            · next e => subst e; rw [rgZero_67]; exact hv
            · cases hv }
  sl := SlC.nil _ _
  nb := fun k hk => by simp [Value.ownBlock] at hk
end Go.Proofs.YtadpibcgjgcjhabGreatDoor
/- The document's host: Add. -/
namespace Go.Proofs.YtadpibcgjgcjhabGreatDoor
open Go.ChangeShapes Go.WideShapes Go.ChangeAt Go.RowKit
set_option maxRecDepth 100000
attribute [local go_sem ↓] Go.wp_at_zero Go.wp_at_succ
variable {w w' : World} {bh bm base : Nat} {bx : Nat → Nat} {v : Nat → Value} {h : Hs} {x : Gs} {s' : Pl} {x' : Gs} {W : Int}

/-- A guest is made. -/
theorem RHo.made {k : Nat} (r : RHo w bh bm base bx v h) (hk : k < 4) (hx : h.g k = none) :
    RHo ((w.alloc (.cells (rgZero (.pointer (some ⟨bm, 0, none⟩)) (-1)) 99)).setCell ⟨bh, 1 + k, none⟩ (.pointer (some ⟨w.heap.size, 0, none⟩))) bh bm base (setAt bx k w.heap.size) (setAt v k (.slice none 0 0)) ⟨h.s, setAt h.g k (some gs0)⟩ := by
  have u1 := (Upd.refl (fun _ => False) w).alloc (.cells (rgZero (.pointer (some ⟨bm, 0, none⟩)) (-1)) 99)
  have r1 := r.same u1
  have u2 := Upd.one (w.alloc (.cells (rgZero (.pointer (some ⟨bm, 0, none⟩)) (-1)) 99)) bh (1 + k) (.pointer (some ⟨w.heap.size, 0, none⟩))
  have hlt := r.lt
  have hne : ∀ i y, setAt h.g k (some gs0) i = some y → (i = k ∧ y = gs0) ∨ (i ≠ k ∧ h.g i = some y) := fun i y hy => by
    by_cases e : i = k
    · subst e; rw [setAt_same] at hy; cases hy; exact Or.inl ⟨rfl, rfl⟩
    · rw [setAt_other _ _ _ _ e] at hy; exact Or.inr ⟨e, hy⟩
  have hb : ∀ i y, h.g i = some y → bx i < w.heap.size := fun i y hy => (r.gu i y hy).mp.lt
  refine ⟨?_, fun i hi => ?_, fun o => by rw [World.frozen?_setCell]; exact r1.fz o, r1.ref.upd u2 (fun e => r.hm e.symm), fun i y hy => ?_, r.hm, fun i y hy => ?_, fun i j y z hy hz e => ?_, fun i y q hy hq => ?_, Nat.le_trans r1.base u2.size, fun j hj => ?_, fun i y q j hy hq hj => ?_⟩
  · rw [World.cell?_setCell_other _ _ _ _ (addr_ne (Or.inr (by omega)))]; exact r1.c0
  · by_cases e : i = k
    · subst e
      rw [World.cell?_setCell_same _ _ _ (r1.cg i hi)]
      simp only [setAt_same]
      rfl
    · rw [World.cell?_setCell_other _ _ _ _ (addr_ne (Or.inr (by omega))), r1.cg i hi]
      simp only [setAt_other _ _ _ _ e]
  · rcases hne i y hy with ⟨rfl, rfl⟩ | ⟨e, hy'⟩
    · rw [setAt_same, setAt_same]
      exact (RGu.new w bm base).upd u2 (by omega) (fun k hk => by simp [Value.ownBlock] at hk)
    · rw [setAt_other _ _ _ _ e, setAt_other _ _ _ _ e]
      exact (r1.gu i y hy').upd u2 (r.ne i y hy').1 (fun k hk e => (r.nv i y k hy' hk).1 e)
  · rcases hne i y hy with ⟨rfl, rfl⟩ | ⟨e, hy'⟩
    · rw [setAt_same]; omega
    · rw [setAt_other _ _ _ _ e]; exact r.ne i y hy'
  · rcases hne i y hy with ⟨rfl, rfl⟩ | ⟨e1, hy'⟩
    · rcases hne j z hz with ⟨rfl, rfl⟩ | ⟨e2, hz'⟩
      · exact absurd rfl e
      · rw [setAt_same, setAt_other _ _ _ _ e2]
        have := hb j z hz'
        omega
    · rw [setAt_other _ _ _ _ e1]
      rcases hne j z hz with ⟨rfl, rfl⟩ | ⟨e2, hz'⟩
      · rw [setAt_same]
        have := hb i y hy'
        omega
      · rw [setAt_other _ _ _ _ e2]; exact r.nx i j y z hy' hz' e
  · rcases hne i y hy with ⟨rfl, rfl⟩ | ⟨e1, hy'⟩
    · rw [setAt_same] at hq; simp [Value.ownBlock] at hq
    · rw [setAt_other _ _ _ _ e1] at hq
      have h2 := r.nv i y q hy' hq
      have h3 := ((r.gu i y hy').sl.ownLt hq).2
      refine ⟨h2.1, h2.2.1, fun j z hz => ?_⟩
      rcases hne j z hz with ⟨rfl, rfl⟩ | ⟨e2, hz'⟩
      · rw [setAt_same]; omega
      · rw [setAt_other _ _ _ _ e2]; exact h2.2.2 j z hz'
  · rw [setAt_other _ _ _ _ (by omega)]
    exact Nat.lt_of_lt_of_le (r1.lx j hj) u2.size
  · rw [setAt_other bx _ _ _ (by omega)]
    rcases hne i y hy with ⟨rfl, rfl⟩ | ⟨e1, hy'⟩
    · rw [setAt_same] at hq; simp [Value.ownBlock] at hq
    · rw [setAt_other _ _ _ _ e1] at hq
      exact r.nl i y q j hy' hq hj
/-- How the literal is built, with nothing to be laid open. -/
theorem made_hyps : ∃ (Z : Array Value) (A : Value → Array Value) (G0 : Array Value) (G1 G : Value → Array Value), (∀ w, (zeroValue 95).run Tryz.prog w = .ok (.agg Z) w) ∧ (¬ Z = #[]) ∧ (∀ v, Z.setIfInBounds 0 v = A v) ∧ (∀ v, (A v).size = 65) ∧
    (∀ w, (zeroValue 99).run Tryz.prog w = .ok (.agg G0) w) ∧ (G0.size = 68) ∧ (∀ v, Array.foldl (fun (cs : Array Value) (x : Value × Nat) => cs.setIfInBounds x.snd x.fst) G0 (A v).zipIdx 0 65 = G1 v) ∧ (∀ v, (G1 v).size = 68) ∧ (∀ v, (G1 v).setIfInBounds 66 (.int .i64 (-1)) = G v) ∧ (∀ v, ¬ G v = #[]) ∧ ∀ v, G v = rgZero v (-1) :=
  ⟨rmZero (.pointer none), rmZero, rgZero (.pointer none) 0, fun v => rgZero v 0, fun v => rgZero v (-1), zero72, rmZero_ne, rmZero_set, fun _ => rfl, zeroG, rfl, fun v => by kernel_rfl, fun _ => rfl, fun v => rgZero_root v (-1), fun v => by unfold rgZero; simp, fun _ => rfl⟩
set_option maxHeartbeats 1000000 in
theorem rAdd_any (r : RHo w bh bm base bx v h) : Calls Tryz.prog 17 #[.pointer (some ⟨bh, 0, none⟩)] w fun e w' => e = .returned (.tuple #[.int .i64 (hAdd h).1.1, .int .i64 (hAdd h).1.2]) ∧ (∃ bx' v', RHo w' bh bm base bx' v' (hAdd h).2 ∧ (∀ i y, h.g i = some y → bx' i = bx i) ∧ (∀ i, 4 ≤ i → bx' i = bx i) ∧ ∀ i y, h.g i = none → (hAdd h).2.g i = some y → w.heap.size ≤ bx' i) ∧ Upd (fun k => k = bh) w w' := by
  have HR : Hid (RHo w bh bm base bx v h) := r
  have c0 := r.c0
  obtain ⟨Z, A, G0, G1, G, y1, y2, y3, y4, x1, x3, x4, x6, x5, x7, hG⟩ := made_hyps
  have HGG : Hid _ := hG
  clear r hG
  go_enter Tryz.func17, Tryz.ntmps17
  go_wp2_with fail
  go_loopg [4] 4 (fun g i wr => ∃ k : Nat, k + g = 4 ∧ i = .int .i64 k ∧ wr = w ∧ Hid (∀ i, i < k → h.g i ≠ none))
  case atStart => exact ⟨0, by omega, rfl, rfl, fun i hi => absurd hi (by omega)⟩
  case round =>
    obtain ⟨k, hk, rfl, rfl, HS⟩ := hrel
    have HK : Hid _ := hk
    clear hk
    by_cases hlt : k < 4
    · have k0 : (0 : Int) ≤ (k : Int) := by omega
      have k1 : (k : Int) < 4 := by omega
      cases hx : h.g k with
      | none =>
        have c := HR.out.cNone hlt hx
        have z := HR.out.fz (1 + k)
        have HM : Hid _ := HR.out.made hlt hx
        have HF : Hid _ := hFree_at hlt HS.out hx
        have ua := (Upd.refl (fun _ => False) wr).alloc (.cells (G (.pointer (some ⟨bm, 0, none⟩))) 99)
        have d := ua.cell c (fun f => f)
        have zd := (ua.frozen (p := ⟨bh, 1 + k, none⟩) c (fun f => f)).trans z
        have HU : Hid _ := (((Upd.refl (fun j => j = bh) wr).alloc (.cells (G (.pointer (some ⟨bm, 0, none⟩))) 99)).trans (Upd.one (wr.alloc (.cells (G (.pointer (some ⟨bm, 0, none⟩))) 99)) bh (1 + k) (.pointer (some ⟨wr.heap.size, 0, none⟩))) (fun _ _ f => f)).drew
        have HE : Hid (hAdd h = (((k : Int), 0), ⟨h.s, setAt h.g k (some gs0)⟩)) := by show hAdd h = _; unfold hAdd; rw [HF.out]
        rw [← HGG.out] at HM
        have HN : Hid (∀ i y, h.g i = some y → setAt bx k wr.heap.size i = bx i) := fun i y hy => by
          rw [setAt_other]
          intro e
          rw [e, hx] at hy
          cases hy
        have HN4 : Hid (∀ i, 4 ≤ i → setAt bx k wr.heap.size i = bx i) := fun i hi => setAt_other _ _ _ _ (by omega)
        have HN5 : Hid (∀ i y, h.g i = none → setAt h.g k (some gs0) i = some y → wr.heap.size ≤ setAt bx k wr.heap.size i) := fun i y h0 h1 => by
          by_cases e : i = k
          · subst e; rw [setAt_same]; exact Nat.le_refl _
          · rw [setAt_other _ _ _ _ e, h0] at h1; cases h1
        clear hx ua
        go_wp2_with fail
        go_region
        go_wp2_with fail
        go_ret2
        rw [HE.out]
        exact ⟨rfl, ⟨_, _, HM.out.same (Upd.refl (fun _ => False) _).drew, HN.out, HN4.out, HN5.out⟩, HU.out⟩
      | some x =>
        have c := HR.out.cSome hlt hx
        have HX : Hid _ := hx
        clear hx
        go_wp2_with fail
        go_roundg (4 - (k + 1))
        case rel =>
          refine ⟨k + 1, by omega, by go_num, rfl, fun i hi => ?_⟩
          by_cases e : i = k
          · subst e; rw [HX.out]; simp
          · exact HS.out i (by omega)
        case measure => have := HK.out; omega
    · obtain rfl : k = 4 := by have := HK.out; omega
      have HF : Hid _ := hFree_no HS.out
      have HE : Hid (hAdd h = ((0, 4), h)) := by show hAdd h = _; unfold hAdd; rw [HF.out]
      go_wp2_with fail
      go_ret2
      rw [HE.out]
      exact ⟨rfl, ⟨bx, v, HR.out, fun _ _ _ => rfl, fun _ _ => rfl, fun i y h0 h1 => by rw [h0] at h1; cases h1⟩, Upd.refl _ _⟩
end Go.Proofs.YtadpibcgjgcjhabGreatDoor
/- The document's host: Scan. -/
namespace Go.Proofs.YtadpibcgjgcjhabGreatDoor
open Go.ChangeShapes Go.WideShapes Go.ChangeAt Go.RowKit
set_option maxRecDepth 100000
attribute [local go_sem ↓] Go.wp_at_zero Go.wp_at_succ
variable {w w' : World} {bh bm base : Nat} {bx : Nat → Nat} {v : Nat → Value} {h : Hs} {x : Gs} {s' : Pl} {x' : Gs} {W : Int}

def SPost (w : World) (bh bm base : Nat) (bx : Nat → Nat) (h : Hs) (r : (Bool × Int) × Hs) (e : Ending) (w' : World) : Prop :=
  e = .returned (.tuple #[.bool r.1.1, .int .i64 r.1.2]) ∧ (∃ v', RHo w' bh bm base bx v' r.2) ∧ Upd (RFt bh bm bx h) w w'
theorem sScan_no (r : RHo w bh bm base bx v h) (n p : Int) (h0 : 0 < hWho h n) : Calls Tryz.prog 30 #[.pointer (some ⟨bh, 0, none⟩), .int .i64 n, .int .i64 p] w (SPost w bh bm base bx h ((false, hWho h n), h)) := by
  have HR : Hid (RHo w bh bm base bx v h) := r
  have HW : Hid _ := rWho_any r n
  have d : decide (0 < hWho h n) = true := by simp; exact h0
  clear r
  go_enter Tryz.func30, Tryz.ntmps30
  go_wp2_with (go_at_call 31; refine Calls.mono HW.out ?_; rintro e w1 ⟨rfl, m, rfl⟩)
  go_ret2
  exact ⟨rfl, ⟨v, HR.out.same ((Upd.refl (fun _ => False) w).drewN m)⟩, (Upd.refl _ w).drewN m⟩
theorem who_at {k : Nat} (r : RHo w bh bm base bx v h) (hk : k < 4) (hx : h.g k = some x) : Calls Tryz.prog 31 #[.pointer (some ⟨bh, 0, none⟩), .int .i64 (k : Int)] w fun e w' => e = .returned (.tuple #[.pointer (some ⟨bx k, 0, none⟩), .int .i64 0]) ∧ ∃ m, w' = w.drewN m := by
  have := rWho_any r (k : Int)
  rw [whoV_yes (bx := bx) hx hk, (hWho_some hx hk).1] at this
  exact this
theorem sScan_off {k : Nat} (r : RHo w bh bm base bx v h) (hk : k < 4) (hx : h.g k = some x) (p : Int) (hp : onB p = false) : Calls Tryz.prog 30 #[.pointer (some ⟨bh, 0, none⟩), .int .i64 (k : Int), .int .i64 p] w (SPost w bh bm base bx h ((false, 1), h)) := by
  have HR : Hid (RHo w bh bm base bx v h) := r
  have HW : Hid _ := who_at r hk hx
  have HON : Hid (∀ w1, Calls Tryz.prog 39 #[.int .i64 p] w1 fun e w' => e = .returned (.bool false) ∧ w' = w1) := fun w1 => by have := on_any w1 p; rw [hp] at this; exact this
  clear r hp hx
  go_enter Tryz.func30, Tryz.ntmps30
  go_wp2_with (first | (go_at_call 31; refine Calls.mono HW.out ?_; rintro e w1 ⟨rfl, m, rfl⟩) | (go_at_call 39; refine Calls.mono (HON.out _) ?_; rintro e w2 ⟨rfl, hw2⟩; subst hw2))
  go_ret2
  exact ⟨rfl, ⟨v, HR.out.same ((Upd.refl (fun _ => False) w).drewN m)⟩, (Upd.refl _ w).drewN m⟩
end Go.Proofs.YtadpibcgjgcjhabGreatDoor
