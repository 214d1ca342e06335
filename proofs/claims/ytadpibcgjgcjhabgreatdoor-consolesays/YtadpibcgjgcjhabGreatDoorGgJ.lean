/- Package guest: the frame of an address; Load, Store. -/
import Derived.Test.YtadpibcgjgcjhabGreatDoorGgI
namespace Go.Proofs.YtadpibcgjgcjhabGreatDoor
open Go.ChangeShapes Go.WideShapes Go.ChangeAt Go.RowKit
set_option maxRecDepth 1000000
attribute [local go_sem ↓] Go.wp_at_zero Go.wp_at_succ
variable {w w' : World} {bg bp bf bl bc : Nat} {s : Pl} {g : Gs} {b : Mp} {W : Int}

theorem FPost.more {r : (Int × Int) × Pl × Gs} {W W' : Int} (hw : W ≤ W') {e : Ending} (h : FPost w bg bp bf bl bc r b W e w') : FPost w bg bp bf bl bc r b W' e w' := ⟨h.1, h.2.1.more hw, h.2.2⟩
theorem GG.follow_walk (h : GG w bg bp bf bl bc s g b W) (k : Nat) (hk : k < 16) (wt : Bool) (hf : fndI g.c g.root (k : Int) < 0) (hW : W ≤ 1000000) :
    Calls Tryz.prog 140 #[.pointer (some ⟨bg, 0, none⟩), .int .i64 k, .bool wt] w (FPost w bg bp bf bl bc (gWalk s g (k : Int) wt) b (W + 1)) := by
  have hcc : 0 ≤ (gTouch s g g.root false).1.2 := touch_code s g.m g.root false
  unfold gWalk
  rw [Int.toNat_natCast]
  split
  · next h0 =>
    have hne : (gTouch s g g.root false).1.2 ≠ 0 := by omega
    refine (h.unknown_stop k hf en0 wt (gTouch s g g.root false).1.2 hne (fun w1 hg => ?_)).mono (fun e w' hp => hp.more (show W ≤ W + 1 by omega))
    have := hg.walk_err k hne
    rw [errV_no hne] at this
    exact this
  · next h0 =>
    have he : (gTouch s g g.root false).1.2 = 0 := by omega
    have hby := (h.inv.byt.touch g.m g.root false) (gTouch s g g.root false).1.1.toNat k
    split
    · next h1 =>
      refine h.unknown_stop k hf en0 wt 5 (by omega) (fun w1 hg => ?_)
      have := hg.walk_fault k hk hW he h1
      rw [errV_no (show (5 : Int) ≠ 0 by omega)] at this
      exact this
    · next h1 =>
      have hok : ∀ w1, GG w1 bg bp bf bl bc s g b W → _ := fun w1 hg => hg.walk_ok k hk hW he (fun q => h1 q)
      have hy : 0 ≤ (gEn g.root (k : Int) ((gTouch s g g.root false).2.1.byt (gTouch s g g.root false).1.1.toNat k)).dest ∧ (gEn g.root (k : Int) ((gTouch s g g.root false).2.1.byt (gTouch s g g.root false).1.1.toNat k)).dest < 16 := by
        unfold gEn
        simp only
        omega
      have hc2 : 0 ≤ (gTouch (gTouch s g g.root false).2.1 { (gTouch s g g.root false).2.2 with walks := g.walks + 1 } (gEn g.root (k : Int) ((gTouch s g g.root false).2.1.byt (gTouch s g g.root false).1.1.toNat k)).dest wt).1.2 := touch_code _ _ _ _
      unfold gStep
      cases wt with
      | false =>
        simp only [Bool.false_and, Bool.false_eq_true, if_false]
        split
        · next h2 => exact h.unknown_r_err k hf (gEn g.root (k : Int) ((gTouch s g g.root false).2.1.byt (gTouch s g g.root false).1.1.toNat k)) hy (by omega) hok
        · next h2 => exact h.unknown_r_ok k hf (gEn g.root (k : Int) ((gTouch s g g.root false).2.1.byt (gTouch s g g.root false).1.1.toNat k)) hy (Int.le_antisymm (Int.not_lt.1 h2) hc2) hok
      | true =>
        cases hm : (gEn g.root (k : Int) ((gTouch s g g.root false).2.1.byt (gTouch s g g.root false).1.1.toNat k)).may with
        | false =>
          simp only [Bool.true_and, Bool.not_false, if_true]
          exact h.unknown_fault k hf (gEn g.root (k : Int) ((gTouch s g g.root false).2.1.byt (gTouch s g g.root false).1.1.toNat k)) hm hok
        | true =>
          simp only [Bool.true_and, Bool.not_true, Bool.false_eq_true, if_false]
          split
          · next h2 => exact h.unknown_w_err k hf (gEn g.root (k : Int) ((gTouch s g g.root false).2.1.byt (gTouch s g g.root false).1.1.toNat k)) hm hy (by omega) hok
          · next h2 => exact h.unknown_w_ok k hf (gEn g.root (k : Int) ((gTouch s g g.root false).2.1.byt (gTouch s g g.root false).1.1.toNat k)) hm hy (Int.le_antisymm (Int.not_lt.1 h2) hc2) hok
theorem GG.reach (h : GG w bg bp bf bl bc s g b W) (addr : Int) (wt : Bool) (hW : W ≤ 1000000) :
    Calls Tryz.prog 109 #[.pointer (some ⟨bg, 0, none⟩), .int .i64 addr, .bool wt] w (FPost w bg bp bf bl bc (gAt s g addr wt) b (W + 1)) := by
  unfold gAt
  have c3 := h.ce.c3
  split
  · next ho =>
    have HA : Hid _ := isAddr_no w addr ho
    have HH : Hid (GG w bg bp bf bl bc s g b (W + 1)) := h.more (by omega)
    unfold FPost
    simp only
    rw [errV_no (show (1 : Int) ≠ 0 by omega)]
    clear h ho
    go_enter Tryz.func109, Tryz.ntmps109
    go_wp2_with (go_at_call 138; refine Calls.mono HA.out ?_; rintro e w1 ⟨rfl, rfl⟩)
    go_ret2
    exact ⟨rfl, HH.out, Upd.refl _ _⟩
  · next ho =>
    obtain ⟨k, rfl⟩ := Int.eq_ofNat_of_zero_le (show 0 ≤ addr by omega)
    have hwr : IntKind.i64.wrap ((k : Int) / 16) = (k : Int) / 16 := by rw [IntKind.wrap_i64]; omega
    have HA : Hid _ := isAddr_yes w k (by omega) (by omega)
    split
    · next hr =>
      have ht := h.touch ((k : Int) / 16) wt
      have hd : (g.root == -1) = true := by simp [hr]
      unfold FPost
      revert ht
      generalize gTouch s g ((k : Int) / 16) wt = t
      obtain ⟨⟨f, code⟩, s', g'⟩ := t
      intro ht
      simp only at ht ⊢
      generalize errV code = ev at *
      have HT : Hid _ := ht
      clear h ho hr ht
      go_enter Tryz.func109, Tryz.ntmps109
      go_wp2_with (go_at_call 138; refine Calls.mono HA.out ?_; rintro e w1 ⟨rfl, rfl⟩)
      refine Calls.mono HT.out ?_
      rintro e w2 ⟨rfl, hg2, hu2⟩
      have HG2 : Hid (GG w2 bg bp bf bl bc s' g' b (W + 1)) := hg2.more (by omega)
      have HU2 : Hid _ := hu2
      clear hg2 hu2 HT
      go_wp2_with fail
      go_ret2
      exact ⟨rfl, HG2.out, HU2.out⟩
    · next hr =>
      have hd : (g.root == -1) = false := by simp [hr]
      have hj : ((k / 16 : Nat) : Int) = (k : Int) / 16 := by omega
      have ht : ∃ r, Calls Tryz.prog 140 #[.pointer (some ⟨bg, 0, none⟩), .int .i64 ((k : Int) / 16), .bool wt] w (FPost w bg bp bf bl bc r b (W + 1)) ∧ (if 0 ≤ fndI g.c g.root ((k : Int) / 16) then gStep s g (atE g.c (fndI g.c g.root ((k : Int) / 16)).toNat) true wt else gWalk s g ((k : Int) / 16) wt) = r := by
        split
        · next hf => exact ⟨_, (h.follow_known ((k : Int) / 16) wt _ hf rfl).mono (fun _ _ hp => hp.more (show W ≤ W + 1 by omega)), rfl⟩
        · next hf =>
          have := h.follow_walk (k / 16) (by omega) wt (by rw [hj]; omega) hW
          rw [hj] at this
          exact ⟨_, this, rfl⟩
      obtain ⟨⟨⟨f, code⟩, s', g'⟩, ht, hr⟩ := ht
      rw [hr]
      unfold FPost at ht ⊢
      simp only at ht ⊢
      generalize errV code = ev at *
      have HT : Hid _ := ht
      clear h ho hr ht hj
      go_enter Tryz.func109, Tryz.ntmps109
      go_wp2_with (go_at_call 138; refine Calls.mono HA.out ?_; rintro e w1 ⟨rfl, rfl⟩)
      refine Calls.mono HT.out ?_
      rintro e w2 ⟨rfl, hg2, hu2⟩
      have HG2 : Hid (GG w2 bg bp bf bl bc s' g' b (W + 1)) := hg2
      have HU2 : Hid _ := hu2
      clear hg2 hu2 HT
      go_wp2_with fail
      go_ret2
      exact ⟨rfl, HG2.out, HU2.out⟩
/-- No error, and the frame is one that is used. -/
theorem at_used (h : GInv s g b W) (addr : Int) (wt : Bool) (he : (gAt s g addr wt).1.2 = 0) : (gAt s g addr wt).2.1.used (gAt s g addr wt).1.1 = true ∧ 0 ≤ addr ∧ addr ≤ 255 := by
  have step : ∀ (s : Pl) (g : Gs) (x : En) (found : Bool), Inv s g.m b → (gStep s g x found wt).1.2 = 0 → (gStep s g x found wt).2.1.used (gStep s g x found wt).1.1 = true := by
    intro s g x found hi
    have hc : 0 ≤ (gTouch s g x.dest wt).1.2 := touch_code s g.m x.dest wt
    unfold gStep
    repeat' split
    · intro h; simp at h
    · next h0 => intro h; simp only at h; omega
    all_goals (next h0 _ => intro _; exact touch_used hi x.dest wt (by have : (gTouch s g x.dest wt).1.2 = (touchR s g.m x.dest wt).1.2.2 := rfl; omega))
  revert he
  unfold gAt
  split
  · intro h; simp at h
  · next ho =>
    split
    · intro h2; exact ⟨touch_used h.inv _ wt h2, by omega, by omega⟩
    · split
      · intro h2; exact ⟨step _ _ _ _ h.inv h2, by omega, by omega⟩
      · unfold gWalk
        split
        · next h0 => intro h2; simp only at h2; omega
        · split
          · intro h2; simp at h2
          · intro h2
            refine ⟨step _ _ _ _ ?_ h2, by omega, by omega⟩
            exact h.inv.touch g.root false
theorem at_code (s : Pl) (g : Gs) (addr : Int) (wt : Bool) : 0 ≤ (gAt s g addr wt).1.2 := by
  have step : ∀ (s : Pl) (g : Gs) (x : En) (found : Bool), 0 ≤ (gStep s g x found wt).1.2 := by
    intro s g x found
    unfold gStep
    repeat' split
    · simp
    · next h0 => simp only; omega
    all_goals simp
  unfold gAt
  repeat' split
  · simp
  · exact touch_code _ _ _ _
  · exact step _ _ _ _
  · unfold gWalk
    repeat' split
    · next h0 => simp only; omega
    · simp
    · exact step _ _ _ _
def LPost (w : World) (bg bp bf bl bc : Nat) (r : (Int × Int) × Pl × Gs) (b : Mp) (W : Int) (e : Ending) (w' : World) : Prop :=
  e = .returned (.tuple #[.int .u8 r.1.1, errV r.1.2]) ∧ GG w' bg bp bf bl bc r.2.1 r.2.2 b W ∧ Upd (GFt bg bf bl bc) w w'
theorem GG.load (h : GG w bg bp bf bl bc s g b W) (addr : Int) (hW : W ≤ 1000000) :
    Calls Tryz.prog 78 #[.pointer (some ⟨bg, 0, none⟩), .int .i64 addr] w (LPost w bg bp bf bl bc (gLoad s g addr) b (W + 1)) := by
  have hr := h.reach addr false hW
  have hc := at_code s g addr false
  have hus := at_used h.inv addr false
  unfold gLoad
  revert hr hc hus
  generalize gAt s g addr false = t
  obtain ⟨⟨f, code⟩, s', g'⟩ := t
  intro hr hc hus
  simp only at hr hc hus ⊢
  unfold FPost at hr
  simp only at hr
  split
  · next h0 =>
    unfold LPost
    simp only
    rw [errV_no (show code ≠ 0 by omega)] at hr ⊢
    have HR : Hid _ := hr
    clear h hr hc hus h0
    go_enter Tryz.func78, Tryz.ntmps78
    go_wp2_with fail
    refine Calls.mono HR.out ?_
    rintro e w2 ⟨rfl, hg2, hu2⟩
    have HG2 : Hid (GG w2 bg bp bf bl bc s' g' b (W + 1)) := hg2
    have HU2 : Hid _ := hu2
    clear hg2 hu2 HR
    go_wp2_with fail
    go_ret2
    exact ⟨rfl, HG2.out, HU2.out⟩
  · next h0 =>
    obtain rfl : code = 0 := by omega
    obtain ⟨hu, a0, a1⟩ := hus rfl
    obtain ⟨k, rfl⟩ := Int.eq_ofNat_of_zero_le a0
    have hk : k % 16 < 16 := by omega
    have hget := get_used hu hk
    have hkk : ((k % 16 : Nat) : Int) = (k : Int) % 16 := by omega
    rw [hkk] at hget
    unfold LPost
    simp only
    rw [errV_zero] at hr ⊢
    rw [show ((k : Int) % 16).toNat = k % 16 by omega]
    have HR : Hid _ := hr
    have HGET : Hid _ := hget
    have hwr : IntKind.i64.wrap ((k : Int) % 16) = (k : Int) % 16 := by rw [IntKind.wrap_i64]; omega
    clear h hr hc hus h0 hget hkk hu
    go_enter Tryz.func78, Tryz.ntmps78
    go_wp2_with fail
    refine Calls.mono HR.out ?_
    rintro e w2 ⟨rfl, hg2, hu2⟩
    have HG2 : Hid (GG w2 bg bp bf bl bc s' g' b (W + 1)) := hg2
    have HU2 : Hid _ := hu2
    have d0 := hg2.ce.c0
    have hge := get_any w2 bp bf f ((k : Int) % 16) s' hg2.pool
    rw [HGET.out, errV_zero] at hge
    have HGE : Hid _ := hge
    clear hg2 hu2 HR hge
    go_wp2_with fail
    refine Calls.mono HGE.out ?_
    rintro e w3 ⟨rfl, hw3⟩
    subst hw3
    go_wp2_with fail
    go_ret2
    exact ⟨rfl, HG2.out, HU2.out⟩
theorem GG.setPool {s' : Pl} (h : GG w bg bp bf bl bc s g b W) (u : Upd (fun k => k = bf) w w') (hp : PoolAt w' bp bf s') (hi : GInv s' g b W) (hn : s'.n = s.n) : GG w' bg bp bf bl bc s' g b W := by
  have ha := h.ap
  unfold GAp at ha
  exact ⟨h.ce.upd u (by omega), hp, h.lv.upd u (by omega), h.ca.upd u (by omega), h.ap, hi, h.di, by rw [hn]; exact h.hn⟩
theorem GG.store (h : GG w bg bp bf bl bc s g b W) (addr v : Int) (v0 : 0 ≤ v) (v1 : v ≤ 255) (hW : W ≤ 1000000) :
    Calls Tryz.prog 157 #[.pointer (some ⟨bg, 0, none⟩), .int .i64 addr, .int .u8 v] w (GPost w bg bp bf bl bc (gStore s g addr v) b (W + 1)) := by
  have hr := h.reach addr true hW
  have hc := at_code s g addr true
  have hus := at_used h.inv addr true
  unfold gStore
  revert hr hc hus
  generalize gAt s g addr true = t
  obtain ⟨⟨f, code⟩, s', g'⟩ := t
  intro hr hc hus
  simp only at hr hc hus ⊢
  unfold FPost at hr
  simp only at hr
  split
  · next h0 =>
    unfold GPost
    simp only
    rw [errV_no (show code ≠ 0 by omega)] at hr ⊢
    have HR : Hid _ := hr
    clear h hr hc hus h0
    go_enter Tryz.func157, Tryz.ntmps157
    go_wp2_with fail
    refine Calls.mono HR.out ?_
    rintro e w2 ⟨rfl, hg2, hu2⟩
    have HG2 : Hid (GG w2 bg bp bf bl bc s' g' b (W + 1)) := hg2
    have HU2 : Hid _ := hu2
    clear hg2 hu2 HR
    go_wp2_with fail
    go_ret
    exact ⟨rfl, HG2.out, HU2.out⟩
  · next h0 =>
    obtain rfl : code = 0 := by omega
    obtain ⟨hu, a0, a1⟩ := hus rfl
    obtain ⟨k, rfl⟩ := Int.eq_ofNat_of_zero_le a0
    unfold GPost
    simp only
    rw [errV_zero] at hr
    have HR : Hid _ := hr
    have hwr : IntKind.i64.wrap ((k : Int) % 16) = (k : Int) % 16 := by rw [IntKind.wrap_i64]; omega
    clear h hr hc hus h0 hu
    have HN : Hid ((s'.set f ((k : Int) % 16) v).2.n = s'.n) := set_n _ _ _ _
    have HV : Hid (0 ≤ v ∧ v ≤ 255) := ⟨v0, v1⟩
    clear v0 v1
    go_enter Tryz.func157, Tryz.ntmps157
    go_wp2_with fail
    refine Calls.mono HR.out ?_
    rintro e w2 ⟨rfl, hg2, hu2⟩
    have HG2 : Hid (GG w2 bg bp bf bl bc s' g' b (W + 1)) := hg2
    have HU2 : Hid _ := hu2
    have d0 := hg2.ce.c0
    have HGE : Hid _ := set_any w2 bp bf f ((k : Int) % 16) v s' hg2.pool
    clear hg2 hu2 HR
    go_wp2_with fail
    refine Calls.mono HGE.out ?_
    rintro e w3 ⟨rfl, hp3, hu3⟩
    have HG3 : Hid _ := HG2.out.setPool hu3 hp3 { HG2.out.inv with inv := HG2.out.inv.inv.set _ _ _, byt := HG2.out.inv.byt.set _ _ _ HV.out.1 HV.out.2 } HN.out
    have HU3 : Hid (Upd (GFt bg bf bl bc) w w3) := HU2.out.trans hu3 (fun _ _ e => by unfold GFt; omega)
    clear hp3 hu3 HGE
    go_wp2_with fail
    go_ret
    exact ⟨rfl, HG3.out, HU3.out⟩
end Go.Proofs.YtadpibcgjgcjhabGreatDoor
