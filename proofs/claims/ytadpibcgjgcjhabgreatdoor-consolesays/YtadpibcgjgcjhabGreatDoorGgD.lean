/- Package guest: Root, Walks, SetRoot, Forget, ForgetAll, State, Leaf. -/
import Derived.Test.YtadpibcgjgcjhabGreatDoorGgC
namespace Go.Proofs.YtadpibcgjgcjhabGreatDoor
open Go.ChangeShapes Go.WideShapes Go.ChangeAt Go.RowKit
set_option maxRecDepth 100000
attribute [local go_sem ↓] Go.wp_at_zero Go.wp_at_succ
variable {w w' : World} {bg bp bf bl bc : Nat} {s : Pl} {g : Gs} {b : Mp} {W : Int}

theorem isPage_any (w : World) (n : Int) (v : Bool) (hv : onB n = v) : Calls Tryz.prog 158 #[.int .i64 n] w fun e w' => e = .returned (.bool v) ∧ w' = w := by
  subst hv
  cases ho : onB n with
  | true =>
    obtain ⟨q0, q1⟩ := (onB_iff n).1 ho
    have d0 : decide (0 ≤ n) = true := by simp; omega
    have d1 : decide (n < 16) = true := by simp; omega
    clear ho
    go_enter Tryz.func158, Tryz.ntmps158
    go_wp2
    go_ret
    exact ⟨rfl, rfl⟩
  | false =>
    rcases (onB_no n).1 ho with h0 | h0
    · have d0 : decide (0 ≤ n) = false := by simp; omega
      clear ho
      go_enter Tryz.func158, Tryz.ntmps158
      go_wp2
      go_ret
      exact ⟨rfl, rfl⟩
    · have d0 : decide (0 ≤ n) = true := by simp; omega
      have d1 : decide (n < 16) = false := by simp; omega
      clear ho
      go_enter Tryz.func158, Tryz.ntmps158
      go_wp2
      go_ret
      exact ⟨rfl, rfl⟩
theorem isAddr_yes (w : World) (n : Int) (h0 : 0 ≤ n) (h1 : n ≤ 255) : Calls Tryz.prog 138 #[.int .i64 n] w fun e w' => e = .returned (.bool true) ∧ w' = w := by
  have d0 : decide (0 ≤ n) = true := by simp; omega
  have d1 : decide (n ≤ 255) = true := by simp; omega
  go_enter Tryz.func138, Tryz.ntmps138
  go_wp2
  go_ret
  exact ⟨rfl, rfl⟩
theorem isAddr_no (w : World) (n : Int) (h : n < 0 ∨ 255 < n) : Calls Tryz.prog 138 #[.int .i64 n] w fun e w' => e = .returned (.bool false) ∧ w' = w := by
  rcases h with h0 | h0
  · have d0 : decide (0 ≤ n) = false := by simp; omega
    go_enter Tryz.func138, Tryz.ntmps138
    go_wp2
    go_ret
    exact ⟨rfl, rfl⟩
  · have d0 : decide (0 ≤ n) = true := by simp; omega
    have d1 : decide (n ≤ 255) = false := by simp; omega
    go_enter Tryz.func138, Tryz.ntmps138
    go_wp2
    go_ret
    exact ⟨rfl, rfl⟩
theorem GG.stateOf (h : GG w bg bp bf bl bc s g b W) (k : Nat) (hk : k < 16) : Calls Tryz.prog 111 #[.pointer (some ⟨bg, 0, none⟩), .int .i64 k] w fun e w' => e = .returned (.tuple #[.int .i64 (g.m.st k), .nilIface]) ∧ Upd (fun _ => False) w w' := by
  have c := h.ce.c1
  have e1 : onB (k : Int) = true := by simp [onB]; omega
  have e2 : stR g.m (k : Int) = (g.m.st k, 0) := by simp [stR, e1]
  have hs := lvState w bl bp k g.m h.lv
  rw [e2, errV_zero] at hs
  have HS : Hid _ := hs
  clear h e1 e2 hs
  go_enter Tryz.func111, Tryz.ntmps111
  go_wp2_with fail
  refine Calls.mono HS.out ?_
  rintro e w1 ⟨rfl, hu⟩
  go_wp2_with fail
  go_ret2
  exact ⟨rfl, hu⟩
theorem GG.setC {c' : List En} (h : GG w bg bp bf bl bc s g b W) (u : Upd (fun k => k = bc) w w') (hc : CaL w' bc (shows g.m c')) (hi : GInv s { g with c := c' } b W) (hd : Dist c') : GG w' bg bp bf bl bc s { g with c := c' } b W := by
  have ha := h.ap
  unfold GAp at ha
  exact ⟨h.ce.upd u (by omega), h.pool.upd u (by omega) (by omega) (h.pool.lt h.hn), h.lv.upd u (by omega), hc, h.ap, hi, hd, h.hn⟩
theorem GG.forget (h : GG w bg bp bf bl bc s g b W) (addr : Int) : Calls Tryz.prog 128 #[.pointer (some ⟨bg, 0, none⟩), .int .i64 addr] w (GPost w bg bp bf bl bc (onS s (gForget g addr)) b W) := by
  by_cases ho : addr < 0 ∨ 255 < addr
  · have hr : gForget g addr = (1, g) := by unfold gForget; rw [if_pos ho]
    rw [hr]
    have HA : Hid _ := isAddr_no w addr ho
    have HH : Hid (GG w bg bp bf bl bc s g b W) := h
    clear h hr ho
    go_enter Tryz.func128, Tryz.ntmps128
    go_wp2_with (go_at_call 138; refine Calls.mono HA.out ?_; rintro e w1 ⟨rfl, rfl⟩)
    go_ret
    exact ⟨rfl, HH.out, Upd.refl _ _⟩
  · obtain ⟨k, rfl⟩ := Int.eq_ofNat_of_zero_le (show 0 ≤ addr by omega)
    have hr : gForget g (k : Int) = (0, { g with c := flt (isAt g.root ((k : Int) / 16)) g.c }) := by
      unfold gForget
      rw [if_neg ho, keep_drop h.di]
    have hi : GInv s (gForget g (k : Int)).2 b W := h.inv.forget k
    have hd : Dist (gForget g (k : Int)).2.c := forget_dist h.di k
    rw [hr] at hi hd ⊢
    have HI : Hid _ := hi
    have HD : Hid (Dist (flt (isAt g.root ((k : Int) / 16)) g.c)) := hd
    have HA : Hid _ := isAddr_yes w k (by omega) (by omega)
    have HS : Hid _ := shows_flt g.m g.c (isAt g.root ((k : Int) / 16)) (fun e => rfl)
    have HH : Hid (GG w bg bp bf bl bc s g b W) := h
    have hc2 := h.ce.c2
    have hc3 := h.ce.c3
    have ha := h.ap
    unfold GAp at ha
    have hne : ¬ bg = bc := ha.2.2.2.1
    have hwr : IntKind.i64.wrap ((k : Int) / 16) = (k : Int) / 16 := by rw [IntKind.wrap_i64]; omega
    have HHd : Hid (GG w.drew bg bp bf bl bc s g b W) := h.same ((Upd.refl (fun _ => False) w).drew)
    clear h hr hi hd ha
    go_enter Tryz.func128, Tryz.ntmps128
    go_wp2_with (go_at_call 138; refine Calls.mono HA.out ?_; rintro e w1 ⟨rfl, rfl⟩)
    go_region_held3 (fun w' => w'.cell? ⟨bg, 2, none⟩ = some (.pointer (some ⟨bc, 0, none⟩)) ∧ w'.cell? ⟨bg, 3, none⟩ = some (.int .i64 g.root)) (first | exact ⟨hc2, hc3⟩ | exact h4c)
      ((go_at_call 159; refine (kDrop_any _ bc (shows g.m g.c) g.root ((k : Int) / 16) (by exact HHd.out.ca)).mono ?_; rintro e w4 ⟨rfl, hc4, hu4⟩; have h4c : w4.cell? ⟨bg, 2, none⟩ = some (.pointer (some ⟨bc, 0, none⟩)) ∧ w4.cell? ⟨bg, 3, none⟩ = some (.int .i64 g.root) := ⟨hu4.cell hc2 hne, hu4.cell hc3 hne⟩))
    rw [HS.out] at hc4
    have HC4 : Hid (CaL w4 bc (shows g.m (flt (isAt g.root ((k : Int) / 16)) g.c))) := hc4
    have HU4 : Hid _ := hu4
    clear hc4 hu4 h4c
    go_wp2_with fail
    go_ret
    exact ⟨rfl, HHd.out.setC HU4.out HC4.out HI.out HD.out, (Upd.refl (GFt bg bf bl bc) w1).drew.trans HU4.out (fun _ _ e => by unfold GFt; omega)⟩
theorem GG.forgetAll (h : GG w bg bp bf bl bc s g b W) (n : Int) : Calls Tryz.prog 129 #[.pointer (some ⟨bg, 0, none⟩), .int .i64 n] w (GPost w bg bp bf bl bc (onS s (gForgetAll g n)) b W) := by
  cases ho : onB n with
  | false =>
    have hr : gForgetAll g n = (1, g) := by unfold gForgetAll; rw [ho]; rfl
    rw [hr]
    have HA : Hid _ := isPage_any w n false ho
    have HH : Hid (GG w bg bp bf bl bc s g b W) := h
    clear h hr ho
    go_enter Tryz.func129, Tryz.ntmps129
    go_wp2_with (go_at_call 158; refine Calls.mono HA.out ?_; rintro e w1 ⟨rfl, rfl⟩)
    go_ret
    exact ⟨rfl, HH.out, Upd.refl _ _⟩
  | true =>
    have hr : gForgetAll g n = (0, { g with c := flt (fun x => x.root == n) g.c }) := by
      unfold gForgetAll
      rw [ho, keep_forget]
      rfl
    have hi : GInv s (gForgetAll g n).2 b W := h.inv.forgetAll n
    have hd : Dist (gForgetAll g n).2.c := forgetAll_dist h.di n
    rw [hr] at hi hd ⊢
    have HI : Hid _ := hi
    have HD : Hid (Dist (flt (fun x => x.root == n) g.c)) := hd
    have HA : Hid _ := isPage_any w n true ho
    have HS : Hid _ := shows_flt g.m g.c (fun x => x.root == n) (fun e => rfl)
    have HH : Hid (GG w bg bp bf bl bc s g b W) := h
    have hc2 := h.ce.c2
    have HK : Hid _ := kForget_any w bc (shows g.m g.c) n h.ca
    clear h hr hi hd ho
    go_enter Tryz.func129, Tryz.ntmps129
    go_wp2_with (go_at_call 158; refine Calls.mono HA.out ?_; rintro e w1 ⟨rfl, rfl⟩)
    refine Calls.mono HK.out ?_
    rintro e w4 ⟨rfl, hc4, hu4⟩
    rw [HS.out] at hc4
    have HC4 : Hid (CaL w4 bc (shows g.m (flt (fun x => x.root == n) g.c))) := hc4
    have HU4 : Hid _ := hu4
    clear hc4 hu4
    go_wp2_with fail
    go_ret
    exact ⟨rfl, HH.out.setC HU4.out HC4.out HI.out HD.out, HU4.out.wide (fun _ e => by unfold GFt; omega)⟩
theorem GG.setRoot (h : GG w bg bp bf bl bc s g b W) (n : Int) : Calls Tryz.prog 127 #[.pointer (some ⟨bg, 0, none⟩), .int .i64 n] w (GPost w bg bp bf bl bc (onS s (gRoot g n)) b W) := by
  have hi : GInv s (gRoot g n).2 b W := h.inv.root n
  have ok : (gRoot g n) = (0, { g with root := n }) → GG (w.setCell ⟨bg, 3, none⟩ (.int .i64 n)) bg bp bf bl bc s { g with root := n } b W := fun e => by
    rw [e] at hi
    have ha := h.ap
    unfold GAp at ha
    have u := Upd.one w bg 3 (.int .i64 n)
    exact ⟨h.ce.setRoot n, h.pool.upd u (by omega) (by omega) (h.pool.lt h.hn), h.lv.upd u (by omega), h.ca.upd u (by omega), h.ap, hi, h.di, h.hn⟩
  have c3 := h.ce.c3
  have z3 := h.ce.fz 3
  by_cases h1 : n = -1
  · subst h1
    have hr : gRoot g (-1) = (0, { g with root := -1 }) := by unfold gRoot; rw [if_neg (by omega)]
    have HK : Hid _ := ok hr
    rw [hr]
    clear ok hi h hr
    go_enter Tryz.func127, Tryz.ntmps127
    go_wp2_with fail
    go_ret
    exact ⟨rfl, HK.out, (Upd.one w bg 3 _).wide (fun _ e => by unfold GFt; omega)⟩
  · have b1 : (n != -1) = true := by simp; exact h1
    cases ho : onB n with
    | true =>
      obtain ⟨q0, q1⟩ := (onB_iff n).1 ho
      have hr : gRoot g n = (0, { g with root := n }) := by unfold gRoot; rw [if_neg (by omega)]
      have HK : Hid _ := ok hr
      have HA : Hid _ := isPage_any w n true ho
      rw [hr]
      clear ok hi h hr ho h1
      go_enter Tryz.func127, Tryz.ntmps127
      go_wp2_with (go_at_call 158; refine Calls.mono HA.out ?_; rintro e w1 ⟨rfl, rfl⟩)
      go_ret
      exact ⟨rfl, HK.out, (Upd.one _ bg 3 _).wide (fun _ e => by unfold GFt; omega)⟩
    | false =>
      have hr : gRoot g n = (1, g) := by unfold gRoot; rw [if_pos (by have := (onB_no n).1 ho; omega)]
      have HA : Hid _ := isPage_any w n false ho
      have HK : Hid (GG w bg bp bf bl bc s g b W) := h
      rw [hr]
      clear ok hi h hr ho h1
      go_enter Tryz.func127, Tryz.ntmps127
      go_wp2_with (go_at_call 158; refine Calls.mono HA.out ?_; rintro e w1 ⟨rfl, rfl⟩)
      go_ret
      exact ⟨rfl, HK.out, Upd.refl _ _⟩
end Go.Proofs.YtadpibcgjgcjhabGreatDoor
