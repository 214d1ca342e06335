/- Package leaves: what New, State, Leaf, Plug, Unplug, Give, Back, Seal and Copy answer and turn. -/
import Derived.Test.YtadpibcgjgcjhabGreatDoorLvA
import Derived.Test.YtadpibcgjgcjhabGreatDoorMapP
namespace Go.Proofs.YtadpibcgjgcjhabGreatDoor
open Go.ChangeShapes Go.WideShapes Go.ChangeAt Go.RowKit
set_option maxRecDepth 100000
attribute [local go_sem ↓] Go.wp_at_zero Go.wp_at_succ

def stR (m : Mp) (n : Int) : Int × Int := if onB n then (m.st n.toNat, 0) else (0, 1)
def lfR (m : Mp) (n : Int) : Lf × Int := if onB n then (m.lf n.toNat, 0) else (lf0, 1)
theorem errV6 : errV 6 = .iface 37 (.int .i64 6) := by simp [errV]
theorem errV8 : errV 8 = .iface 37 (.int .i64 8) := by simp [errV]
theorem setAt_self {α : Type} (g : Nat → α) (k : Nat) (v : α) (h : g k = v) : setAt g k v = g := by
  funext i
  unfold setAt
  split
  · rename_i e; rw [e, h]
  · rfl
theorem setAt_twice {α : Type} (g : Nat → α) (k : Nat) (v u : α) : setAt (setAt g k v) k u = setAt g k u := by
  funext i
  unfold setAt
  split <;> rfl
/-- To turn a page is to leave its frame, and then its state. -/
theorem turn_eq {s : Pl} {m : Mp} {k : Nat} {z : Int} (h : Pgs m) (hk : k < 16) (hz : z = 1 → m.lf k = lf0) : turnP s m k z = leaveP s m k ∧ turnM m k z = { m with st := setAt m.st k z, lf := setAt m.lf k lf0 } := by
  unfold turnP turnM leaveP
  cases ht : (m.lf k).there with
  | false =>
    simp only [Bool.false_and, Bool.false_eq_true, if_false, true_and]
    rw [setAt_self _ _ _ (h.out hk ht)]
  | true =>
    by_cases e : z = 1
    · have := hz e
      rw [this] at ht
      simp [lf0] at ht
    · simp [e]

theorem turn_wrong (w : World) (bl bp k : Nat) (z y c : Int) (m : Mp) (h : LvAt w bl bp m) (hk : k < 16) (hs : m.st k ≠ z) :
    Calls Tryz.prog 179 #[.pointer (some ⟨bl, 0, none⟩), .int .i64 k, .int .i64 z, .int .i64 y, .int .i64 c] w fun e w' => e = .returned (.iface 37 (.int .i64 c)) ∧ w' = w := by
  have c1 := h.st k hk
  have b1 : (m.st k != z) = true := by simp [hs]
  clear hs
  go_enter Tryz.func179, Tryz.ntmps179
  go_wp2_with (go_at_call 147; refine (page_yes _ _ _ hk).mono ?_; rintro e w' ⟨rfl, rfl⟩)
  go_ret
  exact ⟨rfl, rfl⟩
theorem turn_out (w : World) (bl : Nat) (n z y c : Int) (ho : onB n = false) :
    Calls Tryz.prog 179 #[.pointer (some ⟨bl, 0, none⟩), .int .i64 n, .int .i64 z, .int .i64 y, .int .i64 c] w fun e w' => e = .returned (.iface 37 (.int .i64 1)) ∧ w' = w := by
  go_enter Tryz.func179, Tryz.ntmps179
  go_wp2_with (go_at_call 147; refine (page_no _ _ _ ho).mono ?_; rintro e w' ⟨rfl, rfl⟩)
  go_ret
  exact ⟨rfl, rfl⟩
theorem turn_right (w : World) (bl bp bf k : Nat) (z y c : Int) (m : Mp) (s : Pl) (h : LvAt w bl bp m) (hp : PoolAt w bp bf s) (h1 : bl ≠ bp) (h2 : bl ≠ bf) (hk : k < 16) (hlt : bf < w.heap.size) (hm : ∀ k, k < s.n → s.refs k ≤ 1000000) (hs : m.st k = z) :
    Calls Tryz.prog 179 #[.pointer (some ⟨bl, 0, none⟩), .int .i64 k, .int .i64 z, .int .i64 y, .int .i64 c] w fun e w' => e = .returned .nilIface ∧ PoolAt w' bp bf (leaveP s m k) ∧ LvAt w' bl bp { m with st := setAt m.st k y, lf := setAt m.lf k lf0 } ∧ Upd (fun k => k = bf ∨ k = bl) w w' := by
  have c1 := h.st k hk
  have b1 : (m.st k != z) = false := by simp [hs]
  clear hs
  go_enter Tryz.func179, Tryz.ntmps179
  go_wp2_with (go_at_call 147; refine (page_yes _ _ _ hk).mono ?_; rintro e w' ⟨rfl, rfl⟩)
  refine (leave_any _ _ _ _ k m s h hp h1 h2 hk hlt hm).mono ?_
  rintro e w1 ⟨rfl, hp1, hl1, hu1⟩
  have d1 := hl1.st k hk
  have d2 := hl1.fz (1 + k * 4)
  have h3 := hl1.setSt hk y
  have hu3 := Upd.one w1 bl (1 + k * 4) (.int .i64 y)
  have hp3 := hp1.upd hu3 (Ne.symm h1) (Ne.symm h2) (Nat.lt_of_lt_of_le hlt hu1.size)
  have hu4 := hu1.trans hu3 (fun _ _ e => Or.inr e)
  have H3 : Hid _ := h3
  have HU4 : Hid _ := hu4
  have HP3 : Hid _ := hp3
  clear h3 hu3 hp3 hu4 hl1 hu1 hp1
  go_wp2_with fail
  go_ret
  exact ⟨rfl, HP3.out, H3.out, HU4.out⟩
/-- A page turns, or not. -/
theorem turn_lv (w : World) (bl bp bf : Nat) (n z y c : Int) (m m' : Mp) (s : Pl) (h : LvAt w bl bp m) (hp : PoolAt w bp bf s) (h1 : bl ≠ bp) (h2 : bl ≠ bf) (hn : 0 < s.n) (hi : Inv s m m') (hc : errV c = .iface 37 (.int .i64 c)) (hy : y = 1 → z ≠ 1) :
    Calls Tryz.prog 179 #[.pointer (some ⟨bl, 0, none⟩), .int .i64 n, .int .i64 z, .int .i64 y, .int .i64 c] w fun e w' =>
      e = .returned (errV (if onB n then (if m.st n.toNat = z then (0 : Int) else c) else 1)) ∧ PoolAt w' bp bf (if onB n then (if m.st n.toNat = z then turnP s m n.toNat y else s) else s) ∧ LvAt w' bl bp (if onB n then (if m.st n.toNat = z then turnM m n.toNat y else m) else m) ∧ Upd (fun k => k = bf ∨ k = bl) w w' := by
  have hlt : bf < w.heap.size := World.block_lt_of_cell? w _ (hp.refs 0 hn)
  have hm : ∀ k, k < s.n → s.refs k ≤ 1000000 := fun k hk => by have := hi.le k hk; omega
  cases ho : onB n with
  | false =>
    simp only [Bool.false_eq_true, if_false, errV1]
    refine (turn_out w bl n z y c ho).mono ?_
    rintro e w' ⟨rfl, rfl⟩
    exact ⟨rfl, hp, h, Upd.refl _ _⟩
  | true =>
    obtain ⟨h0, h1'⟩ := (onB_iff n).1 ho
    obtain ⟨k, rfl⟩ := Int.eq_ofNat_of_zero_le h0
    have hk : k < 16 := by omega
    simp only [if_true, Int.toNat_natCast]
    by_cases hs : m.st k = z
    · simp only [hs, if_true, errV_zero]
      obtain ⟨e1, e2⟩ := turn_eq (s := s) hi.pa hk (z := y) (fun e => hi.pa.zero hk (by rw [hs]; exact hy e))
      rw [e1, e2]
      exact turn_right w bl bp bf k z y c m s h hp h1 h2 hk hlt hm hs
    · simp only [hs, if_false]
      refine (turn_wrong w bl bp k z y c m h hk hs).mono ?_
      rintro e w' ⟨rfl, rfl⟩
      exact ⟨by rw [hc], hp, h, Upd.refl _ _⟩
theorem plug_wrap (w : World) (bl : Nat) (n : Int) (v : Value) (R : World → Prop) (h : Calls Tryz.prog 179 #[.pointer (some ⟨bl, 0, none⟩), .int .i64 n, .int .i64 0, .int .i64 1, .int .i64 4] w fun e w' => e = .returned v ∧ R w') :
    Calls Tryz.prog 154 #[.pointer (some ⟨bl, 0, none⟩), .int .i64 n] w fun e w' => e = .returned v ∧ R w' := by
  go_enter Tryz.func154, Tryz.ntmps154
  go_wp2_with fail
  refine Calls.mono h ?_
  rintro e w1 ⟨rfl, hR⟩
  go_wp2_with fail
  go_ret
  exact ⟨rfl, hR⟩
theorem lvPlug (w : World) (bl bp bf : Nat) (n : Int) (m m' : Mp) (s : Pl) (h : LvAt w bl bp m) (hp : PoolAt w bp bf s) (h1 : bl ≠ bp) (h2 : bl ≠ bf) (hn : 0 < s.n) (hi : Inv s m m') :
    Calls Tryz.prog 154 #[.pointer (some ⟨bl, 0, none⟩), .int .i64 n] w fun e w' => e = .returned (errV (plugR s m n).1) ∧ PoolAt w' bp bf (plugR s m n).2.1 ∧ LvAt w' bl bp (plugR s m n).2.2 ∧ Upd (fun k => k = bf ∨ k = bl) w w' := by
  have e1 : (plugR s m n).1 = if onB n then (if m.st n.toNat = 0 then (0 : Int) else 4) else 1 := by unfold plugR; split <;> (try split) <;> rfl
  have e2 : (plugR s m n).2.1 = if onB n then (if m.st n.toNat = 0 then turnP s m n.toNat 1 else s) else s := by unfold plugR; split <;> (try split) <;> rfl
  have e3 : (plugR s m n).2.2 = if onB n then (if m.st n.toNat = 0 then turnM m n.toNat 1 else m) else m := by unfold plugR; split <;> (try split) <;> rfl
  rw [e1, e2, e3]
  exact plug_wrap w bl n _ _ (turn_lv w bl bp bf n 0 1 4 m m' s h hp h1 h2 hn hi errV4 (fun e => by omega))
theorem give_wrap (w : World) (bl : Nat) (n : Int) (v : Value) (R : World → Prop) (h : Calls Tryz.prog 179 #[.pointer (some ⟨bl, 0, none⟩), .int .i64 n, .int .i64 1, .int .i64 2, .int .i64 8] w fun e w' => e = .returned v ∧ R w') :
    Calls Tryz.prog 155 #[.pointer (some ⟨bl, 0, none⟩), .int .i64 n] w fun e w' => e = .returned v ∧ R w' := by
  go_enter Tryz.func155, Tryz.ntmps155
  go_wp2_with fail
  refine Calls.mono h ?_
  rintro e w1 ⟨rfl, hR⟩
  go_wp2_with fail
  go_ret
  exact ⟨rfl, hR⟩
theorem lvGive (w : World) (bl bp bf : Nat) (n : Int) (m m' : Mp) (s : Pl) (h : LvAt w bl bp m) (hp : PoolAt w bp bf s) (h1 : bl ≠ bp) (h2 : bl ≠ bf) (hn : 0 < s.n) (hi : Inv s m m') :
    Calls Tryz.prog 155 #[.pointer (some ⟨bl, 0, none⟩), .int .i64 n] w fun e w' => e = .returned (errV (giveR s m n false).1) ∧ PoolAt w' bp bf (giveR s m n false).2.1 ∧ LvAt w' bl bp (giveR s m n false).2.2 ∧ Upd (fun k => k = bf ∨ k = bl) w w' := by
  have e1 : (giveR s m n false).1 = if onB n then (if m.st n.toNat = 1 then (0 : Int) else 8) else 1 := by unfold giveR; simp only [Bool.false_eq_true, if_false]; split <;> (try split) <;> rfl
  have e2 : (giveR s m n false).2.1 = if onB n then (if m.st n.toNat = 1 then turnP s m n.toNat 2 else s) else s := by unfold giveR; simp only [Bool.false_eq_true, if_false]; split <;> (try split) <;> rfl
  have e3 : (giveR s m n false).2.2 = if onB n then (if m.st n.toNat = 1 then turnM m n.toNat 2 else m) else m := by unfold giveR; simp only [Bool.false_eq_true, if_false]; split <;> (try split) <;> rfl
  rw [e1, e2, e3]
  exact give_wrap w bl n _ _ (turn_lv w bl bp bf n 1 2 8 m m' s h hp h1 h2 hn hi errV8 (fun e => by omega))
theorem back_wrap (w : World) (bl : Nat) (n : Int) (v : Value) (R : World → Prop) (h : Calls Tryz.prog 179 #[.pointer (some ⟨bl, 0, none⟩), .int .i64 n, .int .i64 2, .int .i64 1, .int .i64 8] w fun e w' => e = .returned v ∧ R w') :
    Calls Tryz.prog 156 #[.pointer (some ⟨bl, 0, none⟩), .int .i64 n] w fun e w' => e = .returned v ∧ R w' := by
  go_enter Tryz.func156, Tryz.ntmps156
  go_wp2_with fail
  refine Calls.mono h ?_
  rintro e w1 ⟨rfl, hR⟩
  go_wp2_with fail
  go_ret
  exact ⟨rfl, hR⟩
theorem lvBack (w : World) (bl bp bf : Nat) (n : Int) (m m' : Mp) (s : Pl) (h : LvAt w bl bp m) (hp : PoolAt w bp bf s) (h1 : bl ≠ bp) (h2 : bl ≠ bf) (hn : 0 < s.n) (hi : Inv s m m') :
    Calls Tryz.prog 156 #[.pointer (some ⟨bl, 0, none⟩), .int .i64 n] w fun e w' => e = .returned (errV (giveR s m n true).1) ∧ PoolAt w' bp bf (giveR s m n true).2.1 ∧ LvAt w' bl bp (giveR s m n true).2.2 ∧ Upd (fun k => k = bf ∨ k = bl) w w' := by
  have e1 : (giveR s m n true).1 = if onB n then (if m.st n.toNat = 2 then (0 : Int) else 8) else 1 := by unfold giveR; simp only [if_true]; split <;> (try split) <;> rfl
  have e2 : (giveR s m n true).2.1 = if onB n then (if m.st n.toNat = 2 then turnP s m n.toNat 1 else s) else s := by unfold giveR; simp only [if_true]; split <;> (try split) <;> rfl
  have e3 : (giveR s m n true).2.2 = if onB n then (if m.st n.toNat = 2 then turnM m n.toNat 1 else m) else m := by unfold giveR; simp only [if_true]; split <;> (try split) <;> rfl
  rw [e1, e2, e3]
  exact back_wrap w bl n _ _ (turn_lv w bl bp bf n 2 1 8 m m' s h hp h1 h2 hn hi errV8 (fun e => by omega))
theorem lvUnplug (w : World) (bl bp bf : Nat) (n : Int) (m m' : Mp) (s : Pl) (h : LvAt w bl bp m) (hp : PoolAt w bp bf s) (h1 : bl ≠ bp) (h2 : bl ≠ bf) (hn : 0 < s.n) (hi : Inv s m m') :
    Calls Tryz.prog 152 #[.pointer (some ⟨bl, 0, none⟩), .int .i64 n] w fun e w' => e = .returned (errV (unplugR s m n).1) ∧ PoolAt w' bp bf (unplugR s m n).2.1 ∧ LvAt w' bl bp (unplugR s m n).2.2 ∧ Upd (fun k => k = bf ∨ k = bl) w w' := by
  have hlt : bf < w.heap.size := World.block_lt_of_cell? w _ (hp.refs 0 hn)
  have hm : ∀ k, k < s.n → s.refs k ≤ 1000000 := fun k hk => by have := hi.le k hk; omega
  cases ho : onB n with
  | false =>
    simp only [unplugR, ho, Bool.false_eq_true, if_false, errV1]
    go_enter Tryz.func152, Tryz.ntmps152
    go_wp2_with (go_at_call 147; refine (page_no _ _ _ ho).mono ?_; rintro e w' ⟨rfl, rfl⟩)
    go_ret
    exact ⟨rfl, hp, h, Upd.refl _ _⟩
  | true =>
    obtain ⟨h0, h1'⟩ := (onB_iff n).1 ho
    obtain ⟨k, rfl⟩ := Int.eq_ofNat_of_zero_le h0
    have hk : k < 16 := by omega
    have c1 := h.st k hk
    by_cases hs : m.st k = 0
    · simp only [unplugR, ho, if_true, Int.toNat_natCast, hs, errV2]
      have b1 : (m.st k == 0) = true := by simp [hs]
      clear hs
      go_enter Tryz.func152, Tryz.ntmps152
      go_wp2_with (go_at_call 147; refine (page_yes _ _ _ hk).mono ?_; rintro e w' ⟨rfl, rfl⟩)
      go_ret
      exact ⟨rfl, hp, h, Upd.refl _ _⟩
    · simp only [unplugR, ho, if_true, Int.toNat_natCast, hs, if_false, errV_zero]
      have b1 : (m.st k == 0) = false := by simp [hs]
      obtain ⟨e1, e2⟩ := turn_eq (s := s) hi.pa hk (z := 0) (fun e => by omega)
      rw [e1, e2]
      clear hs e1 e2
      go_enter Tryz.func152, Tryz.ntmps152
      go_wp2_with (go_at_call 147; refine (page_yes _ _ _ hk).mono ?_; rintro e w' ⟨rfl, rfl⟩)
      refine (leave_any _ _ _ _ k m s h hp h1 h2 hk hlt hm).mono ?_
      rintro e w1 ⟨rfl, hp1, hl1, hu1⟩
      have d1 := hl1.st k hk
      have d2 := hl1.fz (1 + k * 4)
      have h3 := hl1.setSt hk 0
      have hu3 := Upd.one w1 bl (1 + k * 4) (.int .i64 0)
      have hp3 := hp1.upd hu3 (Ne.symm h1) (Ne.symm h2) (Nat.lt_of_lt_of_le hlt hu1.size)
      have hu4 := hu1.trans hu3 (fun _ _ e => Or.inr e)
      have H3 : Hid _ := h3
      have HU4 : Hid _ := hu4
      have HP3 : Hid _ := hp3
      clear h3 hu3 hp3 hu4 hl1 hu1 hp1
      go_wp2_with fail
      go_ret
      exact ⟨rfl, HP3.out, H3.out, HU4.out⟩
theorem lvState (w : World) (bl bp : Nat) (n : Int) (m : Mp) (h : LvAt w bl bp m) :
    Calls Tryz.prog 143 #[.pointer (some ⟨bl, 0, none⟩), .int .i64 n] w fun e w' => e = .returned (.tuple #[.int .i64 (stR m n).1, errV (stR m n).2]) ∧ Upd (fun _ => False) w w' := by
  cases ho : onB n with
  | false =>
    simp only [stR, ho, Bool.false_eq_true, if_false, errV1]
    go_enter Tryz.func143, Tryz.ntmps143
    go_wp2_with (go_at_call 147; refine (page_no _ _ _ ho).mono ?_; rintro e w' ⟨rfl, rfl⟩)
    go_ret2
    exact ⟨rfl, Upd.refl _ _⟩
  | true =>
    obtain ⟨h0, h1'⟩ := (onB_iff n).1 ho
    obtain ⟨k, rfl⟩ := Int.eq_ofNat_of_zero_le h0
    have hk : k < 16 := by omega
    have c1 := h.st k hk
    simp only [stR, ho, if_true, Int.toNat_natCast, errV_zero]
    go_enter Tryz.func143, Tryz.ntmps143
    go_wp2_with (go_at_call 147; refine (page_yes _ _ _ hk).mono ?_; rintro e w' ⟨rfl, rfl⟩)
    go_ret2
    exact ⟨rfl, Upd.refl _ _⟩
theorem lvLeaf (w : World) (bl bp : Nat) (n : Int) (m : Mp) (h : LvAt w bl bp m) :
    Calls Tryz.prog 144 #[.pointer (some ⟨bl, 0, none⟩), .int .i64 n] w fun e w' => e = .returned (.tuple #[.agg #[.bool (lfR m n).1.there, .bool (lfR m n).1.wr, .int .i64 (lfR m n).1.fr], errV (lfR m n).2]) ∧ Upd (fun _ => False) w w' := by
  cases ho : onB n with
  | false =>
    simp only [lfR, ho, Bool.false_eq_true, if_false, errV1, lf0]
    go_enter Tryz.func144, Tryz.ntmps144
    go_wp2_with (go_at_call 147; refine (page_no _ _ _ ho).mono ?_; rintro e w' ⟨rfl, rfl⟩)
    exact bodyPost_ret (v := .tuple #[.agg #[.bool false, .bool false, .int .i64 0], .iface 37 (.int .i64 1)]) (by simp [results, Tryz.results144, go_sem]) rfl ⟨rfl, (Upd.refl _ _).alloc _⟩
  | true =>
    obtain ⟨h0, h1'⟩ := (onB_iff n).1 ho
    obtain ⟨k, rfl⟩ := Int.eq_ofNat_of_zero_le h0
    have hk : k < 16 := by omega
    have u1 := (Upd.refl (fun _ => False) w).alloc (.cells #[.bool false, .bool false, .int .i64 0] 92)
    have h' := h.upd u1 (fun f => f)
    have c1 := h'.th k hk
    have c2 := h'.wr k hk
    have c3 := h'.fr k hk
    simp only [lfR, ho, if_true, Int.toNat_natCast, errV_zero]
    go_enter Tryz.func144, Tryz.ntmps144
    go_wp2_with (go_at_call 147; refine (page_yes _ _ _ hk).mono ?_; rintro e w' ⟨rfl, rfl⟩)
    exact bodyPost_ret (v := .tuple #[.agg #[.bool (m.lf k).there, .bool (m.lf k).wr, .int .i64 (m.lf k).fr], .nilIface]) (by simp [results, Tryz.results144, go_sem]) rfl ⟨rfl, (Upd.refl _ _).alloc _⟩
theorem lvSeal (w : World) (bl bp bf : Nat) (n : Int) (m m' : Mp) (s : Pl) (h : LvAt w bl bp m) (hp : PoolAt w bp bf s) (h1 : bl ≠ bp) (h2 : bl ≠ bf) (hn : 0 < s.n) (_hi : Inv s m m') :
    Calls Tryz.prog 145 #[.pointer (some ⟨bl, 0, none⟩), .int .i64 n] w fun e w' => e = .returned (errV (sealR m n).1) ∧ PoolAt w' bp bf s ∧ LvAt w' bl bp (sealR m n).2 ∧ Upd (fun k => k = bf ∨ k = bl) w w' := by
  have hlt : bf < w.heap.size := World.block_lt_of_cell? w _ (hp.refs 0 hn)
  cases ho : onB n with
  | false =>
    simp only [sealR, ho, Bool.false_eq_true, if_false, errV1]
    go_enter Tryz.func145, Tryz.ntmps145
    go_wp2_with (go_at_call 147; refine (page_no _ _ _ ho).mono ?_; rintro e w' ⟨rfl, rfl⟩)
    go_ret
    exact ⟨rfl, hp, h, Upd.refl _ _⟩
  | true =>
    obtain ⟨h0, h1'⟩ := (onB_iff n).1 ho
    obtain ⟨k, rfl⟩ := Int.eq_ofNat_of_zero_le h0
    have hk : k < 16 := by omega
    have c1 := h.th k hk
    have c2 := h.wr k hk
    have c3 := h.fz (1 + k * 4 + 1 + 1)
    cases ht : (m.lf k).there with
    | false =>
      simp only [sealR, ho, if_true, Int.toNat_natCast, ht, Bool.false_eq_true, if_false, errV8]
      rw [ht] at c1
      clear ht
      go_enter Tryz.func145, Tryz.ntmps145
      go_wp2_with (go_at_call 147; refine (page_yes _ _ _ hk).mono ?_; rintro e w' ⟨rfl, rfl⟩)
      go_ret
      exact ⟨rfl, hp, h, Upd.refl _ _⟩
    | true =>
      simp only [sealR, ho, if_true, Int.toNat_natCast, ht, errV_zero]
      rw [ht] at c1
      have h3 := h.setWr hk false
      simp only [ht] at h3
      have hu3 := Upd.one w bl (1 + k * 4 + 1 + 1) (.bool false)
      have hp3 := hp.upd hu3 (Ne.symm h1) (Ne.symm h2) hlt
      have H3 : Hid _ := h3
      have HU3 : Hid _ := hu3
      have HP3 : Hid _ := hp3
      clear ht h3 hu3 hp3
      go_enter Tryz.func145, Tryz.ntmps145
      go_wp2_with (go_at_call 147; refine (page_yes _ _ _ hk).mono ?_; rintro e w' ⟨rfl, rfl⟩)
      go_ret
      exact ⟨rfl, HP3.out, H3.out, HU3.out.wide (fun _ e => Or.inr e)⟩
end Go.Proofs.YtadpibcgjgcjhabGreatDoor
