/- Package leaves: what New, State, Leaf, Plug, Unplug, Give, Back, Seal and Copy answer and turn. -/
import Derived.Test.YtadpibcgjgcjhaaPart04
import Derived.Test.YtadpibcgjgcjhaaPart05
namespace Go.Proofs.Ytadpibcgjgcjhaa
open Go.ChangeShapes Go.WideShapes Go.ChangeAt Go.RowKit
set_option maxRecDepth 100000
attribute [local go_sem ↓] Go.wp_at_zero Go.wp_at_succ

def stR (m : Mp) (n : Int) : Int × Int := if onB n then (m.st n.toNat, 0) else (0, 1)
def lfR (m : Mp) (n : Int) : Lf × Int := if onB n then (m.lf n.toNat, 0) else (lf0, 1)
theorem errV6 : errV 6 = .iface 110 (.int .i64 6) := by simp [errV]
theorem errV8 : errV 8 = .iface 110 (.int .i64 8) := by simp [errV]
theorem setAt_self {α : Type} (g : Nat → α) (k : Nat) (v : α) (h : g k = v) : setAt g k v = g := by
  funext i
  unfold setAt
  split
  · rename_i e; rw [e, h]
  · rfl
theorem setAt_twice {α : Type} (g : Nat → α) (k : Nat) (v u : α) : setAt (setAt g k v) k u = setAt g k u := by
  funext i
  unfold setAt
  split <;> rfl
/-- To turn a page is to leave its frame, and then its state. -/
theorem turn_eq {s : Pl} {m : Mp} {k : Nat} {z : Int} (h : Pgs m) (hk : k < 16) (hz : z = 1 → m.lf k = lf0) : turnP s m k z = leaveP s m k ∧ turnM m k z = { m with st := setAt m.st k z, lf := setAt m.lf k lf0 } := by
  unfold turnP turnM leaveP
  cases ht : (m.lf k).there with
  | false =>
    simp only [Bool.false_and, Bool.false_eq_true, if_false, true_and]
    rw [setAt_self _ _ _ (h.out hk ht)]
  | true =>
    by_cases e : z = 1
    · have := hz e
      rw [this] at ht
      simp [lf0] at ht
    · simp [e]

theorem turn_wrong (w : World) (bl bp k : Nat) (z y c : Int) (m : Mp) (h : LvAt w bl bp m) (hk : k < 16) (hs : m.st k ≠ z) :
    Calls Try.prog 85 #[.pointer (some ⟨bl, 0, none⟩), .int .i64 k, .int .i64 z, .int .i64 y, .int .i64 c] w fun e w' => e = .returned (.iface 110 (.int .i64 c)) ∧ w' = w := by
  have c1 := h.st k hk
  have b1 : (m.st k != z) = true := by simp [hs]
  clear hs
  go_enter Try.func85, Try.ntmps85
  go_wp2_with (go_at_call 72; refine (page_yes _ _ _ hk).mono ?_; rintro e w' ⟨rfl, rfl⟩)
  go_ret
  exact ⟨rfl, rfl⟩
theorem turn_out (w : World) (bl : Nat) (n z y c : Int) (ho : onB n = false) :
    Calls Try.prog 85 #[.pointer (some ⟨bl, 0, none⟩), .int .i64 n, .int .i64 z, .int .i64 y, .int .i64 c] w fun e w' => e = .returned (.iface 110 (.int .i64 1)) ∧ w' = w := by
  go_enter Try.func85, Try.ntmps85
  go_wp2_with (go_at_call 72; refine (page_no _ _ _ ho).mono ?_; rintro e w' ⟨rfl, rfl⟩)
  go_ret
  exact ⟨rfl, rfl⟩
theorem turn_right (w : World) (bl bp bf k : Nat) (z y c : Int) (m : Mp) (s : Pl) (h : LvAt w bl bp m) (hp : PoolAt w bp bf s) (h1 : bl ≠ bp) (h2 : bl ≠ bf) (hk : k < 16) (hlt : bf < w.heap.size) (hm : ∀ k, k < s.n → s.refs k ≤ 1000000) (hs : m.st k = z) :
    Calls Try.prog 85 #[.pointer (some ⟨bl, 0, none⟩), .int .i64 k, .int .i64 z, .int .i64 y, .int .i64 c] w fun e w' => e = .returned .nilIface ∧ PoolAt w' bp bf (leaveP s m k) ∧ LvAt w' bl bp { m with st := setAt m.st k y, lf := setAt m.lf k lf0 } ∧ Upd (fun k => k = bf ∨ k = bl) w w' := by
  have c1 := h.st k hk
  have b1 : (m.st k != z) = false := by simp [hs]
  clear hs
  go_enter Try.func85, Try.ntmps85
  go_wp2_with (go_at_call 72; refine (page_yes _ _ _ hk).mono ?_; rintro e w' ⟨rfl, rfl⟩)
  refine (leave_any _ _ _ _ k m s h hp h1 h2 hk hlt hm).mono ?_
  rintro e w1 ⟨rfl, hp1, hl1, hu1⟩
  have d1 := hl1.st k hk
  have d2 := hl1.fz (1 + k * 4)
  have h3 := hl1.setSt hk y
  have hu3 := Upd.one w1 bl (1 + k * 4) (.int .i64 y)
  have hp3 := hp1.upd hu3 (Ne.symm h1) (Ne.symm h2) (Nat.lt_of_lt_of_le hlt hu1.size)
  have hu4 := hu1.trans hu3 (fun _ _ e => Or.inr e)
  have H3 : Hid _ := h3
  have HU4 : Hid _ := hu4
  have HP3 : Hid _ := hp3
  clear h3 hu3 hp3 hu4 hl1 hu1 hp1
  go_wp2_with fail
  go_ret
  exact ⟨rfl, HP3.out, H3.out, HU4.out⟩
/-- A page turns, or not. -/
theorem turn_lv (w : World) (bl bp bf : Nat) (n z y c : Int) (m m' : Mp) (s : Pl) (h : LvAt w bl bp m) (hp : PoolAt w bp bf s) (h1 : bl ≠ bp) (h2 : bl ≠ bf) (hn : 0 < s.n) (hi : Inv s m m') (hc : errV c = .iface 110 (.int .i64 c)) (hy : y = 1 → z ≠ 1) :
    Calls Try.prog 85 #[.pointer (some ⟨bl, 0, none⟩), .int .i64 n, .int .i64 z, .int .i64 y, .int .i64 c] w fun e w' =>
      e = .returned (errV (if onB n then (if m.st n.toNat = z then (0 : Int) else c) else 1)) ∧ PoolAt w' bp bf (if onB n then (if m.st n.toNat = z then turnP s m n.toNat y else s) else s) ∧ LvAt w' bl bp (if onB n then (if m.st n.toNat = z then turnM m n.toNat y else m) else m) ∧ Upd (fun k => k = bf ∨ k = bl) w w' := by
  have hlt : bf < w.heap.size := World.block_lt_of_cell? w _ (hp.refs 0 hn)
  have hm : ∀ k, k < s.n → s.refs k ≤ 1000000 := fun k hk => by have := hi.le k hk; omega
  cases ho : onB n with
  | false =>
    simp only [Bool.false_eq_true, if_false, errV1]
    refine (turn_out w bl n z y c ho).mono ?_
    rintro e w' ⟨rfl, rfl⟩
    exact ⟨rfl, hp, h, Upd.refl _ _⟩
  | true =>
    obtain ⟨h0, h1'⟩ := (onB_iff n).1 ho
    obtain ⟨k, rfl⟩ := Int.eq_ofNat_of_zero_le h0
    have hk : k < 16 := by omega
    simp only [if_true, Int.toNat_natCast]
    by_cases hs : m.st k = z
    · simp only [hs, if_true, errV_zero]
      obtain ⟨e1, e2⟩ := turn_eq (s := s) hi.pa hk (z := y) (fun e => hi.pa.zero hk (by rw [hs]; exact hy e))
      rw [e1, e2]
      exact turn_right w bl bp bf k z y c m s h hp h1 h2 hk hlt hm hs
    · simp only [hs, if_false]
      refine (turn_wrong w bl bp k z y c m h hk hs).mono ?_
      rintro e w' ⟨rfl, rfl⟩
      exact ⟨by rw [hc], hp, h, Upd.refl _ _⟩
theorem plug_wrap (w : World) (bl : Nat) (n : Int) (v : Value) (R : World → Prop) (h : Calls Try.prog 85 #[.pointer (some ⟨bl, 0, none⟩), .int .i64 n, .int .i64 0, .int .i64 1, .int .i64 4] w fun e w' => e = .returned v ∧ R w') :
    Calls Try.prog 38 #[.pointer (some ⟨bl, 0, none⟩), .int .i64 n] w fun e w' => e = .returned v ∧ R w' := by
  go_enter Try.func38, Try.ntmps38
  go_wp2_with fail
  refine Calls.mono h ?_
  rintro e w1 ⟨rfl, hR⟩
  go_wp2_with fail
  go_ret
  exact ⟨rfl, hR⟩
theorem lvPlug (w : World) (bl bp bf : Nat) (n : Int) (m m' : Mp) (s : Pl) (h : LvAt w bl bp m) (hp : PoolAt w bp bf s) (h1 : bl ≠ bp) (h2 : bl ≠ bf) (hn : 0 < s.n) (hi : Inv s m m') :
    Calls Try.prog 38 #[.pointer (some ⟨bl, 0, none⟩), .int .i64 n] w fun e w' => e = .returned (errV (plugR s m n).1) ∧ PoolAt w' bp bf (plugR s m n).2.1 ∧ LvAt w' bl bp (plugR s m n).2.2 ∧ Upd (fun k => k = bf ∨ k = bl) w w' := by
  have e1 : (plugR s m n).1 = if onB n then (if m.st n.toNat = 0 then (0 : Int) else 4) else 1 := by unfold plugR; split <;> (try split) <;> rfl
  have e2 : (plugR s m n).2.1 = if onB n then (if m.st n.toNat = 0 then turnP s m n.toNat 1 else s) else s := by unfold plugR; split <;> (try split) <;> rfl
  have e3 : (plugR s m n).2.2 = if onB n then (if m.st n.toNat = 0 then turnM m n.toNat 1 else m) else m := by unfold plugR; split <;> (try split) <;> rfl
  rw [e1, e2, e3]
  exact plug_wrap w bl n _ _ (turn_lv w bl bp bf n 0 1 4 m m' s h hp h1 h2 hn hi errV4 (fun e => by omega))
theorem give_wrap (w : World) (bl : Nat) (n : Int) (v : Value) (R : World → Prop) (h : Calls Try.prog 85 #[.pointer (some ⟨bl, 0, none⟩), .int .i64 n, .int .i64 1, .int .i64 2, .int .i64 8] w fun e w' => e = .returned v ∧ R w') :
    Calls Try.prog 78 #[.pointer (some ⟨bl, 0, none⟩), .int .i64 n] w fun e w' => e = .returned v ∧ R w' := by
  go_enter Try.func78, Try.ntmps78
  go_wp2_with fail
  refine Calls.mono h ?_
  rintro e w1 ⟨rfl, hR⟩
  go_wp2_with fail
  go_ret
  exact ⟨rfl, hR⟩
theorem lvGive (w : World) (bl bp bf : Nat) (n : Int) (m m' : Mp) (s : Pl) (h : LvAt w bl bp m) (hp : PoolAt w bp bf s) (h1 : bl ≠ bp) (h2 : bl ≠ bf) (hn : 0 < s.n) (hi : Inv s m m') :
    Calls Try.prog 78 #[.pointer (some ⟨bl, 0, none⟩), .int .i64 n] w fun e w' => e = .returned (errV (giveR s m n false).1) ∧ PoolAt w' bp bf (giveR s m n false).2.1 ∧ LvAt w' bl bp (giveR s m n false).2.2 ∧ Upd (fun k => k = bf ∨ k = bl) w w' := by
  have e1 : (giveR s m n false).1 = if onB n then (if m.st n.toNat = 1 then (0 : Int) else 8) else 1 := by unfold giveR; simp only [Bool.false_eq_true, if_false]; split <;> (try split) <;> rfl
  have e2 : (giveR s m n false).2.1 = if onB n then (if m.st n.toNat = 1 then turnP s m n.toNat 2 else s) else s := by unfold giveR; simp only [Bool.false_eq_true, if_false]; split <;> (try split) <;> rfl
  have e3 : (giveR s m n false).2.2 = if onB n then (if m.st n.toNat = 1 then turnM m n.toNat 2 else m) else m := by unfold giveR; simp only [Bool.false_eq_true, if_false]; split <;> (try split) <;> rfl
  rw [e1, e2, e3]
  exact give_wrap w bl n _ _ (turn_lv w bl bp bf n 1 2 8 m m' s h hp h1 h2 hn hi errV8 (fun e => by omega))
theorem back_wrap (w : World) (bl : Nat) (n : Int) (v : Value) (R : World → Prop) (h : Calls Try.prog 85 #[.pointer (some ⟨bl, 0, none⟩), .int .i64 n, .int .i64 2, .int .i64 1, .int .i64 8] w fun e w' => e = .returned v ∧ R w') :
    Calls Try.prog 80 #[.pointer (some ⟨bl, 0, none⟩), .int .i64 n] w fun e w' => e = .returned v ∧ R w' := by
  go_enter Try.func80, Try.ntmps80
  go_wp2_with fail
  refine Calls.mono h ?_
  rintro e w1 ⟨rfl, hR⟩
  go_wp2_with fail
  go_ret
  exact ⟨rfl, hR⟩
theorem lvBack (w : World) (bl bp bf : Nat) (n : Int) (m m' : Mp) (s : Pl) (h : LvAt w bl bp m) (hp : PoolAt w bp bf s) (h1 : bl ≠ bp) (h2 : bl ≠ bf) (hn : 0 < s.n) (hi : Inv s m m') :
    Calls Try.prog 80 #[.pointer (some ⟨bl, 0, none⟩), .int .i64 n] w fun e w' => e = .returned (errV (giveR s m n true).1) ∧ PoolAt w' bp bf (giveR s m n true).2.1 ∧ LvAt w' bl bp (giveR s m n true).2.2 ∧ Upd (fun k => k = bf ∨ k = bl) w w' := by
  have e1 : (giveR s m n true).1 = if onB n then (if m.st n.toNat = 2 then (0 : Int) else 8) else 1 := by unfold giveR; simp only [if_true]; split <;> (try split) <;> rfl
  have e2 : (giveR s m n true).2.1 = if onB n then (if m.st n.toNat = 2 then turnP s m n.toNat 1 else s) else s := by unfold giveR; simp only [if_true]; split <;> (try split) <;> rfl
  have e3 : (giveR s m n true).2.2 = if onB n then (if m.st n.toNat = 2 then turnM m n.toNat 1 else m) else m := by unfold giveR; simp only [if_true]; split <;> (try split) <;> rfl
  rw [e1, e2, e3]
  exact back_wrap w bl n _ _ (turn_lv w bl bp bf n 2 1 8 m m' s h hp h1 h2 hn hi errV8 (fun e => by omega))
theorem lvUnplug (w : World) (bl bp bf : Nat) (n : Int) (m m' : Mp) (s : Pl) (h : LvAt w bl bp m) (hp : PoolAt w bp bf s) (h1 : bl ≠ bp) (h2 : bl ≠ bf) (hn : 0 < s.n) (hi : Inv s m m') :
    Calls Try.prog 34 #[.pointer (some ⟨bl, 0, none⟩), .int .i64 n] w fun e w' => e = .returned (errV (unplugR s m n).1) ∧ PoolAt w' bp bf (unplugR s m n).2.1 ∧ LvAt w' bl bp (unplugR s m n).2.2 ∧ Upd (fun k => k = bf ∨ k = bl) w w' := by
  have hlt : bf < w.heap.size := World.block_lt_of_cell? w _ (hp.refs 0 hn)
  have hm : ∀ k, k < s.n → s.refs k ≤ 1000000 := fun k hk => by have := hi.le k hk; omega
  cases ho : onB n with
  | false =>
    simp only [unplugR, ho, Bool.false_eq_true, if_false, errV1]
    go_enter Try.func34, Try.ntmps34
    go_wp2_with (go_at_call 72; refine (page_no _ _ _ ho).mono ?_; rintro e w' ⟨rfl, rfl⟩)
    go_ret
    exact ⟨rfl, hp, h, Upd.refl _ _⟩
  | true =>
    obtain ⟨h0, h1'⟩ := (onB_iff n).1 ho
    obtain ⟨k, rfl⟩ := Int.eq_ofNat_of_zero_le h0
    have hk : k < 16 := by omega
    have c1 := h.st k hk
    by_cases hs : m.st k = 0
    · simp only [unplugR, ho, if_true, Int.toNat_natCast, hs, errV2]
      have b1 : (m.st k == 0) = true := by simp [hs]
      clear hs
      go_enter Try.func34, Try.ntmps34
      go_wp2_with (go_at_call 72; refine (page_yes _ _ _ hk).mono ?_; rintro e w' ⟨rfl, rfl⟩)
      go_ret
      exact ⟨rfl, hp, h, Upd.refl _ _⟩
    · simp only [unplugR, ho, if_true, Int.toNat_natCast, hs, if_false, errV_zero]
      have b1 : (m.st k == 0) = false := by simp [hs]
      obtain ⟨e1, e2⟩ := turn_eq (s := s) hi.pa hk (z := 0) (fun e => by omega)
      rw [e1, e2]
      clear hs e1 e2
      go_enter Try.func34, Try.ntmps34
      go_wp2_with (go_at_call 72; refine (page_yes _ _ _ hk).mono ?_; rintro e w' ⟨rfl, rfl⟩)
      refine (leave_any _ _ _ _ k m s h hp h1 h2 hk hlt hm).mono ?_
      rintro e w1 ⟨rfl, hp1, hl1, hu1⟩
      have d1 := hl1.st k hk
      have d2 := hl1.fz (1 + k * 4)
      have h3 := hl1.setSt hk 0
      have hu3 := Upd.one w1 bl (1 + k * 4) (.int .i64 0)
      have hp3 := hp1.upd hu3 (Ne.symm h1) (Ne.symm h2) (Nat.lt_of_lt_of_le hlt hu1.size)
      have hu4 := hu1.trans hu3 (fun _ _ e => Or.inr e)
      have H3 : Hid _ := h3
      have HU4 : Hid _ := hu4
      have HP3 : Hid _ := hp3
      clear h3 hu3 hp3 hu4 hl1 hu1 hp1
      go_wp2_with fail
      go_ret
      exact ⟨rfl, HP3.out, H3.out, HU4.out⟩
theorem lvState (w : World) (bl bp : Nat) (n : Int) (m : Mp) (h : LvAt w bl bp m) :
    Calls Try.prog 84 #[.pointer (some ⟨bl, 0, none⟩), .int .i64 n] w fun e w' => e = .returned (.tuple #[.int .i64 (stR m n).1, errV (stR m n).2]) ∧ Upd (fun _ => False) w w' := by
  cases ho : onB n with
  | false =>
    simp only [stR, ho, Bool.false_eq_true, if_false, errV1]
    go_enter Try.func84, Try.ntmps84
    go_wp2_with (go_at_call 72; refine (page_no _ _ _ ho).mono ?_; rintro e w' ⟨rfl, rfl⟩)
    go_ret2
    exact ⟨rfl, Upd.refl _ _⟩
  | true =>
    obtain ⟨h0, h1'⟩ := (onB_iff n).1 ho
    obtain ⟨k, rfl⟩ := Int.eq_ofNat_of_zero_le h0
    have hk : k < 16 := by omega
    have c1 := h.st k hk
    simp only [stR, ho, if_true, Int.toNat_natCast, errV_zero]
    go_enter Try.func84, Try.ntmps84
    go_wp2_with (go_at_call 72; refine (page_yes _ _ _ hk).mono ?_; rintro e w' ⟨rfl, rfl⟩)
    go_ret2
    exact ⟨rfl, Upd.refl _ _⟩
theorem lvLeaf (w : World) (bl bp : Nat) (n : Int) (m : Mp) (h : LvAt w bl bp m) :
    Calls Try.prog 39 #[.pointer (some ⟨bl, 0, none⟩), .int .i64 n] w fun e w' => e = .returned (.tuple #[.agg #[.bool (lfR m n).1.there, .bool (lfR m n).1.wr, .int .i64 (lfR m n).1.fr], errV (lfR m n).2]) ∧ Upd (fun _ => False) w w' := by
  cases ho : onB n with
  | false =>
    simp only [lfR, ho, Bool.false_eq_true, if_false, errV1, lf0]
    go_enter Try.func39, Try.ntmps39
    go_wp2_with (go_at_call 72; refine (page_no _ _ _ ho).mono ?_; rintro e w' ⟨rfl, rfl⟩)
    exact bodyPost_ret (v := .tuple #[.agg #[.bool false, .bool false, .int .i64 0], .iface 110 (.int .i64 1)]) (by simp [results, Try.results39, go_sem]) rfl ⟨rfl, (Upd.refl _ _).alloc _⟩
  | true =>
    obtain ⟨h0, h1'⟩ := (onB_iff n).1 ho
    obtain ⟨k, rfl⟩ := Int.eq_ofNat_of_zero_le h0
    have hk : k < 16 := by omega
    have u1 := (Upd.refl (fun _ => False) w).alloc (.cells #[.bool false, .bool false, .int .i64 0] 69)
    have h' := h.upd u1 (fun f => f)
    have c1 := h'.th k hk
    have c2 := h'.wr k hk
    have c3 := h'.fr k hk
    simp only [lfR, ho, if_true, Int.toNat_natCast, errV_zero]
    go_enter Try.func39, Try.ntmps39
    go_wp2_with (go_at_call 72; refine (page_yes _ _ _ hk).mono ?_; rintro e w' ⟨rfl, rfl⟩)
    exact bodyPost_ret (v := .tuple #[.agg #[.bool (m.lf k).there, .bool (m.lf k).wr, .int .i64 (m.lf k).fr], .nilIface]) (by simp [results, Try.results39, go_sem]) rfl ⟨rfl, (Upd.refl _ _).alloc _⟩
theorem lvSeal (w : World) (bl bp bf : Nat) (n : Int) (m m' : Mp) (s : Pl) (h : LvAt w bl bp m) (hp : PoolAt w bp bf s) (h1 : bl ≠ bp) (h2 : bl ≠ bf) (hn : 0 < s.n) (_hi : Inv s m m') :
    Calls Try.prog 42 #[.pointer (some ⟨bl, 0, none⟩), .int .i64 n] w fun e w' => e = .returned (errV (sealR m n).1) ∧ PoolAt w' bp bf s ∧ LvAt w' bl bp (sealR m n).2 ∧ Upd (fun k => k = bf ∨ k = bl) w w' := by
  have hlt : bf < w.heap.size := World.block_lt_of_cell? w _ (hp.refs 0 hn)
  cases ho : onB n with
  | false =>
    simp only [sealR, ho, Bool.false_eq_true, if_false, errV1]
    go_enter Try.func42, Try.ntmps42
    go_wp2_with (go_at_call 72; refine (page_no _ _ _ ho).mono ?_; rintro e w' ⟨rfl, rfl⟩)
    go_ret
    exact ⟨rfl, hp, h, Upd.refl _ _⟩
  | true =>
    obtain ⟨h0, h1'⟩ := (onB_iff n).1 ho
    obtain ⟨k, rfl⟩ := Int.eq_ofNat_of_zero_le h0
    have hk : k < 16 := by omega
    have c1 := h.th k hk
    have c2 := h.wr k hk
    have c3 := h.fz (1 + k * 4 + 1 + 1)
    cases ht : (m.lf k).there with
    | false =>
      simp only [sealR, ho, if_true, Int.toNat_natCast, ht, Bool.false_eq_true, if_false, errV8]
      rw [ht] at c1
      clear ht
      go_enter Try.func42, Try.ntmps42
      go_wp2_with (go_at_call 72; refine (page_yes _ _ _ hk).mono ?_; rintro e w' ⟨rfl, rfl⟩)
      go_ret
      exact ⟨rfl, hp, h, Upd.refl _ _⟩
    | true =>
      simp only [sealR, ho, if_true, Int.toNat_natCast, ht, errV_zero]
      rw [ht] at c1
      have h3 := h.setWr hk false
      simp only [ht] at h3
      have hu3 := Upd.one w bl (1 + k * 4 + 1 + 1) (.bool false)
      have hp3 := hp.upd hu3 (Ne.symm h1) (Ne.symm h2) hlt
      have H3 : Hid _ := h3
      have HU3 : Hid _ := hu3
      have HP3 : Hid _ := hp3
      clear ht h3 hu3 hp3
      go_enter Try.func42, Try.ntmps42
      go_wp2_with (go_at_call 72; refine (page_yes _ _ _ hk).mono ?_; rintro e w' ⟨rfl, rfl⟩)
      go_ret
      exact ⟨rfl, HP3.out, H3.out, HU3.out.wide (fun _ e => Or.inr e)⟩
theorem lvNil (w : World) : Calls Try.prog 32 #[.pointer none] w fun e w' => e = .returned (.tuple #[.pointer none, errV 2]) ∧ Upd (fun _ => False) w w' := by
  rw [errV2]
  go_enter Try.func32, Try.ntmps32
  go_wp2_with fail
  go_ret2
  exact ⟨rfl, Upd.refl _ _⟩
end Go.Proofs.Ytadpibcgjgcjhaa
/- Package leaves: what Join and Touch answer and turn. -/
namespace Go.Proofs.Ytadpibcgjgcjhaa
open Go.ChangeShapes Go.WideShapes Go.ChangeAt Go.RowKit
set_option maxRecDepth 100000
attribute [local go_sem ↓] Go.wp_at_zero Go.wp_at_succ

theorem lvTake_ok (w : World) (bp bf j : Nat) (s : Pl) (h : PoolAt w bp bf s) (hj : j < s.n) (h0 : s.refs j = 0) (hr : ∀ i, i < j → s.refs i ≠ 0) :
    Calls Try.prog 14 #[.pointer (some ⟨bp, 0, none⟩)] w fun e w' => e = .returned (.tuple #[.int .i64 j, .nilIface]) ∧ PoolAt w' bp bf { s with refs := setAt s.refs j 1, byt := setAt s.byt j fun _ => 0 } ∧ Upd (fun k => k = bf) w w' := by
  refine (take_at w bp bf j s h hj h0 hr).mono ?_
  rintro e w' ⟨rfl, rfl⟩
  refine ⟨rfl, ?_, (Upd.row _ _ _ _).trans (Upd.one _ _ _ _) (fun _ _ e => e)⟩
  exact (h.setRow (f := j) hj (fun _ => 0)).setRef (f := j) hj (by omega)

/-- No frame is free: nothing turns. -/
theorem move_full (w : World) (bl bp bf k : Nat) (m : Mp) (s : Pl) (h : LvAt w bl bp m) (hp : PoolAt w bp bf s) (hfull : ∀ i, i < s.n → s.refs i ≠ 0) :
    Calls Try.prog 75 #[.pointer (some ⟨bl, 0, none⟩), .pointer (some ⟨bl, 1 + k * 4, none⟩)] w fun e w' => e = .returned (.tuple #[.int .i64 0, .bool false, .iface 110 (.int .i64 3)]) ∧ w' = w := by
  have c0 := h.pool
  have HF : Hid _ := hfull
  clear hfull
  go_enter Try.func75, Try.ntmps75
  go_wp2_with fail
  refine (take_full _ _ _ s hp HF.out).mono ?_
  rintro e w1 ⟨rfl, rfl⟩
  go_wp2_with fail
  go_ret3
  exact ⟨rfl, rfl⟩
/-- The page was in no frame. -/
theorem move_new (w : World) (bl bp bf k j : Nat) (m : Mp) (s : Pl) (h : LvAt w bl bp m) (hp : PoolAt w bp bf s) (h1 : bl ≠ bp) (h2 : bl ≠ bf) (hk : k < 16) (hlt : bf < w.heap.size) (hm : ∀ k, k < s.n → s.refs k ≤ 1000000)
    (ht : (m.lf k).there = false) (hj : j < s.n) (hj0 : s.refs j = 0) (hjr : ∀ i, i < j → s.refs i ≠ 0) :
    Calls Try.prog 75 #[.pointer (some ⟨bl, 0, none⟩), .pointer (some ⟨bl, 1 + k * 4, none⟩)] w fun e w' => e = .returned (.tuple #[.int .i64 j, .bool false, .nilIface]) ∧
      PoolAt w' bp bf { s with refs := setAt s.refs j 1, byt := setAt s.byt j fun _ => 0 } ∧ LvAt w' bl bp { m with lf := setAt m.lf k ⟨true, true, j⟩ } ∧ Upd (fun k => k = bf ∨ k = bl) w w' := by
  have c0 := h.pool
  have H1 : Hid _ := h1
  have H2 : Hid _ := h2
  have HM : Hid _ := hm
  have HT : Hid _ := ht
  have HJ0 : Hid _ := hj0
  have HJR : Hid _ := hjr
  clear ht h1 h2 hm hj0 hjr
  go_enter Try.func75, Try.ntmps75
  go_wp2_with fail
  refine (lvTake_ok _ _ _ j s hp hj HJ0.out HJR.out).mono ?_
  rintro e w1 ⟨rfl, hp1, hu1⟩
  have hl1 := h.upd hu1 H2.out
  have c1 := hl1.th k hk
  rw [HT.out] at c1
  clear c0
  go_wp2_with fail
  refine (leave_any _ _ _ _ k m _ hl1 hp1 H1.out H2.out hk (Nat.lt_of_lt_of_le hlt hu1.size) (setAt_le (fun f hf => HM.out f hf) (by omega))).mono ?_
  rintro e w2 ⟨rfl, hp2, hl2, hu2⟩
  simp only [leaveP, HT.out, Bool.false_eq_true, if_false] at hp2
  have d1 := hl2.th k hk
  have d2 := hl2.wr k hk
  have d3 := hl2.fr k hk
  have d4 := hl2.fz (1 + k * 4 + 1)
  have d5 := hl2.fz (1 + k * 4 + 1 + 1)
  have d6 := hl2.fz (1 + k * 4 + 1 + 2)
  have h3 := hl2.setLf hk ⟨true, true, j⟩
  simp only [leaveM, setAt_twice] at h3
  have hu3 := Upd.three w2 bl (1 + k * 4 + 1) (1 + k * 4 + 1 + 1) (1 + k * 4 + 1 + 2) (.bool true) (.bool true) (.int .i64 j)
  have hp3 := hp2.upd hu3 (Ne.symm H1.out) (Ne.symm H2.out) (Nat.lt_of_lt_of_le hlt (Nat.le_trans hu1.size hu2.size))
  have hu4 := ((hu1.wide (T := fun k => k = bf ∨ k = bl) (fun _ e => Or.inl e)).trans hu2 (fun _ _ e => e)).trans hu3 (fun _ _ e => Or.inr e)
  have H3 : Hid _ := h3
  have HU4 : Hid _ := hu4
  have HP3 : Hid _ := hp3
  clear h3 hu3 hp3 hu4 hl1 hu1 hp1 hp2 hu2 hl2 c1
  go_wp2_with fail
  go_ret3
  exact ⟨rfl, HP3.out, H3.out, HU4.out⟩
/-- The page was in a frame: it moves. -/
theorem move_yes (w : World) (bl bp bf k j : Nat) (m : Mp) (s : Pl) (h : LvAt w bl bp m) (hp : PoolAt w bp bf s) (h1 : bl ≠ bp) (h2 : bl ≠ bf) (hk : k < 16) (hlt : bf < w.heap.size) (hm : ∀ k, k < s.n → s.refs k ≤ 1000000)
    (ht : (m.lf k).there = true) (f0 : 0 ≤ (m.lf k).fr) (f1 : (m.lf k).fr < s.n) (hused : s.refs (m.lf k).fr.toNat ≠ 0) (hj : j < s.n) (hj0 : s.refs j = 0) (hjr : ∀ i, i < j → s.refs i ≠ 0) :
    Calls Try.prog 75 #[.pointer (some ⟨bl, 0, none⟩), .pointer (some ⟨bl, 1 + k * 4, none⟩)] w fun e w' => e = .returned (.tuple #[.int .i64 j, .bool true, .nilIface]) ∧
      PoolAt w' bp bf (({ s with refs := setAt s.refs j 1, byt := setAt (setAt s.byt j fun _ => 0) j (setAt s.byt j (fun _ => 0) (m.lf k).fr.toNat) } : Pl).share (m.lf k).fr (-1)).2 ∧ LvAt w' bl bp { m with lf := setAt m.lf k ⟨true, true, j⟩ } ∧ Upd (fun k => k = bf ∨ k = bl) w w' := by
  have c0 := h.pool
  have hfj : (m.lf k).fr.toNat ≠ j := fun e => hused (by rw [e]; exact hj0)
  have hfill : ({ s with refs := setAt s.refs j 1, byt := setAt s.byt j fun _ => 0 } : Pl).fill j (m.lf k).fr = (0, { s with refs := setAt s.refs j 1, byt := setAt (setAt s.byt j fun _ => 0) j (setAt s.byt j (fun _ => 0) (m.lf k).fr.toNat) }) := by
    have e1 : ({ s with refs := setAt s.refs j 1, byt := setAt s.byt j fun _ => 0 } : Pl).used j = true := (Pl.used_iff _ _).2 ⟨by omega, by show (j : Int) < s.n; omega, by show setAt s.refs j 1 _ ≠ 0; rw [Int.toNat_natCast, setAt_same]; omega⟩
    have e2 : ({ s with refs := setAt s.refs j 1, byt := setAt s.byt j fun _ => 0 } : Pl).used (m.lf k).fr = true := (Pl.used_iff _ _).2 ⟨f0, f1, by show setAt s.refs j 1 _ ≠ 0; rw [setAt_other _ _ _ _ hfj]; exact hused⟩
    unfold Pl.fill
    rw [e1, e2]
    simp only [Int.toNat_natCast, setAt_same, Bool.and_self, if_true]
    rw [if_neg (by omega)]
  have H1 : Hid _ := h1
  have H2 : Hid _ := h2
  have HM : Hid _ := hm
  have HT : Hid _ := ht
  have HJ0 : Hid _ := hj0
  have HJR : Hid _ := hjr
  have HFJ : Hid _ := hfj
  have HFI : Hid _ := hfill
  clear ht h1 h2 hm hj0 hjr hfj hused hfill
  go_enter Try.func75, Try.ntmps75
  go_wp2_with fail
  refine (lvTake_ok _ _ _ j s hp hj HJ0.out HJR.out).mono ?_
  rintro e w1 ⟨rfl, hp1, hu1⟩
  have hl1 := h.upd hu1 H2.out
  have c1 := hl1.th k hk
  have c2 := hl1.fr k hk
  have c3 := hl1.pool
  rw [HT.out] at c1
  clear c0
  go_wp2_with fail
  go_region_held3 (fun w' => w'.cell? ⟨bl, 0, none⟩ = some (.pointer (some ⟨bp, 0, none⟩)) ∧ w'.cell? ⟨bl, 1 + k * 4 + 1 + 2, none⟩ = some (.int .i64 (m.lf k).fr)) (first | exact ⟨c3, c2⟩ | exact h1c)
    ((go_at_call 23; refine (fill_any _ _ _ _ _ _ (by first | exact hp1 | exact hp1.drew)).mono ?_; rintro e w2 ⟨rfl, hp2, hu2⟩; have h1c : w2.cell? ⟨bl, 0, none⟩ = some (.pointer (some ⟨bp, 0, none⟩)) ∧ w2.cell? ⟨bl, 1 + k * 4 + 1 + 2, none⟩ = some (.int .i64 (m.lf k).fr) := ⟨hu2.cell (by exact c3) H2.out, hu2.cell (by exact c2) H2.out⟩))
  rw [HFI.out] at hp2
  simp only at hp2
  have hu2' : Upd (fun k => k = bf) w w2 := hu1.drew.trans hu2 (fun _ _ e => e)
  have hl2 := h.upd hu2' H2.out
  clear h1c hl1 c1 c2 c3 hp1 hu1 hu2
  go_wp2_with fail
  refine (leave_any _ _ _ _ k m _ hl2 hp2 H1.out H2.out hk (Nat.lt_of_lt_of_le hlt hu2'.size) (setAt_le (fun f hf => HM.out f hf) (by omega))).mono ?_
  rintro e w3 ⟨rfl, hp3, hl3, hu3⟩
  simp only [leaveP, HT.out, if_true] at hp3
  have d1 := hl3.th k hk
  have d2 := hl3.wr k hk
  have d3 := hl3.fr k hk
  have d4 := hl3.fz (1 + k * 4 + 1)
  have d5 := hl3.fz (1 + k * 4 + 1 + 1)
  have d6 := hl3.fz (1 + k * 4 + 1 + 2)
  have h4 := hl3.setLf hk ⟨true, true, j⟩
  simp only [leaveM, setAt_twice] at h4
  have hu4 := Upd.three w3 bl (1 + k * 4 + 1) (1 + k * 4 + 1 + 1) (1 + k * 4 + 1 + 2) (.bool true) (.bool true) (.int .i64 j)
  have hp4 := hp3.upd hu4 (Ne.symm H1.out) (Ne.symm H2.out) (Nat.lt_of_lt_of_le hlt (Nat.le_trans hu2'.size hu3.size))
  have hu5 := ((hu2'.wide (T := fun k => k = bf ∨ k = bl) (fun _ e => Or.inl e)).trans hu3 (fun _ _ e => e)).trans hu4 (fun _ _ e => Or.inr e)
  have H4 : Hid _ := h4
  have HU5 : Hid _ := hu5
  have HP4 : Hid _ := hp4
  clear h4 hu4 hp4 hu5 hl2 hu2' hp2 hp3 hu3 hl3
  go_wp2_with fail
  go_ret3
  exact ⟨rfl, HP4.out, H4.out, HU5.out⟩
end Go.Proofs.Ytadpibcgjgcjhaa
/- Package leaves: what Touch answers and turns. -/
namespace Go.Proofs.Ytadpibcgjgcjhaa
open Go.ChangeShapes Go.WideShapes Go.ChangeAt Go.RowKit
set_option maxRecDepth 100000
attribute [local go_sem ↓] Go.wp_at_zero Go.wp_at_succ

theorem lvTouch_out (w : World) (bl : Nat) (n : Int) (wt : Bool) (ho : onB n = false) :
    Calls Try.prog 35 #[.pointer (some ⟨bl, 0, none⟩), .int .i64 n, .bool wt] w fun e w' => e = .returned (.tuple #[.int .i64 0, .bool false, .iface 110 (.int .i64 1)]) ∧ w' = w := by
  go_enter Try.func35, Try.ntmps35
  go_wp2_with (go_at_call 72; refine (page_no _ _ _ ho).mono ?_; rintro e w' ⟨rfl, rfl⟩)
  go_ret3
  exact ⟨rfl, rfl⟩
theorem lvTouch_absent (w : World) (bl bp k : Nat) (wt : Bool) (m : Mp) (h : LvAt w bl bp m) (hk : k < 16) (hs : m.st k = 0) :
    Calls Try.prog 35 #[.pointer (some ⟨bl, 0, none⟩), .int .i64 k, .bool wt] w fun e w' => e = .returned (.tuple #[.int .i64 0, .bool false, .iface 110 (.int .i64 2)]) ∧ w' = w := by
  have c1 := h.st k hk
  have b1 : (m.st k == 0) = true := by simp [hs]
  clear hs
  go_enter Try.func35, Try.ntmps35
  go_wp2_with (go_at_call 72; refine (page_yes _ _ _ hk).mono ?_; rintro e w' ⟨rfl, rfl⟩)
  go_ret3
  exact ⟨rfl, rfl⟩
theorem lvTouch_gone (w : World) (bl bp k : Nat) (wt : Bool) (m : Mp) (h : LvAt w bl bp m) (hk : k < 16) (hs : m.st k = 2) :
    Calls Try.prog 35 #[.pointer (some ⟨bl, 0, none⟩), .int .i64 k, .bool wt] w fun e w' => e = .returned (.tuple #[.int .i64 0, .bool false, .iface 110 (.int .i64 6)]) ∧ w' = w := by
  have c1 := h.st k hk
  have b1 : (m.st k == 0) = false := by simp [hs]
  have b2 : (m.st k == 2) = true := by simp [hs]
  clear hs
  go_enter Try.func35, Try.ntmps35
  go_wp2_with (go_at_call 72; refine (page_yes _ _ _ hk).mono ?_; rintro e w' ⟨rfl, rfl⟩)
  go_ret3
  exact ⟨rfl, rfl⟩
theorem lvTouch_keep (w : World) (bl bp k : Nat) (wt : Bool) (m : Mp) (h : LvAt w bl bp m) (hk : k < 16) (h0 : m.st k ≠ 0) (h2 : m.st k ≠ 2) (ht : (m.lf k).there = true) (hw : (!wt || (m.lf k).wr) = true) :
    Calls Try.prog 35 #[.pointer (some ⟨bl, 0, none⟩), .int .i64 k, .bool wt] w fun e w' => e = .returned (.tuple #[.int .i64 (m.lf k).fr, .bool false, .nilIface]) ∧ w' = w := by
  have c1 := h.st k hk
  have b1 : (m.st k == 0) = false := by simp [h0]
  have b2 : (m.st k == 2) = false := by simp [h2]
  have c2 := h.th k hk
  have c3 := h.wr k hk
  have c4 := h.fr k hk
  rw [ht] at c2
  clear h0 h2 ht
  cases hwr : (m.lf k).wr with
  | true =>
    rw [hwr] at c3
    clear hw hwr
    go_enter Try.func35, Try.ntmps35
    go_wp2_with (go_at_call 72; refine (page_yes _ _ _ hk).mono ?_; rintro e w' ⟨rfl, rfl⟩)
    go_ret3
    exact ⟨rfl, rfl⟩
  | false =>
    rw [hwr] at c3 hw
    obtain rfl : wt = false := by simpa using hw
    clear hw hwr
    go_enter Try.func35, Try.ntmps35
    go_wp2_with (go_at_call 72; refine (page_yes _ _ _ hk).mono ?_; rintro e w' ⟨rfl, rfl⟩)
    go_ret3
    exact ⟨rfl, rfl⟩
theorem alone_is (w : World) (bl bp bf : Nat) (f : Int) (m : Mp) (s : Pl) (h : LvAt w bl bp m) (hp : PoolAt w bp bf s) (f0 : 0 ≤ f) (f1 : f < s.n) {u : Bool} (hu : (s.refs f.toNat == 1) = u) :
    Calls Try.prog 74 #[.pointer (some ⟨bl, 0, none⟩), .int .i64 f] w fun e w' => e = .returned (.bool u) ∧ Upd (fun _ => False) w w' := by
  subst hu; exact alone_any w bl bp bf f m s h hp f0 f1
theorem lvTouch_own (w : World) (bl bp bf k : Nat) (m : Mp) (s : Pl) (h : LvAt w bl bp m) (hp : PoolAt w bp bf s) (h1 : bl ≠ bp) (h2 : bl ≠ bf) (hk : k < 16) (hlt : bf < w.heap.size) (s0 : m.st k ≠ 0) (s2 : m.st k ≠ 2)
    (ht : (m.lf k).there = true) (hw : (m.lf k).wr = false) (f0 : 0 ≤ (m.lf k).fr) (f1 : (m.lf k).fr < s.n) (hone : s.refs (m.lf k).fr.toNat = 1) :
    Calls Try.prog 35 #[.pointer (some ⟨bl, 0, none⟩), .int .i64 k, .bool true] w fun e w' => e = .returned (.tuple #[.int .i64 (m.lf k).fr, .bool false, .nilIface]) ∧
      PoolAt w' bp bf s ∧ LvAt w' bl bp { m with lf := setAt m.lf k { m.lf k with wr := true } } ∧ Upd (fun k => k = bf ∨ k = bl) w w' := by
  have c1 := h.st k hk
  have b1 : (m.st k == 0) = false := by simp [s0]
  have b2 : (m.st k == 2) = false := by simp [s2]
  have c2 := h.th k hk
  have c3 := h.wr k hk
  have c4 := h.fr k hk
  rw [ht] at c2
  rw [hw] at c3
  have H1 : Hid _ := h1
  have H2 : Hid _ := h2
  have HT : Hid _ := ht
  have hb : (s.refs (m.lf k).fr.toNat == 1) = true := by simp [hone]
  have HB : Hid _ := hb
  clear s0 s2 ht hw h1 h2 hone hb
  go_enter Try.func35, Try.ntmps35
  go_wp2_with (go_at_call 72; refine (page_yes _ _ _ hk).mono ?_; rintro e w' ⟨rfl, rfl⟩)
  refine (alone_is _ _ _ _ _ m s h hp f0 f1 HB.out).mono ?_
  rintro e w1 ⟨rfl, hu1⟩
  have hl1 := h.upd hu1 (fun f => f)
  have hp1 := hp.upd hu1 (fun f => f) (fun f => f) hlt
  have d2 := hl1.wr k hk
  have d3 := hl1.fr k hk
  have d4 := hl1.fz (1 + k * 4 + 1 + 1)
  have h3 := hl1.setWr hk true
  have d5 := h3.fr k hk
  simp only [setAt_same] at d5
  have hu3 := Upd.one w1 bl (1 + k * 4 + 1 + 1) (.bool true)
  have hp3 := hp1.upd hu3 (Ne.symm H1.out) (Ne.symm H2.out) (Nat.lt_of_lt_of_le hlt hu1.size)
  have hu4 := (hu1.wide (T := fun k => k = bf ∨ k = bl) (fun _ f => f.elim)).trans hu3 (fun _ _ e => Or.inr e)
  have H3 : Hid _ := h3
  have HU4 : Hid _ := hu4
  have HP3 : Hid _ := hp3
  clear h3 hu3 hp3 hu4 hl1 hu1 hp1 c1 c2 c3 c4
  go_wp2_with fail
  go_ret3
  exact ⟨rfl, HP3.out, H3.out, HU4.out⟩
theorem lvTouch_new (w : World) (bl bp k : Nat) (wt : Bool) (m : Mp) (h : LvAt w bl bp m) (hk : k < 16) (s0 : m.st k ≠ 0) (s2 : m.st k ≠ 2) (ht : (m.lf k).there = false) (x y z : Value) (R : World → Prop)
    (hmv : Calls Try.prog 75 #[.pointer (some ⟨bl, 0, none⟩), .pointer (some ⟨bl, 1 + k * 4, none⟩)] w fun e w' => e = .returned (.tuple #[x, y, z]) ∧ R w') :
    Calls Try.prog 35 #[.pointer (some ⟨bl, 0, none⟩), .int .i64 k, .bool wt] w fun e w' => e = .returned (.tuple #[x, y, z]) ∧ R w' := by
  have c1 := h.st k hk
  have b1 : (m.st k == 0) = false := by simp [s0]
  have b2 : (m.st k == 2) = false := by simp [s2]
  have c2 := h.th k hk
  rw [ht] at c2
  clear s0 s2 ht
  go_enter Try.func35, Try.ntmps35
  go_wp2_with (go_at_call 72; refine (page_yes _ _ _ hk).mono ?_; rintro e w' ⟨rfl, rfl⟩)
  refine Calls.mono hmv ?_
  rintro e w1 ⟨rfl, hR⟩
  go_wp2_with fail
  go_ret3
  exact ⟨rfl, hR⟩
theorem lvTouch_shared (w : World) (bl bp bf k : Nat) (m : Mp) (s : Pl) (h : LvAt w bl bp m) (hp : PoolAt w bp bf s) (hk : k < 16) (s0 : m.st k ≠ 0) (s2 : m.st k ≠ 2)
    (ht : (m.lf k).there = true) (hw : (m.lf k).wr = false) (f0 : 0 ≤ (m.lf k).fr) (f1 : (m.lf k).fr < s.n) (hone : s.refs (m.lf k).fr.toNat ≠ 1) (x y z : Value) (R : World → Prop)
    (hmv : ∀ w1, Upd (fun _ => False) w w1 → Calls Try.prog 75 #[.pointer (some ⟨bl, 0, none⟩), .pointer (some ⟨bl, 1 + k * 4, none⟩)] w1 fun e w' => e = .returned (.tuple #[x, y, z]) ∧ R w') :
    Calls Try.prog 35 #[.pointer (some ⟨bl, 0, none⟩), .int .i64 k, .bool true] w fun e w' => e = .returned (.tuple #[x, y, z]) ∧ R w' := by
  have c1 := h.st k hk
  have b1 : (m.st k == 0) = false := by simp [s0]
  have b2 : (m.st k == 2) = false := by simp [s2]
  have c2 := h.th k hk
  have c3 := h.wr k hk
  have c4 := h.fr k hk
  rw [ht] at c2
  rw [hw] at c3
  have hb : (s.refs (m.lf k).fr.toNat == 1) = false := by simp [hone]
  have HB : Hid _ := hb
  clear s0 s2 ht hw hone hb
  go_enter Try.func35, Try.ntmps35
  go_wp2_with (go_at_call 72; refine (page_yes _ _ _ hk).mono ?_; rintro e w' ⟨rfl, rfl⟩)
  refine (alone_is _ _ _ _ _ m s h hp f0 f1 HB.out).mono ?_
  rintro e w1 ⟨rfl, hu1⟩
  clear c1 c2 c3 c4
  go_wp2_with fail
  refine Calls.mono (hmv w1 hu1) ?_
  rintro e w2 ⟨rfl, hR⟩
  go_wp2_with fail
  go_ret3
  exact ⟨rfl, hR⟩
theorem lvTouch (w : World) (bl bp bf : Nat) (n : Int) (wt : Bool) (m m' : Mp) (s : Pl) (h : LvAt w bl bp m) (hp : PoolAt w bp bf s) (h1 : bl ≠ bp) (h2 : bl ≠ bf) (hn : 0 < s.n) (hi : Inv s m m') :
    Calls Try.prog 35 #[.pointer (some ⟨bl, 0, none⟩), .int .i64 n, .bool wt] w fun e w' => e = .returned (.tuple #[.int .i64 (touchR s m n wt).1.1, .bool (touchR s m n wt).1.2.1, errV (touchR s m n wt).1.2.2]) ∧ PoolAt w' bp bf (touchR s m n wt).2.1 ∧ LvAt w' bl bp (touchR s m n wt).2.2 ∧ Upd (fun k => k = bf ∨ k = bl) w w' := by
  have hlt : bf < w.heap.size := World.block_lt_of_cell? w _ (hp.refs 0 hn)
  have hm : ∀ k, k < s.n → s.refs k ≤ 1000000 := fun k hk => by have := hi.le k hk; omega
  cases ho : onB n with
  | false =>
    simp only [touchR, ho, Bool.false_eq_true, if_false, errV1]
    refine (lvTouch_out w bl n wt ho).mono ?_
    rintro e w' ⟨rfl, rfl⟩
    exact ⟨rfl, hp, h, Upd.refl _ _⟩
  | true =>
    obtain ⟨h0, h1'⟩ := (onB_iff n).1 ho
    obtain ⟨k, rfl⟩ := Int.eq_ofNat_of_zero_le h0
    have hk : k < 16 := by omega
    by_cases s0 : m.st k = 0
    · simp only [touchR, ho, if_true, Int.toNat_natCast, s0, errV2]
      refine (lvTouch_absent w bl bp k wt m h hk s0).mono ?_
      rintro e w' ⟨rfl, rfl⟩
      exact ⟨rfl, hp, h, Upd.refl _ _⟩
    · by_cases s2 : m.st k = 2
      · simp only [touchR, ho, if_true, Int.toNat_natCast, s2, errV6, show ¬ ((2 : Int) = 0) by omega, if_false]
        refine (lvTouch_gone w bl bp k wt m h hk s2).mono ?_
        rintro e w' ⟨rfl, rfl⟩
        exact ⟨rfl, hp, h, Upd.refl _ _⟩
      · cases ha : ((m.lf k).there && (!wt || (m.lf k).wr)) with
        | true =>
          simp only [touchR, ho, if_true, Int.toNat_natCast, s0, s2, if_false, ha, errV_zero]
          simp only [Bool.and_eq_true] at ha
          refine (lvTouch_keep w bl bp k wt m h hk s0 s2 ha.1 ha.2).mono ?_
          rintro e w' ⟨rfl, rfl⟩
          exact ⟨rfl, hp, h, Upd.refl _ _⟩
        | false =>
          cases ht : (m.lf k).there with
          | false =>
            have hsp := firstFrom_spec s.refs s.n 0
            cases hff : firstFrom s.refs 0 s.n with
            | none =>
              rw [hff] at hsp
              simp only [touchR, ho, if_true, Int.toNat_natCast, s0, s2, if_false, ht, Bool.false_and, Bool.false_eq_true, take_none hff, show ¬ ((3 : Int) = 0) by omega, errV3]
              refine lvTouch_new w bl bp k wt m h hk s0 s2 ht _ _ _ _ ?_
              refine (move_full w bl bp bf k m s h hp (fun i hi => hsp i (by omega) (by omega))).mono ?_
              rintro e w' ⟨rfl, rfl⟩
              exact ⟨rfl, hp, h, Upd.refl _ _⟩
            | some j =>
              rw [hff] at hsp
              obtain ⟨_, j1, j2, j3⟩ := hsp
              simp only [touchR, ho, if_true, Int.toNat_natCast, s0, s2, if_false, ht, Bool.false_and, Bool.false_eq_true, take_some hff, errV_zero]
              exact lvTouch_new w bl bp k wt m h hk s0 s2 ht _ _ _ _ (move_new w bl bp bf k j m s h hp h1 h2 hk hlt hm ht (by omega) j2 (fun i hi => j3 i (by omega) hi))
          | true =>
            rw [ht] at ha
            have hw : (m.lf k).wr = false := by
              cases hh : (m.lf k).wr with
              | false => rfl
              | true => rw [hh] at ha; simp at ha
            have hwt : wt = true := by
              cases wt with
              | true => rfl
              | false => simp at ha
            subst hwt
            obtain ⟨f0, f1, f2⟩ := hi.ok k hk ht
            by_cases hone : s.refs (m.lf k).fr.toNat = 1
            · have hb : (s.refs (m.lf k).fr.toNat == 1) = true := by simp [hone]
              simp only [touchR, ho, if_true, Int.toNat_natCast, s0, s2, if_false, ht, hw, hb, Bool.true_and, Bool.not_true, Bool.or_self, Bool.false_eq_true, errV_zero]
              have := lvTouch_own w bl bp bf k m s h hp h1 h2 hk hlt s0 s2 ht hw f0 f1 hone
              simpa only [ht] using this
            · have hb : (s.refs (m.lf k).fr.toNat == 1) = false := by simp [hone]
              have hsp := firstFrom_spec s.refs s.n 0
              cases hff : firstFrom s.refs 0 s.n with
              | none =>
                rw [hff] at hsp
                simp only [touchR, ho, if_true, Int.toNat_natCast, s0, s2, if_false, ht, hw, hb, Bool.and_false, Bool.not_true, Bool.or_self, Bool.false_eq_true, take_none hff, show ¬ ((3 : Int) = 0) by omega, errV3]
                refine lvTouch_shared w bl bp bf k m s h hp hk s0 s2 ht hw f0 f1 hone _ _ _ _ (fun w1 hu1 => ?_)
                refine (move_full w1 bl bp bf k m s (h.upd hu1 (fun f => f)) (hp.upd hu1 (fun f => f) (fun f => f) hlt) (fun i hi => hsp i (by omega) (by omega))).mono ?_
                rintro e w' ⟨rfl, rfl⟩
                exact ⟨rfl, hp.upd hu1 (fun f => f) (fun f => f) hlt, h.upd hu1 (fun f => f), hu1.wide (fun _ f => f.elim)⟩
              | some j =>
                rw [hff] at hsp
                obtain ⟨_, j1, j2, j3⟩ := hsp
                simp only [touchR, ho, if_true, Int.toNat_natCast, s0, s2, if_false, ht, hw, hb, Bool.and_false, Bool.not_true, Bool.or_self, Bool.false_eq_true, take_some hff, errV_zero]
                refine lvTouch_shared w bl bp bf k m s h hp hk s0 s2 ht hw f0 f1 hone _ _ _ _ (fun w1 hu1 => ?_)
                refine (move_yes w1 bl bp bf k j m s (h.upd hu1 (fun f => f)) (hp.upd hu1 (fun f => f) (fun f => f) hlt) h1 h2 hk (Nat.lt_of_lt_of_le hlt hu1.size) hm ht f0 f1 f2 (by omega) j2 (fun i hi => j3 i (by omega) hi)).mono ?_
                rintro e w' ⟨rfl, a1, a2, a3⟩
                exact ⟨rfl, a1, a2, (hu1.wide (fun _ f => f.elim)).trans a3 (fun _ _ e => e)⟩
end Go.Proofs.Ytadpibcgjgcjhaa
