/- Package leaves: what Join and Touch answer and turn. -/
import Derived.Test.YtadpibcgjgcjhabGreatDoorLvB
namespace Go.Proofs.YtadpibcgjgcjhabGreatDoor
open Go.ChangeShapes Go.WideShapes Go.ChangeAt Go.RowKit
set_option maxRecDepth 100000
attribute [local go_sem ↓] Go.wp_at_zero Go.wp_at_succ

theorem lvTake_ok (w : World) (bp bf j : Nat) (s : Pl) (h : PoolAt w bp bf s) (hj : j < s.n) (h0 : s.refs j = 0) (hr : ∀ i, i < j → s.refs i ≠ 0) :
    Calls Tryz.prog 200 #[.pointer (some ⟨bp, 0, none⟩)] w fun e w' => e = .returned (.tuple #[.int .i64 j, .nilIface]) ∧ PoolAt w' bp bf { s with refs := setAt s.refs j 1, byt := setAt s.byt j fun _ => 0 } ∧ Upd (fun k => k = bf) w w' := by
  refine (take_at w bp bf j s h hj h0 hr).mono ?_
  rintro e w' ⟨rfl, rfl⟩
  refine ⟨rfl, ?_, (Upd.row _ _ _ _).trans (Upd.one _ _ _ _) (fun _ _ e => e)⟩
  exact (h.setRow (f := j) hj (fun _ => 0)).setRef (f := j) hj (by omega)

/-- No frame is free: nothing turns. -/
theorem move_full (w : World) (bl bp bf k : Nat) (m : Mp) (s : Pl) (h : LvAt w bl bp m) (hp : PoolAt w bp bf s) (hfull : ∀ i, i < s.n → s.refs i ≠ 0) :
    Calls Tryz.prog 192 #[.pointer (some ⟨bl, 0, none⟩), .pointer (some ⟨bl, 1 + k * 4, none⟩)] w fun e w' => e = .returned (.tuple #[.int .i64 0, .bool false, .iface 37 (.int .i64 3)]) ∧ w' = w := by
  have c0 := h.pool
  have HF : Hid _ := hfull
  clear hfull
  go_enter Tryz.func192, Tryz.ntmps192
  go_wp2_with fail
  refine (take_full _ _ _ s hp HF.out).mono ?_
  rintro e w1 ⟨rfl, rfl⟩
  go_wp2_with fail
  go_ret3
  exact ⟨rfl, rfl⟩
/-- The page was in no frame. -/
theorem move_new (w : World) (bl bp bf k j : Nat) (m : Mp) (s : Pl) (h : LvAt w bl bp m) (hp : PoolAt w bp bf s) (h1 : bl ≠ bp) (h2 : bl ≠ bf) (hk : k < 16) (hlt : bf < w.heap.size) (hm : ∀ k, k < s.n → s.refs k ≤ 1000000)
    (ht : (m.lf k).there = false) (hj : j < s.n) (hj0 : s.refs j = 0) (hjr : ∀ i, i < j → s.refs i ≠ 0) :
    Calls Tryz.prog 192 #[.pointer (some ⟨bl, 0, none⟩), .pointer (some ⟨bl, 1 + k * 4, none⟩)] w fun e w' => e = .returned (.tuple #[.int .i64 j, .bool false, .nilIface]) ∧
      PoolAt w' bp bf { s with refs := setAt s.refs j 1, byt := setAt s.byt j fun _ => 0 } ∧ LvAt w' bl bp { m with lf := setAt m.lf k ⟨true, true, j⟩ } ∧ Upd (fun k => k = bf ∨ k = bl) w w' := by
  have c0 := h.pool
  have H1 : Hid _ := h1
  have H2 : Hid _ := h2
  have HM : Hid _ := hm
  have HT : Hid _ := ht
  have HJ0 : Hid _ := hj0
  have HJR : Hid _ := hjr
  clear ht h1 h2 hm hj0 hjr
  go_enter Tryz.func192, Tryz.ntmps192
  go_wp2_with fail
  refine (lvTake_ok _ _ _ j s hp hj HJ0.out HJR.out).mono ?_
  rintro e w1 ⟨rfl, hp1, hu1⟩
  have hl1 := h.upd hu1 H2.out
  have c1 := hl1.th k hk
  rw [HT.out] at c1
  clear c0
  go_wp2_with fail
  refine (leave_any _ _ _ _ k m _ hl1 hp1 H1.out H2.out hk (Nat.lt_of_lt_of_le hlt hu1.size) (setAt_le (fun f hf => HM.out f hf) (by omega))).mono ?_
  rintro e w2 ⟨rfl, hp2, hl2, hu2⟩
  simp only [leaveP, HT.out, Bool.false_eq_true, if_false] at hp2
  have d1 := hl2.th k hk
  have d2 := hl2.wr k hk
  have d3 := hl2.fr k hk
  have d4 := hl2.fz (1 + k * 4 + 1)
  have d5 := hl2.fz (1 + k * 4 + 1 + 1)
  have d6 := hl2.fz (1 + k * 4 + 1 + 2)
  have h3 := hl2.setLf hk ⟨true, true, j⟩
  simp only [leaveM, setAt_twice] at h3
  have hu3 := Upd.three w2 bl (1 + k * 4 + 1) (1 + k * 4 + 1 + 1) (1 + k * 4 + 1 + 2) (.bool true) (.bool true) (.int .i64 j)
  have hp3 := hp2.upd hu3 (Ne.symm H1.out) (Ne.symm H2.out) (Nat.lt_of_lt_of_le hlt (Nat.le_trans hu1.size hu2.size))
  have hu4 := ((hu1.wide (T := fun k => k = bf ∨ k = bl) (fun _ e => Or.inl e)).trans hu2 (fun _ _ e => e)).trans hu3 (fun _ _ e => Or.inr e)
  have H3 : Hid _ := h3
  have HU4 : Hid _ := hu4
  have HP3 : Hid _ := hp3
  clear h3 hu3 hp3 hu4 hl1 hu1 hp1 hp2 hu2 hl2 c1
  go_wp2_with fail
  go_ret3
  exact ⟨rfl, HP3.out, H3.out, HU4.out⟩
/-- The page was in a frame: it moves. -/
theorem move_yes (w : World) (bl bp bf k j : Nat) (m : Mp) (s : Pl) (h : LvAt w bl bp m) (hp : PoolAt w bp bf s) (h1 : bl ≠ bp) (h2 : bl ≠ bf) (hk : k < 16) (hlt : bf < w.heap.size) (hm : ∀ k, k < s.n → s.refs k ≤ 1000000)
    (ht : (m.lf k).there = true) (f0 : 0 ≤ (m.lf k).fr) (f1 : (m.lf k).fr < s.n) (hused : s.refs (m.lf k).fr.toNat ≠ 0) (hj : j < s.n) (hj0 : s.refs j = 0) (hjr : ∀ i, i < j → s.refs i ≠ 0) :
    Calls Tryz.prog 192 #[.pointer (some ⟨bl, 0, none⟩), .pointer (some ⟨bl, 1 + k * 4, none⟩)] w fun e w' => e = .returned (.tuple #[.int .i64 j, .bool true, .nilIface]) ∧
      PoolAt w' bp bf (({ s with refs := setAt s.refs j 1, byt := setAt (setAt s.byt j fun _ => 0) j (setAt s.byt j (fun _ => 0) (m.lf k).fr.toNat) } : Pl).share (m.lf k).fr (-1)).2 ∧ LvAt w' bl bp { m with lf := setAt m.lf k ⟨true, true, j⟩ } ∧ Upd (fun k => k = bf ∨ k = bl) w w' := by
  have c0 := h.pool
  have hfj : (m.lf k).fr.toNat ≠ j := fun e => hused (by rw [e]; exact hj0)
  have hfill : ({ s with refs := setAt s.refs j 1, byt := setAt s.byt j fun _ => 0 } : Pl).fill j (m.lf k).fr = (0, { s with refs := setAt s.refs j 1, byt := setAt (setAt s.byt j fun _ => 0) j (setAt s.byt j (fun _ => 0) (m.lf k).fr.toNat) }) := by
    have e1 : ({ s with refs := setAt s.refs j 1, byt := setAt s.byt j fun _ => 0 } : Pl).used j = true := (Pl.used_iff _ _).2 ⟨by omega, by show (j : Int) < s.n; omega, by show setAt s.refs j 1 _ ≠ 0; rw [Int.toNat_natCast, setAt_same]; omega⟩
    have e2 : ({ s with refs := setAt s.refs j 1, byt := setAt s.byt j fun _ => 0 } : Pl).used (m.lf k).fr = true := (Pl.used_iff _ _).2 ⟨f0, f1, by show setAt s.refs j 1 _ ≠ 0; rw [setAt_other _ _ _ _ hfj]; exact hused⟩
    unfold Pl.fill
    rw [e1, e2]
    simp only [Int.toNat_natCast, setAt_same, Bool.and_self, if_true]
    rw [if_neg (by omega)]
  have H1 : Hid _ := h1
  have H2 : Hid _ := h2
  have HM : Hid _ := hm
  have HT : Hid _ := ht
  have HJ0 : Hid _ := hj0
  have HJR : Hid _ := hjr
  have HFJ : Hid _ := hfj
  have HFI : Hid _ := hfill
  clear ht h1 h2 hm hj0 hjr hfj hused hfill
  go_enter Tryz.func192, Tryz.ntmps192
  go_wp2_with fail
  refine (lvTake_ok _ _ _ j s hp hj HJ0.out HJR.out).mono ?_
  rintro e w1 ⟨rfl, hp1, hu1⟩
  have hl1 := h.upd hu1 H2.out
  have c1 := hl1.th k hk
  have c2 := hl1.fr k hk
  have c3 := hl1.pool
  rw [HT.out] at c1
  clear c0
  go_wp2_with fail
  go_region_held3 (fun w' => w'.cell? ⟨bl, 0, none⟩ = some (.pointer (some ⟨bp, 0, none⟩)) ∧ w'.cell? ⟨bl, 1 + k * 4 + 1 + 2, none⟩ = some (.int .i64 (m.lf k).fr)) (first | exact ⟨c3, c2⟩ | exact h1c)
    ((go_at_call 201; refine (fill_any _ _ _ _ _ _ (by first | exact hp1 | exact hp1.drew)).mono ?_; rintro e w2 ⟨rfl, hp2, hu2⟩; have h1c : w2.cell? ⟨bl, 0, none⟩ = some (.pointer (some ⟨bp, 0, none⟩)) ∧ w2.cell? ⟨bl, 1 + k * 4 + 1 + 2, none⟩ = some (.int .i64 (m.lf k).fr) := ⟨hu2.cell (by exact c3) H2.out, hu2.cell (by exact c2) H2.out⟩))
  rw [HFI.out] at hp2
  simp only at hp2
  have hu2' : Upd (fun k => k = bf) w w2 := hu1.drew.trans hu2 (fun _ _ e => e)
  have hl2 := h.upd hu2' H2.out
  clear h1c hl1 c1 c2 c3 hp1 hu1 hu2
  go_wp2_with fail
  refine (leave_any _ _ _ _ k m _ hl2 hp2 H1.out H2.out hk (Nat.lt_of_lt_of_le hlt hu2'.size) (setAt_le (fun f hf => HM.out f hf) (by omega))).mono ?_
  rintro e w3 ⟨rfl, hp3, hl3, hu3⟩
  simp only [leaveP, HT.out, if_true] at hp3
  have d1 := hl3.th k hk
  have d2 := hl3.wr k hk
  have d3 := hl3.fr k hk
  have d4 := hl3.fz (1 + k * 4 + 1)
  have d5 := hl3.fz (1 + k * 4 + 1 + 1)
  have d6 := hl3.fz (1 + k * 4 + 1 + 2)
  have h4 := hl3.setLf hk ⟨true, true, j⟩
  simp only [leaveM, setAt_twice] at h4
  have hu4 := Upd.three w3 bl (1 + k * 4 + 1) (1 + k * 4 + 1 + 1) (1 + k * 4 + 1 + 2) (.bool true) (.bool true) (.int .i64 j)
  have hp4 := hp3.upd hu4 (Ne.symm H1.out) (Ne.symm H2.out) (Nat.lt_of_lt_of_le hlt (Nat.le_trans hu2'.size hu3.size))
  have hu5 := ((hu2'.wide (T := fun k => k = bf ∨ k = bl) (fun _ e => Or.inl e)).trans hu3 (fun _ _ e => e)).trans hu4 (fun _ _ e => Or.inr e)
  have H4 : Hid _ := h4
  have HU5 : Hid _ := hu5
  have HP4 : Hid _ := hp4
  clear h4 hu4 hp4 hu5 hl2 hu2' hp2 hp3 hu3 hl3
  go_wp2_with fail
  go_ret3
  exact ⟨rfl, HP4.out, H4.out, HU5.out⟩
end Go.Proofs.YtadpibcgjgcjhabGreatDoor
