/- Package leaves: what Join, New and Copy answer and turn. -/
import Derived.Test.YtadpibcgjgcjhabGreatDoorLvD
namespace Go.Proofs.YtadpibcgjgcjhabGreatDoor
open Go.ChangeShapes Go.WideShapes Go.ChangeAt Go.RowKit
set_option maxRecDepth 100000
attribute [local go_sem ↓] Go.wp_at_zero Go.wp_at_succ

/-- The pages' cells, in their order. -/
def pgCells (m : Mp) : List Value := [.int .i64 (m.st 0), .bool (m.lf 0).there, .bool (m.lf 0).wr, .int .i64 (m.lf 0).fr, .int .i64 (m.st 1), .bool (m.lf 1).there, .bool (m.lf 1).wr, .int .i64 (m.lf 1).fr, .int .i64 (m.st 2), .bool (m.lf 2).there, .bool (m.lf 2).wr, .int .i64 (m.lf 2).fr, .int .i64 (m.st 3), .bool (m.lf 3).there, .bool (m.lf 3).wr, .int .i64 (m.lf 3).fr, .int .i64 (m.st 4), .bool (m.lf 4).there, .bool (m.lf 4).wr, .int .i64 (m.lf 4).fr, .int .i64 (m.st 5), .bool (m.lf 5).there, .bool (m.lf 5).wr, .int .i64 (m.lf 5).fr, .int .i64 (m.st 6), .bool (m.lf 6).there, .bool (m.lf 6).wr, .int .i64 (m.lf 6).fr, .int .i64 (m.st 7), .bool (m.lf 7).there, .bool (m.lf 7).wr, .int .i64 (m.lf 7).fr, .int .i64 (m.st 8), .bool (m.lf 8).there, .bool (m.lf 8).wr, .int .i64 (m.lf 8).fr, .int .i64 (m.st 9), .bool (m.lf 9).there, .bool (m.lf 9).wr, .int .i64 (m.lf 9).fr, .int .i64 (m.st 10), .bool (m.lf 10).there, .bool (m.lf 10).wr, .int .i64 (m.lf 10).fr, .int .i64 (m.st 11), .bool (m.lf 11).there, .bool (m.lf 11).wr, .int .i64 (m.lf 11).fr, .int .i64 (m.st 12), .bool (m.lf 12).there, .bool (m.lf 12).wr, .int .i64 (m.lf 12).fr, .int .i64 (m.st 13), .bool (m.lf 13).there, .bool (m.lf 13).wr, .int .i64 (m.lf 13).fr, .int .i64 (m.st 14), .bool (m.lf 14).there, .bool (m.lf 14).wr, .int .i64 (m.lf 14).fr, .int .i64 (m.st 15), .bool (m.lf 15).there, .bool (m.lf 15).wr, .int .i64 (m.lf 15).fr]
theorem pg_st (m : Mp) : ∀ n, n < 16 → (pgCells m)[n * 4]? = some (.int .i64 (m.st n))
  | 0, _ => rfl
  | 1, _ => rfl
  | 2, _ => rfl
  | 3, _ => rfl
  | 4, _ => rfl
  | 5, _ => rfl
  | 6, _ => rfl
  | 7, _ => rfl
  | 8, _ => rfl
  | 9, _ => rfl
  | 10, _ => rfl
  | 11, _ => rfl
  | 12, _ => rfl
  | 13, _ => rfl
  | 14, _ => rfl
  | 15, _ => rfl
  | n + 16, h => absurd h (by omega)
theorem pg_th (m : Mp) : ∀ n, n < 16 → (pgCells m)[n * 4 + 1]? = some (.bool (m.lf n).there)
  | 0, _ => rfl
  | 1, _ => rfl
  | 2, _ => rfl
  | 3, _ => rfl
  | 4, _ => rfl
  | 5, _ => rfl
  | 6, _ => rfl
  | 7, _ => rfl
  | 8, _ => rfl
  | 9, _ => rfl
  | 10, _ => rfl
  | 11, _ => rfl
  | 12, _ => rfl
  | 13, _ => rfl
  | 14, _ => rfl
  | 15, _ => rfl
  | n + 16, h => absurd h (by omega)
theorem pg_wr (m : Mp) : ∀ n, n < 16 → (pgCells m)[n * 4 + 2]? = some (.bool (m.lf n).wr)
  | 0, _ => rfl
  | 1, _ => rfl
  | 2, _ => rfl
  | 3, _ => rfl
  | 4, _ => rfl
  | 5, _ => rfl
  | 6, _ => rfl
  | 7, _ => rfl
  | 8, _ => rfl
  | 9, _ => rfl
  | 10, _ => rfl
  | 11, _ => rfl
  | 12, _ => rfl
  | 13, _ => rfl
  | 14, _ => rfl
  | 15, _ => rfl
  | n + 16, h => absurd h (by omega)
theorem pg_fr (m : Mp) : ∀ n, n < 16 → (pgCells m)[n * 4 + 3]? = some (.int .i64 (m.lf n).fr)
  | 0, _ => rfl
  | 1, _ => rfl
  | 2, _ => rfl
  | 3, _ => rfl
  | 4, _ => rfl
  | 5, _ => rfl
  | 6, _ => rfl
  | 7, _ => rfl
  | 8, _ => rfl
  | 9, _ => rfl
  | 10, _ => rfl
  | 11, _ => rfl
  | 12, _ => rfl
  | 13, _ => rfl
  | 14, _ => rfl
  | 15, _ => rfl
  | n + 16, h => absurd h (by omega)
/-- A map that is made anew. -/
theorem LvAt.new (w : World) (bp : Nat) (m : Mp) (t : TypeId) : LvAt (w.alloc (.cells (.pointer (some ⟨bp, 0, none⟩) :: pgCells m).toArray t)) w.heap.size bp m where
  pool := by rw [World.cell?_alloc_new]; rfl
  st := fun n hn => by
    rw [World.cell?_alloc_new]
    have := pg_st m n hn
    rw [show 1 + n * 4 = n * 4 + 1 by omega]
    simpa using this
  th := fun n hn => by
    rw [World.cell?_alloc_new]
    have := pg_th m n hn
    rw [show 1 + n * 4 + 1 = (n * 4 + 1) + 1 by omega]
    simpa using this
  wr := fun n hn => by
    rw [World.cell?_alloc_new]
    have := pg_wr m n hn
    rw [show 1 + n * 4 + 1 + 1 = (n * 4 + 2) + 1 by omega]
    simpa using this
  fr := fun n hn => by
    rw [World.cell?_alloc_new]
    have := pg_fr m n hn
    rw [show 1 + n * 4 + 1 + 2 = (n * 4 + 3) + 1 by omega]
    simpa using this
  fz := fun o => World.frozen?_alloc_new _ _ _ _
theorem zero109 (bp : Nat) : Tryz.zeroCells186.setIfInBounds 0 (.pointer (some ⟨bp, 0, none⟩)) = (.pointer (some ⟨bp, 0, none⟩) :: pgCells mp0).toArray := rfl
theorem lvNew (w : World) (bp : Nat) : Calls Tryz.prog 108 #[.pointer (some ⟨bp, 0, none⟩)] w fun e w' => ∃ bl, e = .returned (.tuple #[.pointer (some ⟨bl, 0, none⟩), .nilIface]) ∧ LvAt w' bl bp mp0 ∧ w.heap.size ≤ bl ∧ Upd (fun _ => False) w w' := by
  go_enter Tryz.func108, Tryz.ntmps108
  go_wp2_with fail
  go_ret2
  refine ⟨_, rfl, ?_, Nat.le_refl _, (Upd.refl _ _).alloc _⟩
  rw [zero109]
  exact LvAt.new w bp mp0 _
theorem lvSame_is (w : World) (bp bf : Nat) (f g : Int) (s : Pl) (h : PoolAt w bp bf s) {u : Bool} (hu : s.same f g = u) :
    Calls Tryz.prog 113 #[.pointer (some ⟨bp, 0, none⟩), .int .i64 f, .int .i64 g] w fun e w' => e = .returned (.bool u) ∧ ∃ m, w' = w.drewN m := by
  subst hu; exact same_any w bp bf f g s h
theorem lvJoin_no (w : World) (bl bp : Nat) (n f : Int) (m : Mp) (h : LvAt w bl bp m) (ho : onB n = true) (ht : ((m.lf n.toNat).there && !((m.lf n.toNat).fr == f)) = false) :
    Calls Tryz.prog 117 #[.pointer (some ⟨bl, 0, none⟩), .int .i64 n, .int .i64 f] w fun e w' => e = .returned (.iface 37 (.int .i64 8)) ∧ Upd (fun _ => False) w w' := by
  obtain ⟨h0, h1⟩ := (onB_iff n).1 ho
  obtain ⟨k, rfl⟩ := Int.eq_ofNat_of_zero_le h0
  rw [Int.toNat_natCast] at ht
  have hk : k < 16 := by omega
  have c0 := h.th k hk
  have c1 := h.wr k hk
  have c2 := h.fr k hk
  cases htt : (m.lf k).there with
  | false =>
    rw [htt] at c0
    clear ht htt
    go_enter Tryz.func117, Tryz.ntmps117
    go_wp2_with (go_at_call 147; refine (page_yes _ _ _ hk).mono ?_; rintro e w' ⟨rfl, rfl⟩)
    have u1 := (Upd.refl (fun _ => False) w').alloc (.cells #[.bool false, .bool (m.lf k).wr, .int .i64 (m.lf k).fr] 92)
    have b1 := LfAt.new w' 92 ⟨false, (m.lf k).wr, (m.lf k).fr⟩
    revert u1 b1
    generalize w'.alloc (.cells #[.bool false, .bool (m.lf k).wr, .int .i64 (m.lf k).fr] 92) = w1
    generalize w'.heap.size = q
    intro u1 b1
    have d1 := b1.c0
    have d2 := b1.c2
    clear c0 c1 c2
    go_quiet (fail)
    go_wp2_with fail
    go_ret
    exact ⟨rfl, u1.drewN nq⟩
  | true =>
    rw [htt] at c0 ht
    have hb : ((m.lf k).fr == f) = true := by
      simp only [Bool.true_and, Bool.not_eq_false', beq_iff_eq] at ht
      simp [ht]
    clear ht htt
    go_enter Tryz.func117, Tryz.ntmps117
    go_wp2_with (go_at_call 147; refine (page_yes _ _ _ hk).mono ?_; rintro e w' ⟨rfl, rfl⟩)
    have u1 := (Upd.refl (fun _ => False) w').alloc (.cells #[.bool true, .bool (m.lf k).wr, .int .i64 (m.lf k).fr] 92)
    have b1 := LfAt.new w' 92 ⟨true, (m.lf k).wr, (m.lf k).fr⟩
    revert u1 b1
    generalize w'.alloc (.cells #[.bool true, .bool (m.lf k).wr, .int .i64 (m.lf k).fr] 92) = w1
    generalize w'.heap.size = q
    intro u1 b1
    have d1 := b1.c0
    have d2 := b1.c2
    clear c0 c1 c2
    go_quiet (fail)
    go_wp2_with fail
    go_ret
    exact ⟨rfl, u1.drewN nq⟩
theorem lvJoin_diff (w : World) (bl bp bf : Nat) (n f : Int) (m : Mp) (s : Pl) (h : LvAt w bl bp m) (hp : PoolAt w bp bf s) (hlt : bf < w.heap.size) (ho : onB n = true) (ht : (m.lf n.toNat).there = true) (hf : ((m.lf n.toNat).fr == f) = false) (hs : s.same (m.lf n.toNat).fr f = false) :
    Calls Tryz.prog 117 #[.pointer (some ⟨bl, 0, none⟩), .int .i64 n, .int .i64 f] w fun e w' => e = .returned (.iface 37 (.int .i64 8)) ∧ Upd (fun _ => False) w w' := by
  obtain ⟨h0, h1⟩ := (onB_iff n).1 ho
  obtain ⟨k, rfl⟩ := Int.eq_ofNat_of_zero_le h0
  rw [Int.toNat_natCast] at ht hf hs
  have hk : k < 16 := by omega
  have c0 := h.th k hk
  have c1 := h.wr k hk
  have c2 := h.fr k hk
  rw [ht] at c0
  have HS : Hid _ := hs
  clear ht hs
  go_enter Tryz.func117, Tryz.ntmps117
  go_wp2_with (go_at_call 147; refine (page_yes _ _ _ hk).mono ?_; rintro e w' ⟨rfl, rfl⟩)
  have u1 := (Upd.refl (fun _ => False) w').alloc (.cells #[.bool true, .bool (m.lf k).wr, .int .i64 (m.lf k).fr] 92)
  have b1 := LfAt.new w' 92 ⟨true, (m.lf k).wr, (m.lf k).fr⟩
  revert u1 b1
  generalize w'.alloc (.cells #[.bool true, .bool (m.lf k).wr, .int .i64 (m.lf k).fr] 92) = w1
  generalize w'.heap.size = q
  intro u1 b1
  have hp1 := hp.upd u1 (fun f => f) (fun f => f) hlt
  have d0 := u1.cell h.pool (fun f => f)
  have d1 := b1.c0
  have d2 := b1.c2
  clear c0 c1 c2
  go_quiet ((go_at_call 113; exact Calls.quiet_of (lvSame_is _ _ _ _ _ s (hp1.drewN _) HS.out)))
  go_wp2_with fail
  go_ret
  exact ⟨rfl, u1.drewN nq⟩
theorem lvJoin_yes (w : World) (bl bp bf : Nat) (n f : Int) (m : Mp) (s : Pl) (h : LvAt w bl bp m) (hp : PoolAt w bp bf s) (h1 : bl ≠ bp) (h2 : bl ≠ bf) (hlt : bf < w.heap.size) (hm : ∀ k, k < s.n → s.refs k ≤ 999999) (ho : onB n = true) (ht : (m.lf n.toNat).there = true) (hf : ((m.lf n.toNat).fr == f) = false) (hs : s.same (m.lf n.toNat).fr f = true) :
    Calls Tryz.prog 117 #[.pointer (some ⟨bl, 0, none⟩), .int .i64 n, .int .i64 f] w fun e w' => e = .returned .nilIface ∧ PoolAt w' bp bf ((s.share f 1).2.share (m.lf n.toNat).fr (-1)).2 ∧ LvAt w' bl bp { m with lf := setAt m.lf n.toNat ⟨true, false, f⟩ } ∧ Upd (fun k => k = bf ∨ k = bl) w w' := by
  obtain ⟨h0, h1'⟩ := (onB_iff n).1 ho
  obtain ⟨k, rfl⟩ := Int.eq_ofNat_of_zero_le h0
  rw [Int.toNat_natCast] at *
  have hk : k < 16 := by omega
  have c0 := h.th k hk
  have c1 := h.wr k hk
  have c2 := h.fr k hk
  have HT : Hid _ := ht
  rw [ht] at c0
  have hu : s.used f = true := by
    unfold Pl.same at hs
    simp only [Bool.and_eq_true] at hs
    exact hs.1.2
  have he : errV (s.share f 1).1 = .nilIface := by unfold Pl.share; rw [if_pos hu]; exact errV_zero
  have hm3 : ∀ k, k < (s.share f 1).2.n → (s.share f 1).2.refs k ≤ 1000000 := by
    have := share_bd (s := s) (f := f) (d := 1) (n := s.n) (B := 999998) rfl (fun f hf => by have := hm f hf; omega) (by omega)
    intro k hk
    have := this k (by rw [share_n] at hk; exact hk)
    omega
  have HS : Hid _ := hs
  have H1 : Hid _ := h1
  have H2 : Hid _ := h2
  have HM : Hid _ := hm
  have HM3 : Hid _ := hm3
  have HE : Hid _ := he
  have hbl := h.lt
  clear ht hs h1 h2 hm hu he hm3
  go_enter Tryz.func117, Tryz.ntmps117
  go_wp2_with (go_at_call 147; refine (page_yes _ _ _ hk).mono ?_; rintro e w' ⟨rfl, rfl⟩)
  have u1 := (Upd.refl (fun _ => False) w').alloc (.cells #[.bool true, .bool (m.lf k).wr, .int .i64 (m.lf k).fr] 92)
  have b1 := LfAt.new w' 92 ⟨true, (m.lf k).wr, (m.lf k).fr⟩
  revert u1 b1 hlt hbl
  generalize w'.alloc (.cells #[.bool true, .bool (m.lf k).wr, .int .i64 (m.lf k).fr] 92) = w1
  generalize hq : w'.heap.size = q
  intro hlt hbl u1 b1
  have hp1 := hp.upd u1 (fun f => f) (fun f => f) (by omega)
  have hl1 := h.upd u1 (fun f => f)
  have d0 := hl1.pool
  have d1 := b1.c0
  have d2 := b1.c2
  clear c0 c1 c2
  go_quiet ((go_at_call 113; exact Calls.quiet_of (lvSame_is _ _ _ _ _ s (hp1.drewN _) HS.out)))
  have u2 := u1.drewN nq
  have hp2 := hp1.drewN nq
  have hl2 := hl1.drewN nq
  clear u1 hp1 hl1 b1 d0 d1 d2
  revert u2 hp2 hl2
  generalize w1.drewN nq = w2
  intro u2 hp2 hl2
  have d0 := hl2.pool
  go_wp2_with fail
  refine (share_any _ _ _ _ s hp2 (fun k hk => by have := HM.out k hk; omega)).mono ?_
  rintro e w3 ⟨rfl, hp3, hu3⟩
  rw [HE.out]
  have hl3 := hl2.upd hu3 H2.out
  have hz3 : bf < w3.heap.size := by have := u2.size; have := hu3.size; omega
  clear d0 hl2 hp2
  go_wp2_with fail
  refine (leave_any _ _ _ _ k m _ hl3 hp3 H1.out H2.out hk hz3 HM3.out).mono ?_
  rintro e w4 ⟨rfl, hp4, hl4, hu4⟩
  simp only [leaveP, HT.out, if_true] at hp4
  have d1 := hl4.th k hk
  have d2 := hl4.wr k hk
  have d3 := hl4.fr k hk
  have d4 := hl4.fz (1 + k * 4 + 1)
  have d5 := hl4.fz (1 + k * 4 + 1 + 1)
  have d6 := hl4.fz (1 + k * 4 + 1 + 2)
  have h5 := hl4.setLf hk ⟨true, false, f⟩
  simp only [leaveM, setAt_twice] at h5
  have hu5 := Upd.three w4 bl (1 + k * 4 + 1) (1 + k * 4 + 1 + 1) (1 + k * 4 + 1 + 2) (.bool true) (.bool false) (.int .i64 f)
  have hp5 := hp4.upd hu5 (Ne.symm H1.out) (Ne.symm H2.out) (Nat.lt_of_lt_of_le hz3 hu4.size)
  have hu6 := (((u2.wide (T := fun k => k = bf ∨ k = bl) (fun _ f => f.elim)).trans hu3 (fun _ _ e => Or.inl e)).trans hu4 (fun _ _ e => e)).trans hu5 (fun _ _ e => Or.inr e)
  have H5 : Hid _ := h5
  have HU6 : Hid _ := hu6
  have HP5 : Hid _ := hp5
  clear h5 hu5 hp5 hu6 hl3 hu3 hp3 hp4 hu4 hl4 u2
  go_wp2_with fail
  go_ret
  exact ⟨rfl, HP5.out, H5.out, HU6.out⟩
theorem lvJoin (w : World) (bl bp bf : Nat) (n f : Int) (m m' : Mp) (s : Pl) (h : LvAt w bl bp m) (hp : PoolAt w bp bf s) (h1 : bl ≠ bp) (h2 : bl ≠ bf) (hn : 0 < s.n) (hi : Inv s m m') :
    Calls Tryz.prog 117 #[.pointer (some ⟨bl, 0, none⟩), .int .i64 n, .int .i64 f] w fun e w' => e = .returned (errV (joinR s m n f).1) ∧ PoolAt w' bp bf (joinR s m n f).2.1 ∧ LvAt w' bl bp (joinR s m n f).2.2 ∧ Upd (fun k => k = bf ∨ k = bl) w w' := by
  have hlt : bf < w.heap.size := World.block_lt_of_cell? w _ (hp.refs 0 hn)
  have hm : ∀ k, k < s.n → s.refs k ≤ 999999 := fun k hk => by have := hi.le k hk; omega
  cases ho : onB n with
  | false =>
    simp only [joinR, ho, Bool.false_eq_true, if_false, errV1]
    go_enter Tryz.func117, Tryz.ntmps117
    go_wp2_with (go_at_call 147; refine (page_no _ _ _ ho).mono ?_; rintro e w' ⟨rfl, rfl⟩)
    go_ret
    exact ⟨rfl, hp, h, Upd.refl _ _⟩
  | true =>
    cases ht : ((m.lf n.toNat).there && !((m.lf n.toNat).fr == f)) with
    | false =>
      refine (lvJoin_no w bl bp n f m h ho ht).mono ?_
      rintro e w' ⟨rfl, hu⟩
      simp only [joinR, ho, ht, if_true, Bool.false_and, Bool.false_eq_true, if_false, errV8]
      exact ⟨trivial, hp.upd hu (fun f => f) (fun f => f) hlt, h.upd hu (fun f => f), hu.wide (fun _ f => f.elim)⟩
    | true =>
      have ht' := ht
      simp only [Bool.and_eq_true, Bool.not_eq_true'] at ht'
      cases hs : s.same (m.lf n.toNat).fr f with
      | false =>
        refine (lvJoin_diff w bl bp bf n f m s h hp hlt ho ht'.1 ht'.2 hs).mono ?_
        rintro e w' ⟨rfl, hu⟩
        simp only [joinR, ho, ht, hs, if_true, Bool.and_false, Bool.false_eq_true, if_false, errV8]
        exact ⟨trivial, hp.upd hu (fun f => f) (fun f => f) hlt, h.upd hu (fun f => f), hu.wide (fun _ f => f.elim)⟩
      | true =>
        refine (lvJoin_yes w bl bp bf n f m s h hp h1 h2 hlt hm ho ht'.1 ht'.2 hs).mono ?_
        rintro e w' ⟨rfl, a1, a2, a3⟩
        simp only [joinR, ho, ht, hs, if_true, Bool.and_true, errV_zero]
        exact ⟨trivial, a1, a2, a3⟩
end Go.Proofs.YtadpibcgjgcjhabGreatDoor
