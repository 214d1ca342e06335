/- Package leaves: what Join, New and Copy answer and turn. -/
import Derived.Test.YtadpibcgjgcjhaaGreatPart09
import Derived.Test.YtadpibcgjgcjhaaGreatPart08
import Derived.Test.YtadpibcgjgcjhaaGreatPart06
namespace Go.Proofs.YtadpibcgjgcjhaaGreat
open Go.ChangeShapes Go.WideShapes Go.ChangeAt Go.RowKit
set_option maxRecDepth 100000
attribute [local go_sem ↓] Go.wp_at_zero Go.wp_at_succ

/-- The pages' cells, in their order. -/
def pgCells (m : Mp) : List Value := [.int .i64 (m.st 0), .bool (m.lf 0).there, .bool (m.lf 0).wr, .int .i64 (m.lf 0).fr, .int .i64 (m.st 1), .bool (m.lf 1).there, .bool (m.lf 1).wr, .int .i64 (m.lf 1).fr, .int .i64 (m.st 2), .bool (m.lf 2).there, .bool (m.lf 2).wr, .int .i64 (m.lf 2).fr, .int .i64 (m.st 3), .bool (m.lf 3).there, .bool (m.lf 3).wr, .int .i64 (m.lf 3).fr, .int .i64 (m.st 4), .bool (m.lf 4).there, .bool (m.lf 4).wr, .int .i64 (m.lf 4).fr, .int .i64 (m.st 5), .bool (m.lf 5).there, .bool (m.lf 5).wr, .int .i64 (m.lf 5).fr, .int .i64 (m.st 6), .bool (m.lf 6).there, .bool (m.lf 6).wr, .int .i64 (m.lf 6).fr, .int .i64 (m.st 7), .bool (m.lf 7).there, .bool (m.lf 7).wr, .int .i64 (m.lf 7).fr, .int .i64 (m.st 8), .bool (m.lf 8).there, .bool (m.lf 8).wr, .int .i64 (m.lf 8).fr, .int .i64 (m.st 9), .bool (m.lf 9).there, .bool (m.lf 9).wr, .int .i64 (m.lf 9).fr, .int .i64 (m.st 10), .bool (m.lf 10).there, .bool (m.lf 10).wr, .int .i64 (m.lf 10).fr, .int .i64 (m.st 11), .bool (m.lf 11).there, .bool (m.lf 11).wr, .int .i64 (m.lf 11).fr, .int .i64 (m.st 12), .bool (m.lf 12).there, .bool (m.lf 12).wr, .int .i64 (m.lf 12).fr, .int .i64 (m.st 13), .bool (m.lf 13).there, .bool (m.lf 13).wr, .int .i64 (m.lf 13).fr, .int .i64 (m.st 14), .bool (m.lf 14).there, .bool (m.lf 14).wr, .int .i64 (m.lf 14).fr, .int .i64 (m.st 15), .bool (m.lf 15).there, .bool (m.lf 15).wr, .int .i64 (m.lf 15).fr]
theorem pg_st (m : Mp) : ∀ n, n < 16 → (pgCells m)[n * 4]? = some (.int .i64 (m.st n))
  | 0, _ => rfl
  | 1, _ => rfl
  | 2, _ => rfl
  | 3, _ => rfl
  | 4, _ => rfl
  | 5, _ => rfl
  | 6, _ => rfl
  | 7, _ => rfl
  | 8, _ => rfl
  | 9, _ => rfl
  | 10, _ => rfl
  | 11, _ => rfl
  | 12, _ => rfl
  | 13, _ => rfl
  | 14, _ => rfl
  | 15, _ => rfl
  | n + 16, h => absurd h (by omega)
theorem pg_th (m : Mp) : ∀ n, n < 16 → (pgCells m)[n * 4 + 1]? = some (.bool (m.lf n).there)
  | 0, _ => rfl
  | 1, _ => rfl
  | 2, _ => rfl
  | 3, _ => rfl
  | 4, _ => rfl
  | 5, _ => rfl
  | 6, _ => rfl
  | 7, _ => rfl
  | 8, _ => rfl
  | 9, _ => rfl
  | 10, _ => rfl
  | 11, _ => rfl
  | 12, _ => rfl
  | 13, _ => rfl
  | 14, _ => rfl
  | 15, _ => rfl
  | n + 16, h => absurd h (by omega)
theorem pg_wr (m : Mp) : ∀ n, n < 16 → (pgCells m)[n * 4 + 2]? = some (.bool (m.lf n).wr)
  | 0, _ => rfl
  | 1, _ => rfl
  | 2, _ => rfl
  | 3, _ => rfl
  | 4, _ => rfl
  | 5, _ => rfl
  | 6, _ => rfl
  | 7, _ => rfl
  | 8, _ => rfl
  | 9, _ => rfl
  | 10, _ => rfl
  | 11, _ => rfl
  | 12, _ => rfl
  | 13, _ => rfl
  | 14, _ => rfl
  | 15, _ => rfl
  | n + 16, h => absurd h (by omega)
theorem pg_fr (m : Mp) : ∀ n, n < 16 → (pgCells m)[n * 4 + 3]? = some (.int .i64 (m.lf n).fr)
  | 0, _ => rfl
  | 1, _ => rfl
  | 2, _ => rfl
  | 3, _ => rfl
  | 4, _ => rfl
  | 5, _ => rfl
  | 6, _ => rfl
  | 7, _ => rfl
  | 8, _ => rfl
  | 9, _ => rfl
  | 10, _ => rfl
  | 11, _ => rfl
  | 12, _ => rfl
  | 13, _ => rfl
  | 14, _ => rfl
  | 15, _ => rfl
  | n + 16, h => absurd h (by omega)
/-- A map that is made anew. -/
theorem LvAt.new (w : World) (bp : Nat) (m : Mp) (t : TypeId) : LvAt (w.alloc (.cells (.pointer (some ⟨bp, 0, none⟩) :: pgCells m).toArray t)) w.heap.size bp m where
  pool := by rw [World.cell?_alloc_new]; rfl
  st := fun n hn => by
    rw [World.cell?_alloc_new]
    have := pg_st m n hn
    rw [show 1 + n * 4 = n * 4 + 1 by omega]
    simpa using this
  th := fun n hn => by
    rw [World.cell?_alloc_new]
    have := pg_th m n hn
    rw [show 1 + n * 4 + 1 = (n * 4 + 1) + 1 by omega]
    simpa using this
  wr := fun n hn => by
    rw [World.cell?_alloc_new]
    have := pg_wr m n hn
    rw [show 1 + n * 4 + 1 + 1 = (n * 4 + 2) + 1 by omega]
    simpa using this
  fr := fun n hn => by
    rw [World.cell?_alloc_new]
    have := pg_fr m n hn
    rw [show 1 + n * 4 + 1 + 2 = (n * 4 + 3) + 1 by omega]
    simpa using this
  fz := fun o => World.frozen?_alloc_new _ _ _ _
theorem LvAt.range {w : World} {bl bp : Nat} {m : Mp} (h : LvAt w bl bp m) : w.rangeAt bl 1 (pgCells m) := by
  intro j v hv
  have hj : j < 64 := by have := (List.getElem?_eq_some_iff.1 hv).1; exact this
  have hn : j / 4 < 16 := by omega
  have hc : j % 4 = 0 ∨ j % 4 = 1 ∨ j % 4 = 2 ∨ j % 4 = 3 := by omega
  rcases hc with e | e | e | e
  · have ej : j = (j / 4) * 4 := by omega
    rw [ej, pg_st m _ hn] at hv
    rw [show 1 + j = 1 + (j / 4) * 4 by omega, h.st _ hn, ← hv]
  · have ej : j = (j / 4) * 4 + 1 := by omega
    rw [ej, pg_th m _ hn] at hv
    rw [show 1 + j = 1 + (j / 4) * 4 + 1 by omega, h.th _ hn, ← hv]
  · have ej : j = (j / 4) * 4 + 2 := by omega
    rw [ej, pg_wr m _ hn] at hv
    rw [show 1 + j = 1 + (j / 4) * 4 + 1 + 1 by omega, h.wr _ hn, ← hv]
  · have ej : j = (j / 4) * 4 + 3 := by omega
    rw [ej, pg_fr m _ hn] at hv
    rw [show 1 + j = 1 + (j / 4) * 4 + 1 + 2 by omega, h.fr _ hn, ← hv]
theorem zero109 (bp : Nat) : Tryz.zeroCells163.setIfInBounds 0 (.pointer (some ⟨bp, 0, none⟩)) = (.pointer (some ⟨bp, 0, none⟩) :: pgCells mp0).toArray := rfl
theorem copy109 (bp : Nat) (m : Mp) : List.foldl (fun (cs : Array Value) (x : Value × Nat) => cs.setIfInBounds (1 + x.snd) x.fst) (Tryz.zeroCells163.setIfInBounds 0 (.pointer (some ⟨bp, 0, none⟩))) (pgCells m).zipIdx = (.pointer (some ⟨bp, 0, none⟩) :: pgCells m).toArray := by kernel_rfl
theorem info107 : (Tryz.prog.info? 161).map (·.size) = some 64 := by kernel_rfl

theorem lvNew (w : World) (bp : Nat) : Calls Tryz.prog 39 #[.pointer (some ⟨bp, 0, none⟩)] w fun e w' => ∃ bl, e = .returned (.tuple #[.pointer (some ⟨bl, 0, none⟩), .nilIface]) ∧ LvAt w' bl bp mp0 ∧ w.heap.size ≤ bl ∧ Upd (fun _ => False) w w' := by
  go_enter Tryz.func39, Tryz.ntmps39
  go_wp2_with fail
  go_ret2
  refine ⟨_, rfl, ?_, Nat.le_refl _, (Upd.refl _ _).alloc _⟩
  rw [zero109]
  exact LvAt.new w bp mp0 _
theorem lvCopy (w : World) (bl bp cp : Nat) (m : Mp) (h : LvAt w bl bp m) :
    Calls Tryz.prog 41 #[.pointer (some ⟨bl, 0, none⟩), .pointer (some ⟨cp, 0, none⟩)] w fun e w' => ∃ cl, e = .returned (.pointer (some ⟨cl, 0, none⟩)) ∧ LvAt w' cl cp m ∧ w.heap.size ≤ cl ∧ Upd (fun _ => False) w w' := by
  have hr := h.range
  have hlen : (pgCells m).length = 64 := rfl
  go_enter Tryz.func41, Tryz.ntmps41
  go_wp2_with (refine wpList_load_mid (by rfl) 161 _ (by rfl) bl 1 (by rfl) (pgCells m) _ hr Tryz.underlying161 (by rfl) info107 ?_)
  go_ret
  refine ⟨_, rfl, ?_, Nat.le_refl _, (Upd.refl _ _).alloc _⟩
  rw [copy109]
  exact LvAt.new w cp m _
theorem lvSame_is (w : World) (bp bf : Nat) (f g : Int) (s : Pl) (h : PoolAt w bp bf s) {u : Bool} (hu : s.same f g = u) :
    Calls Tryz.prog 161 #[.pointer (some ⟨bp, 0, none⟩), .int .i64 f, .int .i64 g] w fun e w' => e = .returned (.bool u) ∧ ∃ m, w' = w.drewN m := by
  subst hu; exact same_any w bp bf f g s h
theorem lvJoin_no (w : World) (bl bp : Nat) (n f : Int) (m : Mp) (h : LvAt w bl bp m) (ho : onB n = true) (ht : ((m.lf n.toNat).there && !((m.lf n.toNat).fr == f)) = false) :
    Calls Tryz.prog 133 #[.pointer (some ⟨bl, 0, none⟩), .int .i64 n, .int .i64 f] w fun e w' => e = .returned (.iface 85 (.int .i64 8)) ∧ Upd (fun _ => False) w w' := by
  obtain ⟨h0, h1⟩ := (onB_iff n).1 ho
  obtain ⟨k, rfl⟩ := Int.eq_ofNat_of_zero_le h0
  rw [Int.toNat_natCast] at ht
  have hk : k < 16 := by omega
  have c0 := h.th k hk
  have c1 := h.wr k hk
  have c2 := h.fr k hk
  cases htt : (m.lf k).there with
  | false =>
    rw [htt] at c0
    clear ht htt
    go_enter Tryz.func133, Tryz.ntmps133
    go_wp2_with (go_at_call 119; refine (page_yes _ _ _ hk).mono ?_; rintro e w' ⟨rfl, rfl⟩)
    have u1 := (Upd.refl (fun _ => False) w').alloc (.cells #[.bool false, .bool (m.lf k).wr, .int .i64 (m.lf k).fr] 43)
    have b1 := LfAt.new w' 43 ⟨false, (m.lf k).wr, (m.lf k).fr⟩
    revert u1 b1
    generalize w'.alloc (.cells #[.bool false, .bool (m.lf k).wr, .int .i64 (m.lf k).fr] 43) = w1
    generalize w'.heap.size = q
    intro u1 b1
    have d1 := b1.c0
    have d2 := b1.c2
    clear c0 c1 c2
    go_quiet (fail)
    go_wp2_with fail
    go_ret
    exact ⟨rfl, u1.drewN nq⟩
  | true =>
    rw [htt] at c0 ht
    have hb : ((m.lf k).fr == f) = true := by
      simp only [Bool.true_and, Bool.not_eq_false', beq_iff_eq] at ht
      simp [ht]
    clear ht htt
    go_enter Tryz.func133, Tryz.ntmps133
    go_wp2_with (go_at_call 119; refine (page_yes _ _ _ hk).mono ?_; rintro e w' ⟨rfl, rfl⟩)
    have u1 := (Upd.refl (fun _ => False) w').alloc (.cells #[.bool true, .bool (m.lf k).wr, .int .i64 (m.lf k).fr] 43)
    have b1 := LfAt.new w' 43 ⟨true, (m.lf k).wr, (m.lf k).fr⟩
    revert u1 b1
    generalize w'.alloc (.cells #[.bool true, .bool (m.lf k).wr, .int .i64 (m.lf k).fr] 43) = w1
    generalize w'.heap.size = q
    intro u1 b1
    have d1 := b1.c0
    have d2 := b1.c2
    clear c0 c1 c2
    go_quiet (fail)
    go_wp2_with fail
    go_ret
    exact ⟨rfl, u1.drewN nq⟩
theorem lvJoin_diff (w : World) (bl bp bf : Nat) (n f : Int) (m : Mp) (s : Pl) (h : LvAt w bl bp m) (hp : PoolAt w bp bf s) (hlt : bf < w.heap.size) (ho : onB n = true) (ht : (m.lf n.toNat).there = true) (hf : ((m.lf n.toNat).fr == f) = false) (hs : s.same (m.lf n.toNat).fr f = false) :
    Calls Tryz.prog 133 #[.pointer (some ⟨bl, 0, none⟩), .int .i64 n, .int .i64 f] w fun e w' => e = .returned (.iface 85 (.int .i64 8)) ∧ Upd (fun _ => False) w w' := by
  obtain ⟨h0, h1⟩ := (onB_iff n).1 ho
  obtain ⟨k, rfl⟩ := Int.eq_ofNat_of_zero_le h0
  rw [Int.toNat_natCast] at ht hf hs
  have hk : k < 16 := by omega
  have c0 := h.th k hk
  have c1 := h.wr k hk
  have c2 := h.fr k hk
  rw [ht] at c0
  have HS : Hid _ := hs
  clear ht hs
  go_enter Tryz.func133, Tryz.ntmps133
  go_wp2_with (go_at_call 119; refine (page_yes _ _ _ hk).mono ?_; rintro e w' ⟨rfl, rfl⟩)
  have u1 := (Upd.refl (fun _ => False) w').alloc (.cells #[.bool true, .bool (m.lf k).wr, .int .i64 (m.lf k).fr] 43)
  have b1 := LfAt.new w' 43 ⟨true, (m.lf k).wr, (m.lf k).fr⟩
  revert u1 b1
  generalize w'.alloc (.cells #[.bool true, .bool (m.lf k).wr, .int .i64 (m.lf k).fr] 43) = w1
  generalize w'.heap.size = q
  intro u1 b1
  have hp1 := hp.upd u1 (fun f => f) (fun f => f) hlt
  have d0 := u1.cell h.pool (fun f => f)
  have d1 := b1.c0
  have d2 := b1.c2
  clear c0 c1 c2
  go_quiet ((go_at_call 161; exact Calls.quiet_of (lvSame_is _ _ _ _ _ s (hp1.drewN _) HS.out)))
  go_wp2_with fail
  go_ret
  exact ⟨rfl, u1.drewN nq⟩
theorem lvJoin_yes (w : World) (bl bp bf : Nat) (n f : Int) (m : Mp) (s : Pl) (h : LvAt w bl bp m) (hp : PoolAt w bp bf s) (h1 : bl ≠ bp) (h2 : bl ≠ bf) (hlt : bf < w.heap.size) (hm : ∀ k, k < s.n → s.refs k ≤ 999999) (ho : onB n = true) (ht : (m.lf n.toNat).there = true) (hf : ((m.lf n.toNat).fr == f) = false) (hs : s.same (m.lf n.toNat).fr f = true) :
    Calls Tryz.prog 133 #[.pointer (some ⟨bl, 0, none⟩), .int .i64 n, .int .i64 f] w fun e w' => e = .returned .nilIface ∧ PoolAt w' bp bf ((s.share f 1).2.share (m.lf n.toNat).fr (-1)).2 ∧ LvAt w' bl bp { m with lf := setAt m.lf n.toNat ⟨true, false, f⟩ } ∧ Upd (fun k => k = bf ∨ k = bl) w w' := by
  obtain ⟨h0, h1'⟩ := (onB_iff n).1 ho
  obtain ⟨k, rfl⟩ := Int.eq_ofNat_of_zero_le h0
  rw [Int.toNat_natCast] at *
  have hk : k < 16 := by omega
  have c0 := h.th k hk
  have c1 := h.wr k hk
  have c2 := h.fr k hk
  have HT : Hid _ := ht
  rw [ht] at c0
  have hu : s.used f = true := by
    unfold Pl.same at hs
    simp only [Bool.and_eq_true] at hs
    exact hs.1.2
  have he : errV (s.share f 1).1 = .nilIface := by unfold Pl.share; rw [if_pos hu]; exact errV_zero
  have hm3 : ∀ k, k < (s.share f 1).2.n → (s.share f 1).2.refs k ≤ 1000000 := by
    have := share_bd (s := s) (f := f) (d := 1) (n := s.n) (B := 999998) rfl (fun f hf => by have := hm f hf; omega) (by omega)
    intro k hk
    have := this k (by rw [share_n] at hk; exact hk)
    omega
  have HS : Hid _ := hs
  have H1 : Hid _ := h1
  have H2 : Hid _ := h2
  have HM : Hid _ := hm
  have HM3 : Hid _ := hm3
  have HE : Hid _ := he
  have hbl := h.lt
  clear ht hs h1 h2 hm hu he hm3
  go_enter Tryz.func133, Tryz.ntmps133
  go_wp2_with (go_at_call 119; refine (page_yes _ _ _ hk).mono ?_; rintro e w' ⟨rfl, rfl⟩)
  have u1 := (Upd.refl (fun _ => False) w').alloc (.cells #[.bool true, .bool (m.lf k).wr, .int .i64 (m.lf k).fr] 43)
  have b1 := LfAt.new w' 43 ⟨true, (m.lf k).wr, (m.lf k).fr⟩
  revert u1 b1 hlt hbl
  generalize w'.alloc (.cells #[.bool true, .bool (m.lf k).wr, .int .i64 (m.lf k).fr] 43) = w1
  generalize hq : w'.heap.size = q
  intro hlt hbl u1 b1
  have hp1 := hp.upd u1 (fun f => f) (fun f => f) (by omega)
  have hl1 := h.upd u1 (fun f => f)
  have d0 := hl1.pool
  have d1 := b1.c0
  have d2 := b1.c2
  clear c0 c1 c2
  go_quiet ((go_at_call 161; exact Calls.quiet_of (lvSame_is _ _ _ _ _ s (hp1.drewN _) HS.out)))
  have u2 := u1.drewN nq
  have hp2 := hp1.drewN nq
  have hl2 := hl1.drewN nq
  clear u1 hp1 hl1 b1 d0 d1 d2
  revert u2 hp2 hl2
  generalize w1.drewN nq = w2
  intro u2 hp2 hl2
  have d0 := hl2.pool
  go_wp2_with fail
  refine (share_any _ _ _ _ s hp2 (fun k hk => by have := HM.out k hk; omega)).mono ?_
  rintro e w3 ⟨rfl, hp3, hu3⟩
  rw [HE.out]
  have hl3 := hl2.upd hu3 H2.out
  have hz3 : bf < w3.heap.size := by have := u2.size; have := hu3.size; omega
  clear d0 hl2 hp2
  go_wp2_with fail
  refine (leave_any _ _ _ _ k m _ hl3 hp3 H1.out H2.out hk hz3 HM3.out).mono ?_
  rintro e w4 ⟨rfl, hp4, hl4, hu4⟩
  simp only [leaveP, HT.out, if_true] at hp4
  have d1 := hl4.th k hk
  have d2 := hl4.wr k hk
  have d3 := hl4.fr k hk
  have d4 := hl4.fz (1 + k * 4 + 1)
  have d5 := hl4.fz (1 + k * 4 + 1 + 1)
  have d6 := hl4.fz (1 + k * 4 + 1 + 2)
  have h5 := hl4.setLf hk ⟨true, false, f⟩
  simp only [leaveM, setAt_twice] at h5
  have hu5 := Upd.three w4 bl (1 + k * 4 + 1) (1 + k * 4 + 1 + 1) (1 + k * 4 + 1 + 2) (.bool true) (.bool false) (.int .i64 f)
  have hp5 := hp4.upd hu5 (Ne.symm H1.out) (Ne.symm H2.out) (Nat.lt_of_lt_of_le hz3 hu4.size)
  have hu6 := (((u2.wide (T := fun k => k = bf ∨ k = bl) (fun _ f => f.elim)).trans hu3 (fun _ _ e => Or.inl e)).trans hu4 (fun _ _ e => e)).trans hu5 (fun _ _ e => Or.inr e)
  have H5 : Hid _ := h5
  have HU6 : Hid _ := hu6
  have HP5 : Hid _ := hp5
  clear h5 hu5 hp5 hu6 hl3 hu3 hp3 hp4 hu4 hl4 u2
  go_wp2_with fail
  go_ret
  exact ⟨rfl, HP5.out, H5.out, HU6.out⟩
theorem lvJoin (w : World) (bl bp bf : Nat) (n f : Int) (m m' : Mp) (s : Pl) (h : LvAt w bl bp m) (hp : PoolAt w bp bf s) (h1 : bl ≠ bp) (h2 : bl ≠ bf) (hn : 0 < s.n) (hi : Inv s m m') :
    Calls Tryz.prog 133 #[.pointer (some ⟨bl, 0, none⟩), .int .i64 n, .int .i64 f] w fun e w' => e = .returned (errV (joinR s m n f).1) ∧ PoolAt w' bp bf (joinR s m n f).2.1 ∧ LvAt w' bl bp (joinR s m n f).2.2 ∧ Upd (fun k => k = bf ∨ k = bl) w w' := by
  have hlt : bf < w.heap.size := World.block_lt_of_cell? w _ (hp.refs 0 hn)
  have hm : ∀ k, k < s.n → s.refs k ≤ 999999 := fun k hk => by have := hi.le k hk; omega
  cases ho : onB n with
  | false =>
    simp only [joinR, ho, Bool.false_eq_true, if_false, errV1]
    go_enter Tryz.func133, Tryz.ntmps133
    go_wp2_with (go_at_call 119; refine (page_no _ _ _ ho).mono ?_; rintro e w' ⟨rfl, rfl⟩)
    go_ret
    exact ⟨rfl, hp, h, Upd.refl _ _⟩
  | true =>
    cases ht : ((m.lf n.toNat).there && !((m.lf n.toNat).fr == f)) with
    | false =>
      refine (lvJoin_no w bl bp n f m h ho ht).mono ?_
      rintro e w' ⟨rfl, hu⟩
      simp only [joinR, ho, ht, if_true, Bool.false_and, Bool.false_eq_true, if_false, errV8]
      exact ⟨trivial, hp.upd hu (fun f => f) (fun f => f) hlt, h.upd hu (fun f => f), hu.wide (fun _ f => f.elim)⟩
    | true =>
      have ht' := ht
      simp only [Bool.and_eq_true, Bool.not_eq_true'] at ht'
      cases hs : s.same (m.lf n.toNat).fr f with
      | false =>
        refine (lvJoin_diff w bl bp bf n f m s h hp hlt ho ht'.1 ht'.2 hs).mono ?_
        rintro e w' ⟨rfl, hu⟩
        simp only [joinR, ho, ht, hs, if_true, Bool.and_false, Bool.false_eq_true, if_false, errV8]
        exact ⟨trivial, hp.upd hu (fun f => f) (fun f => f) hlt, h.upd hu (fun f => f), hu.wide (fun _ f => f.elim)⟩
      | true =>
        refine (lvJoin_yes w bl bp bf n f m s h hp h1 h2 hlt hm ho ht'.1 ht'.2 hs).mono ?_
        rintro e w' ⟨rfl, a1, a2, a3⟩
        simp only [joinR, ho, ht, hs, if_true, Bool.and_true, errV_zero]
        exact ⟨trivial, a1, a2, a3⟩
end Go.Proofs.YtadpibcgjgcjhaaGreat
/- Acts on pages, plainly: an error turns nothing; no error, and the number is a page's. -/
namespace Go.Proofs.YtadpibcgjgcjhaaGreat

variable {s : Pl} {m : Mp} {n f : Int} {b wt : Bool}
theorem plug_no (he : (plugR s m n).1 ≠ 0) : (plugR s m n).2 = (s, m) := by
  revert he
  unfold plugR
  repeat' split
  all_goals first | (intro _; rfl) | (intro h; exact absurd rfl h)
theorem unplug_no (he : (unplugR s m n).1 ≠ 0) : (unplugR s m n).2 = (s, m) := by
  revert he
  unfold unplugR
  repeat' split
  all_goals first | (intro _; rfl) | (intro h; exact absurd rfl h)
theorem give_no (he : (giveR s m n b).1 ≠ 0) : (giveR s m n b).2 = (s, m) := by
  revert he
  unfold giveR
  repeat' split
  all_goals first | (intro _; rfl) | (intro h; exact absurd rfl h)
theorem seal_no (he : (sealR m n).1 ≠ 0) : (sealR m n).2 = m := by
  revert he
  unfold sealR
  repeat' split
  all_goals first | (intro _; rfl) | (intro h; exact absurd rfl h)
theorem join_no (he : (joinR s m n f).1 ≠ 0) : (joinR s m n f).2 = (s, m) := by
  revert he
  unfold joinR
  repeat' split
  all_goals first | (intro _; rfl) | (intro h; exact absurd rfl h)
theorem plug_on (he : (plugR s m n).1 = 0) : onB n = true := by
  revert he
  unfold plugR
  repeat' split
  all_goals first | (intro _; assumption) | (intro h; simp at h)
theorem unplug_on (he : (unplugR s m n).1 = 0) : onB n = true := by
  revert he
  unfold unplugR
  repeat' split
  all_goals first | (intro _; assumption) | (intro h; simp at h)
theorem give_on (he : (giveR s m n b).1 = 0) : onB n = true := by
  revert he
  unfold giveR
  repeat' split
  all_goals first | (intro _; assumption) | (intro h; simp at h)
theorem seal_on (he : (sealR m n).1 = 0) : onB n = true := by
  revert he
  unfold sealR
  repeat' split
  all_goals first | (intro _; assumption) | (intro h; simp at h)
theorem join_on (he : (joinR s m n f).1 = 0) : onB n = true := by
  revert he
  unfold joinR
  repeat' split
  all_goals first | (intro _; assumption) | (intro h; simp at h)
/-- What a table's byte says, by its bits. -/
theorem byte_bits (b : Int) (h0 : 0 ≤ b) (h1 : b ≤ 255) : ((b.toNat &&& 128 : Nat) = 0 ↔ b < 128) ∧ ((b.toNat &&& 15 : Nat) : Int) = b % 16 ∧ ((b.toNat &&& 64 : Nat) = 0 ↔ b / 64 % 2 = 0) := by
  obtain ⟨k, rfl⟩ := Int.eq_ofNat_of_zero_le h0
  have hk : k < 256 := by omega
  have : ∀ k : Fin 256, ((k.val &&& 128 : Nat) = 0 ↔ (k.val < 128)) ∧ (k.val &&& 15 : Nat) = k.val % 16 ∧ ((k.val &&& 64 : Nat) = 0 ↔ k.val / 64 % 2 = 0) := by decide +kernel
  obtain ⟨a1, a2, a3⟩ := this ⟨k, hk⟩
  simp only at a1 a2 a3
  rw [Int.toNat_natCast]
  refine ⟨?_, ?_, ?_⟩
  · rw [a1]; omega
  · rw [a2]; omega
  · rw [a3]; omega
end Go.Proofs.YtadpibcgjgcjhaaGreat
/- Package guest: how a guest lies in memory; what changes a page. -/
namespace Go.Proofs.YtadpibcgjgcjhaaGreat
open Go.ChangeShapes Go.WideShapes Go.ChangeAt Go.RowKit
set_option maxRecDepth 100000
attribute [local go_sem ↓] Go.wp_at_zero Go.wp_at_succ

/-- A guest's own cells: its block bg, its pool bp, its pages bl, its cache bc. -/
structure GCell (w : World) (bg bp bl bc : Nat) (root walks : Int) : Prop where
  c0 : w.cell? ⟨bg, 0, none⟩ = some (.pointer (some ⟨bp, 0, none⟩))
  c1 : w.cell? ⟨bg, 1, none⟩ = some (.pointer (some ⟨bl, 0, none⟩))
  c2 : w.cell? ⟨bg, 2, none⟩ = some (.pointer (some ⟨bc, 0, none⟩))
  c3 : w.cell? ⟨bg, 3, none⟩ = some (.int .i64 root)
  c4 : w.cell? ⟨bg, 4, none⟩ = some (.int .i64 walks)
  fz : ∀ o, w.frozen? ⟨bg, o, none⟩ = false
theorem GCell.lt {w : World} {bg bp bl bc : Nat} {r k : Int} (h : GCell w bg bp bl bc r k) : bg < w.heap.size := World.block_lt_of_cell? w _ h.c0
theorem GCell.upd {S : Nat → Prop} {w w' : World} {bg bp bl bc : Nat} {r k : Int} (h : GCell w bg bp bl bc r k) (u : Upd S w w') (hx : ¬ S bg) : GCell w' bg bp bl bc r k :=
  ⟨u.cell h.c0 hx, u.cell h.c1 hx, u.cell h.c2 hx, u.cell h.c3 hx, u.cell h.c4 hx, fun o => by rw [World.frozen?_of_block (w := w) (u.block bg h.lt hx)]; exact h.fz o⟩
theorem GCell.setRoot {w : World} {bg bp bl bc : Nat} {r k : Int} (h : GCell w bg bp bl bc r k) (n : Int) : GCell (w.setCell ⟨bg, 3, none⟩ (.int .i64 n)) bg bp bl bc n k := by
  refine ⟨?_, ?_, ?_, World.cell?_setCell_same _ _ _ h.c3, ?_, fun o => by rw [World.frozen?_setCell]; exact h.fz o⟩
  all_goals rw [World.cell?_setCell_other _ _ _ _ (addr_ne (Or.inr (by omega)))]
  · exact h.c0
  · exact h.c1
  · exact h.c2
  · exact h.c4
theorem GCell.setWalks {w : World} {bg bp bl bc : Nat} {r k : Int} (h : GCell w bg bp bl bc r k) (n : Int) : GCell (w.setCell ⟨bg, 4, none⟩ (.int .i64 n)) bg bp bl bc r n := by
  refine ⟨?_, ?_, ?_, ?_, World.cell?_setCell_same _ _ _ h.c4, fun o => by rw [World.frozen?_setCell]; exact h.fz o⟩
  all_goals rw [World.cell?_setCell_other _ _ _ _ (addr_ne (Or.inr (by omega)))]
  · exact h.c0
  · exact h.c1
  · exact h.c2
  · exact h.c3

/-- A page is changed: by a method value, or by a closure. -/
def ByOk (w : World) (bp bf bl : Nat) (f : Nat) (av : Array Value) (code : Int) (s' : Pl) (m' : Mp) (S : Nat → Prop) (R : World → Prop) : Prop :=
  Calls Tryz.prog f av w fun e w1 => e = .returned (errV code) ∧ PoolAt w1 bp bf s' ∧ LvAt w1 bl bp m' ∧ R w1 ∧ Upd S w w1
/-- What a change ends with. -/
def ChPost (w : World) (bp bf bl bc : Nat) (code : Int) (s' : Pl) (m' : Mp) (c : List En) (S : Nat → Prop) (R : World → Prop) (e : Ending) (w' : World) : Prop :=
  e = .returned (errV code) ∧ PoolAt w' bp bf s' ∧ LvAt w' bl bp m' ∧ CaL w' bc (shows m' c) ∧ R w' ∧ Upd (fun k => S k ∨ k = bc) w w'
/-- The blocks of a guest are apart. -/
def GAp (bg bp bf bl bc : Nat) : Prop := bg ≠ bp ∧ bg ≠ bf ∧ bg ≠ bl ∧ bg ≠ bc ∧ bl ≠ bp ∧ bl ≠ bf ∧ bl ≠ bc ∧ bc ≠ bp ∧ bc ≠ bf ∧ bp ≠ bf
theorem gLeaf_on (w : World) (bl bp k : Nat) (m : Mp) (h : LvAt w bl bp m) (hk : k < 16) :
    Calls Tryz.prog 117 #[.pointer (some ⟨bl, 0, none⟩), .int .i64 k] w fun e w' => e = .returned (.tuple #[.agg #[.bool (m.lf k).there, .bool (m.lf k).wr, .int .i64 (m.lf k).fr], .nilIface]) ∧ Upd (fun _ => False) w w' := by
  have e1 : onB (k : Int) = true := by simp [onB]; omega
  have e2 : lfR m (k : Int) = (m.lf k, 0) := by simp [lfR, e1]
  have := lvLeaf w bl bp k m h
  rwa [e2, errV_zero] at this

theorem change_any (w : World) (bg bp bf bl bc : Nat) (n r k : Int) (f : Nat) (bd lb : Array Value) (code : Int) (s' : Pl) (m m' : Mp) (c : List En) (S : Nat → Prop) (R : World → Prop) (h : GCell w bg bp bl bc r k) (hc : CaL w bc (shows m c)) (ha : GAp bg bp bf bl bc)
    (eg : ∀ args w, (callFunc f args).run Tryz.prog w = .ok (.enter f args) w) (hby : ByOk w bp bf bl f (bd.push (.int .i64 n) ++ lb) code s' m' S R) (hSg : ¬ S bg) (hSc : ¬ S bc) (hlf : ∀ k, k ≠ n.toNat → m'.lf k = m.lf k) (hno : code ≠ 0 → m' = m) (hon : code = 0 → onB n = true) (hen : ∀ x ∈ c, 0 ≤ x.dest) (hn : 0 < s'.n)
    (hR : ∀ w1 w2, R w1 → Upd (fun k => k = bc) w1 w2 → R w2) :
    Calls Tryz.prog 45 #[.pointer (some ⟨bg, 0, none⟩), .int .i64 n, .func (.func f) bd lb] w (ChPost w bp bf bl bc code s' m' c S R) := by
  have HC : Hid (CaL w bc (shows m c)) := hc
  have HH : Hid _ := h
  have HA : Hid (GAp bg bp bf bl bc) := ha
  have HR : Hid _ := hR
  have HS : Hid (¬ S bg ∧ ¬ S bc) := ⟨hSg, hSc⟩
  unfold ByOk at hby
  clear hc h ha hR hSg hSc
  by_cases h0 : code = 0
  · subst h0
    rw [errV_zero] at hby
    have HBY : Hid _ := hby
    have ho := hon rfl
    obtain ⟨q0, q1⟩ := (onB_iff n).1 ho
    obtain ⟨j, rfl⟩ := Int.eq_ofNat_of_zero_le q0
    have hj : j < 16 := by omega
    have HLF : Hid _ := hlf
    have HEN : Hid _ := hen
    clear ho hon hno q0 q1 hlf hen hby
    go_enter Tryz.func45, Tryz.ntmps45
    go_wp2_with (go_at_fn f; refine Calls.mono HBY.out ?_; rintro e w1 ⟨rfl, hp1, hl1, hr1, hu1⟩; have g1 := (HH.out.upd hu1 HS.out.1).c1; have HL1 : Hid _ := hl1; have HP1 : Hid _ := hp1; have HR1 : Hid _ := hr1; have HU1 : Hid _ := hu1; clear hl1 hp1 hr1 hu1)
    refine (gLeaf_on w1 bl bp j m' HL1.out hj).mono ?_
    rintro e w2 ⟨rfl, hu2⟩
    have hla := LfAt.new w2 43 (m'.lf j)
    have hu3 := hu2.alloc (.cells #[.bool (m'.lf j).there, .bool (m'.lf j).wr, .int .i64 (m'.lf j).fr] 43)
    have hz : bc < w2.heap.size := Nat.lt_of_lt_of_le HC.out.lt (Nat.le_trans HU1.out.size hu2.size)
    clear g1 hu2
    go_wp2_with fail
    revert hla hu3 hz
    generalize w2.alloc (.cells #[.bool (m'.lf j).there, .bool (m'.lf j).wr, .int .i64 (m'.lf j).fr] 43) = w3
    generalize w2.heap.size = q
    intro hla hu3 hz
    have hu13 := HU1.out.trans (T := fun _ => False) hu3 (fun _ _ f => f.elim)
    have g2 := (HH.out.upd hu13 HS.out.1).c2
    have HC3 : Hid (CaL w3 bc (shows m c)) := HC.out.upd hu13 HS.out.2
    have HU3 : Hid _ := hu3
    have HU13 : Hid _ := hu13
    obtain ⟨y0, y1, y2⟩ := hla
    have nq : ¬ q = bc := by omega
    clear hu3 hu13
    go_region_held3 (fun w' => w'.cell? ⟨bg, 2, none⟩ = some (.pointer (some ⟨bc, 0, none⟩)) ∧ w'.cell? ⟨q, 0, none⟩ = some (.bool (m'.lf j).there) ∧ w'.cell? ⟨q, 1, none⟩ = some (.bool (m'.lf j).wr) ∧ w'.cell? ⟨q, 2, none⟩ = some (.int .i64 (m'.lf j).fr)) (first | exact ⟨g2, y0, y1, y2⟩ | exact h4c)
      ((go_at_call 118; refine (kPoint_any _ bc (shows m c) (j : Int) (m'.lf j) (by first | exact HC3.out | exact HC3.out.upd (Upd.refl (fun _ => False) w3).drew (fun f => f))).mono ?_; rintro e w4 ⟨rfl, hc4, hu4⟩; have h4c : w4.cell? ⟨bg, 2, none⟩ = some (.pointer (some ⟨bc, 0, none⟩)) ∧ w4.cell? ⟨q, 0, none⟩ = some (.bool (m'.lf j).there) ∧ w4.cell? ⟨q, 1, none⟩ = some (.bool (m'.lf j).wr) ∧ w4.cell? ⟨q, 2, none⟩ = some (.int .i64 (m'.lf j).fr) := ⟨hu4.cell g2 (fun e => HA.out.2.2.2.1 e), hu4.cell y0 nq, hu4.cell y1 nq, hu4.cell y2 nq⟩))
    have hu4' : Upd (fun k => k = bc) w1 w4 := ((HU3.out.wide (T := fun k => k = bc) (fun _ f => f.elim)).drew).trans hu4 (fun _ _ e => e)
    have hpt := shows_point m m' c j (fun k hk => HLF.out k (by simpa using hk)) HEN.out
    rw [hpt] at hc4
    have HC4 : Hid (CaL w4 bc (shows m' c)) := hc4
    have HU4 : Hid _ := hu4'
    clear hc4 hu4 hu4' hpt h4c g2 y0 y1 y2
    go_wp2_with fail
    go_ret
    have d := HA.out
    unfold GAp at d
    have hlt : bf < w1.heap.size := HP1.out.lt hn
    exact ⟨by rw [errV_zero]; rfl, HP1.out.upd HU4.out (fun e => by omega) (fun e => by omega) hlt, HL1.out.upd HU4.out (fun e => by omega), HC4.out, HR.out _ _ HR1.out HU4.out, (HU1.out.wide (T := fun k => S k ∨ k = bc) (fun _ e => Or.inl e)).trans HU4.out (fun _ _ e => Or.inr e)⟩
  · have hb := hno h0
    subst hb
    have he : errV code = .iface 85 (.int .i64 code) := by simp [errV, h0]
    unfold ChPost
    rw [he] at hby ⊢
    have HBY : Hid _ := hby
    clear hby hno hon hlf hen he
    go_enter Tryz.func45, Tryz.ntmps45
    go_wp2_with (go_at_fn f; refine Calls.mono HBY.out ?_; rintro e w1 ⟨rfl, hp1, hl1, hr1, hu1⟩)
    go_ret
    exact ⟨rfl, hp1, hl1, HC.out.upd hu1 HS.out.2, hr1, hu1.wide (fun _ e => Or.inl e)⟩
end Go.Proofs.YtadpibcgjgcjhaaGreat
/- The document's answer for chapter 4: SetRoot, ForgetAll, Cached. -/
namespace Go.Proofs.YtadpibcgjgcjhaaGreat
open Go.ChangeShapes Go.WideShapes Go.ChangeAt Go.RowKit
set_option maxRecDepth 100000
attribute [local go_sem ↓] Go.wp_at_zero Go.wp_at_succ

theorem gRoot_any (w : World) (bg bm base : Nat) (v : Value) (g : Gs) (n : Int) (h : RGu w bg bm base v g) :
    Calls Tryz.prog 51 #[.pointer (some ⟨bg, 0, none⟩), .int .i64 n] w fun e w' => e = .returned (.int .i64 (gRoot g n).1) ∧ RGu w' bg bm base v (gRoot g n).2 ∧ Upd (fun k => k = bg) w w' := by
  have c66 := h.c66
  have fz := h.mp.fz 66
  by_cases h1 : n < -1
  · have d1 : decide (n < -1) = true := by simp; exact h1
    have hg : gRoot g n = (1, g) := by unfold gRoot; rw [if_pos (Or.inl h1)]
    rw [hg]
    go_enter Tryz.func51, Tryz.ntmps51
    go_wp2_with fail
    go_ret
    exact ⟨rfl, h, Upd.refl _ _⟩
  · have d1 : decide (n < -1) = false := by simp; omega
    by_cases h2 : 15 < n
    · have d2 : decide (15 < n) = true := by simp; exact h2
      have hg : gRoot g n = (1, g) := by unfold gRoot; rw [if_pos (Or.inr h2)]
      rw [hg]
      go_enter Tryz.func51, Tryz.ntmps51
      go_wp2_with fail
      go_ret
      exact ⟨rfl, h, Upd.refl _ _⟩
    · have d2 : decide (15 < n) = false := by simp; omega
      have hg : gRoot g n = (0, { g with root := n }) := by unfold gRoot; rw [if_neg (by omega)]
      rw [hg]
      have HS : Hid _ := h.setRoot n
      clear h
      go_enter Tryz.func51, Tryz.ntmps51
      go_wp2_with fail
      go_ret
      exact ⟨rfl, HS.out, Upd.one _ _ _ _⟩
theorem gForgetAll_any (w : World) (bg bm base : Nat) (v : Value) (g : Gs) (n : Int) (h : RGu w bg bm base v g) (hbm : bm < w.heap.size) (hb : base ≤ w.heap.size) (hl : g.c.length ≤ 4) :
    Calls Tryz.prog 54 #[.pointer (some ⟨bg, 0, none⟩), .int .i64 n] w fun e w' => ∃ v', e = .returned (.int .i64 (gForgetAll g n).1) ∧ RGu w' bg bm base v' (gForgetAll g n).2 ∧ Upd (fun k => k = bg) w w' ∧ Fr w v v' := by
  have c65 := h.c65
  have HH : Hid _ := h
  have hlt := h.mp.lt
  clear h
  cases ho : onB n with
  | false =>
    have hg : gForgetAll g n = (1, g) := by simp [gForgetAll, ho]
    rw [hg]
    go_enter Tryz.func54, Tryz.ntmps54
    go_wp2_with fail
    refine (on_any w n).mono ?_
    rintro e w1 ⟨rfl, hw1⟩
    subst hw1
    rw [ho]
    go_wp2_with fail
    go_ret
    exact ⟨v, rfl, HH.out, Upd.refl _ _, Fr.refl _ _⟩
  | true =>
    have hg : gForgetAll g n = (0, { g with c := keepTo (fun i => (atE g.c i).root != n) g.c g.c.length }) := by simp [gForgetAll, ho]
    rw [hg]
    go_enter Tryz.func54, Tryz.ntmps54
    go_wp2_with fail
    refine (on_any w n).mono ?_
    rintro e w1 ⟨rfl, hw1⟩
    subst hw1
    rw [ho]
    go_wp2_with fail
    refine (cForget_any w1 base v g.c n HH.out.sl (by omega)).mono ?_
    rintro e w2 ⟨v2, rfl, hs2, hu2⟩
    obtain ⟨a2, cap2, rfl, _⟩ := hs2.form
    have h2 := HH.out.upd hu2 (fun f => f) (fun _ _ f => f)
    have d65 := h2.c65
    have fz := h2.mp.fz 65
    have HS : Hid _ := h2.setC hs2 hb hlt hbm
    have HFR : Hid (Fr w1 v _) := Fr.of hs2 (Nat.le_refl _)
    have HU : Hid _ := hu2
    clear hs2 hu2 h2 c65
    generalize (keepTo (fun i => (atE g.c i).root != n) g.c g.c.length).length = kl at *
    go_wp2_with fail
    go_ret
    exact ⟨_, rfl, HS.out, (HU.out.wide (T := fun k => k = bg) (fun _ f => f.elim)).trans (Upd.one _ _ _ _) (fun _ _ e => e), HFR.out⟩
end Go.Proofs.YtadpibcgjgcjhaaGreat
/- The document's answer for chapter 4: At. -/
namespace Go.Proofs.YtadpibcgjgcjhaaGreat
open Go.ChangeShapes Go.WideShapes Go.ChangeAt Go.RowKit
set_option maxRecDepth 100000
attribute [local go_sem ↓] Go.wp_at_zero Go.wp_at_succ

theorem gAt_out (w : World) (bg : Nat) (addr : Int) (wt : Bool) (ho : addr < 0 ∨ 255 < addr) :
    Calls Tryz.prog 123 #[.pointer (some ⟨bg, 0, none⟩), .int .i64 addr, .bool wt] w fun e w' => e = .returned (.tuple #[.int .i64 0, .int .i64 1]) ∧ w' = w := by
  by_cases h1 : addr < 0
  · have d1 : decide (addr < 0) = true := by simp; exact h1
    go_enter Tryz.func123, Tryz.ntmps123
    go_wp2_with fail
    go_ret2
    exact ⟨rfl, rfl⟩
  · have d1 : decide (addr < 0) = false := by simp; omega
    have d2 : decide (255 < addr) = true := by simp; omega
    go_enter Tryz.func123, Tryz.ntmps123
    go_wp2_with fail
    go_ret2
    exact ⟨rfl, rfl⟩
/-- Touch, as part of a guest. -/
theorem gTouch_any (w : World) (bg bm base : Nat) (v : Value) (g : Gs) (s : Pl) (b : Mp) (n : Int) (wt : Bool) (h : RGu w bg bm base v g) (hr : RefAt w bm s) (hne : bg ≠ bm) (hi : Inv s g.m b) :
    Calls Tryz.prog 158 #[.pointer (some ⟨bg, 0, none⟩), .int .i64 n, .bool wt] w fun e w' =>
      e = .returned (.tuple #[.int .i64 (gTouch s g n wt).1.1, .bool (touchR s g.m n wt).1.2.1, .int .i64 (gTouch s g n wt).1.2]) ∧ RefAt w' bm (gTouch s g n wt).2.1 ∧ RGu w' bg bm base v (gTouch s g n wt).2.2 ∧ Upd (fun k => k = bm ∨ k = bg) w w' := by
  have hle := hi.le
  have := rTouch_any w bg bm n wt _ s h.mp hr hne (fun f hf => by have := hle f hf; omega) (fun k hk ht => hi.ok k hk ht)
  rw [touch_rest] at this
  refine this.mono ?_
  rintro e w' ⟨he, h1, h2, hu⟩
  exact ⟨he, h1, h.map hu h2, hu⟩
theorem gAt_off (w : World) (bg bm base : Nat) (v : Value) (g : Gs) (s : Pl) (b : Mp) (k : Nat) (wt : Bool) (h : RGu w bg bm base v g) (hr : RefAt w bm s) (hne : bg ≠ bm) (hi : Inv s g.m b) (hk : k ≤ 255) (hroot : g.root = -1) :
    Calls Tryz.prog 123 #[.pointer (some ⟨bg, 0, none⟩), .int .i64 (k : Int), .bool wt] w fun e w' =>
      e = .returned (.tuple #[.int .i64 (gTouch s g ((k : Int) / 16) wt).1.1, .int .i64 (gTouch s g ((k : Int) / 16) wt).1.2]) ∧ RefAt w' bm (gTouch s g ((k : Int) / 16) wt).2.1 ∧ RGu w' bg bm base v (gTouch s g ((k : Int) / 16) wt).2.2 ∧ Upd (fun k => k = bm ∨ k = bg) w w' := by
  have c66 := h.c66
  rw [hroot] at c66
  have HH : Hid _ := h
  have HR : Hid _ := hr
  have HI : Hid _ := hi
  have d1 : decide ((k : Int) < 0) = false := by simp
  have d2 : decide ((255 : Int) < (k : Int)) = false := by simp; omega
  clear h hr hi
  go_enter Tryz.func123, Tryz.ntmps123
  go_wp2_with fail
  refine (gTouch_any w bg bm base v g s b _ wt HH.out HR.out hne HI.out).mono ?_
  rintro e w1 ⟨rfl, hr1, hg1, hu1⟩
  generalize hq : gTouch s g ((k : Int) / 16) wt = q at *
  have HQ : Hid _ := hq
  have H1 : Hid _ := hr1
  have H2 : Hid _ := hg1
  have H3 : Hid _ := hu1
  clear hr1 hg1 hu1 hq HH HR HI
  go_wp2_with fail
  go_ret2
  rw [HQ.out]
  exact ⟨rfl, H1.out, H2.out, H3.out⟩
/-- An entry is laid in a box of its own. -/
theorem box_entry (w : World) (x : En) (ty : TypeId) : (∀ j v, (enCells x)[j]? = some v → ((((((((w.alloc (.cells #[.int .i64 0, .int .i64 0, .int .i64 0, .bool false, .bool false, .bool false, .int .i64 0] ty)).setCell ⟨w.heap.size, 0, none⟩ (.int .i64 x.root)).setCell ⟨w.heap.size, 1, none⟩ (.int .i64 x.page)).setCell ⟨w.heap.size, 2, none⟩ (.int .i64 x.dest)).setCell ⟨w.heap.size, 3, none⟩ (.bool x.may)).setCell ⟨w.heap.size, 4, none⟩ (.bool x.lf.there)).setCell ⟨w.heap.size, 5, none⟩ (.bool x.lf.wr)).setCell ⟨w.heap.size, 6, none⟩ (.int .i64 x.lf.fr)).cell? ⟨w.heap.size, j, none⟩ = some v) ∧ Upd (fun _ => False) w ((((((((w.alloc (.cells #[.int .i64 0, .int .i64 0, .int .i64 0, .bool false, .bool false, .bool false, .int .i64 0] ty)).setCell ⟨w.heap.size, 0, none⟩ (.int .i64 x.root)).setCell ⟨w.heap.size, 1, none⟩ (.int .i64 x.page)).setCell ⟨w.heap.size, 2, none⟩ (.int .i64 x.dest)).setCell ⟨w.heap.size, 3, none⟩ (.bool x.may)).setCell ⟨w.heap.size, 4, none⟩ (.bool x.lf.there)).setCell ⟨w.heap.size, 5, none⟩ (.bool x.lf.wr)).setCell ⟨w.heap.size, 6, none⟩ (.int .i64 x.lf.fr)) := by
  refine ⟨fun j v hj => ?_, ?_⟩
  · have := World.rangeAt_setCells_same (w.alloc (.cells #[.int .i64 0, .int .i64 0, .int .i64 0, .bool false, .bool false, .bool false, .int .i64 0] ty)) w.heap.size 0 (enCells x) (fun o ho => ⟨by
      have ho : o < 7 := ho
      rw [Nat.zero_add, World.cell?_alloc_new, Array.getElem?_eq_getElem (show o < (#[.int .i64 0, .int .i64 0, .int .i64 0, .bool false, .bool false, .bool false, .int .i64 0] : Array Value).size from ho)]
      rfl, World.frozen?_alloc_new _ _ _ _⟩) j v hj
    rw [Nat.zero_add] at this
    exact this
  · have := ((Upd.refl (fun _ => False) w).alloc (.cells #[.int .i64 0, .int .i64 0, .int .i64 0, .bool false, .bool false, .bool false, .int .i64 0] ty)).trans (T := fun k => k = w.heap.size) (Upd.row (w.alloc (.cells #[.int .i64 0, .int .i64 0, .int .i64 0, .bool false, .bool false, .bool false, .int .i64 0] ty)) w.heap.size 0 (enCells x)) (fun i hi e => by omega)
    exact this
set_option maxHeartbeats 4000000 in
theorem gAt_found (w : World) (bg bm base : Nat) (v : Value) (g : Gs) (s : Pl) (b : Mp) (k : Nat) (wt : Bool) (h : RGu w bg bm base v g) (hr : RefAt w bm s) (hne : bg ≠ bm) (hi : Inv s g.m b) (hk : k ≤ 255) (hroot : g.root ≠ -1) (j : Nat) (hj : j < g.c.length) (hf : fndI g.c g.root ((k : Int) / 16) = j) (hl : g.c.length ≤ 4) :
    Calls Tryz.prog 123 #[.pointer (some ⟨bg, 0, none⟩), .int .i64 (k : Int), .bool wt] w fun e w' =>
      e = .returned (.tuple #[.int .i64 (gStep s g (atE g.c j) true wt).1.1, .int .i64 (gStep s g (atE g.c j) true wt).1.2]) ∧ RefAt w' bm (gStep s g (atE g.c j) true wt).2.1 ∧ RGu w' bg bm base v (gStep s g (atE g.c j) true wt).2.2 ∧ Upd (fun k => k = bm ∨ k = bg) w w' := by
  have c65 := h.c65
  have c66 := h.c66
  have HH : Hid _ := h
  have HR : Hid _ := hr
  have HI : Hid _ := hi
  have HF : Hid _ := hf
  have d1 : decide ((k : Int) < 0) = false := by simp
  have d2 : decide ((255 : Int) < (k : Int)) = false := by simp; omega
  have d3 : (g.root == -1) = false := beq_eq_false_iff_ne.2 hroot
  clear h hr hi hf hroot
  go_enter Tryz.func123, Tryz.ntmps123
  go_wp2_with fail
  go_region_held3 (fun w' => w'.cell? ⟨bg, 65, none⟩ = some v ∧ w'.cell? ⟨bg, 66, none⟩ = some (.int .i64 g.root)) (first | exact ⟨c65, c66⟩)
    (first
      | (go_at_call 127; refine (cFind_any _ base v g.c g.root _ (HH.out.sl.upd ((Upd.refl (fun _ => False) w).drew) (fun _ _ f => f)) (by omega)).mono ?_; rintro e w1 ⟨rfl, hw1⟩; subst hw1; rw [HF.out]))
  have hu0 := (Upd.refl (fun _ => False) w).drew
  have HH1 : Hid _ := HH.out.upd hu0 (fun f => f) (fun _ _ f => f)
  have HR1 : Hid _ := HR.out.upd hu0 (fun f => f)
  have HU1 : Hid _ := hu0
  have c65' : w.drew.cell? ⟨bg, 65, none⟩ = some v := c65
  clear c65 c66 HH HR hu0 HF
  revert HU1
  revert HR1
  revert HH1
  revert c65'
  generalize w.drew = w1
  intro c65 HH1 HR1 HU1
  obtain ⟨va, vcap, rfl, hform⟩ := HH1.out.sl.form
  obtain ⟨gb, rfl, _, hglt, hcell⟩ := hform j hj
  have e0 : w1.cell? ⟨gb, j * 7, none⟩ = some (.int .i64 (atE g.c j).root) := hcell 0 (by omega)
  have e1 : w1.cell? ⟨gb, j * 7 + 1, none⟩ = some (.int .i64 (atE g.c j).page) := hcell 1 (by omega)
  have e2 : w1.cell? ⟨gb, j * 7 + 2, none⟩ = some (.int .i64 (atE g.c j).dest) := hcell 2 (by omega)
  have e3 : w1.cell? ⟨gb, j * 7 + 3, none⟩ = some (.bool (atE g.c j).may) := hcell 3 (by omega)
  have e4 : w1.cell? ⟨gb, j * 7 + 4, none⟩ = some (.bool (atE g.c j).lf.there) := hcell 4 (by omega)
  have e5 : w1.cell? ⟨gb, j * 7 + 5, none⟩ = some (.bool (atE g.c j).lf.wr) := hcell 5 (by omega)
  have e6 : w1.cell? ⟨gb, j * 7 + 6, none⟩ = some (.int .i64 (atE g.c j).lf.fr) := hcell 6 (by omega)
  clear hcell hform
  have hua := (Upd.refl (fun _ => False) w1).alloc (.cells #[.int .i64 0, .int .i64 0, .int .i64 0, .bool false, .bool false, .bool false, .int .i64 0] 94)
  have c65a := hua.cell c65 (fun f => f)
  have e0 := hua.cell e0 (fun f => f)
  have e1 := hua.cell e1 (fun f => f)
  have e2 := hua.cell e2 (fun f => f)
  have e3 := hua.cell e3 (fun f => f)
  have e4 := hua.cell e4 (fun f => f)
  have e5 := hua.cell e5 (fun f => f)
  have e6 := hua.cell e6 (fun f => f)
  clear hua c65
  generalize hy : atE g.c j = y at *
  have HY : Hid _ := hy
  clear hy
  have j0 : (0 : Int) ≤ (j : Int) := by omega
  have j1 : (j : Int) < g.c.length := by omega
  have dj : decide ((j : Int) < 0) = false := by simp
  go_upto_region 19 with fail
  have hua := (Upd.refl (fun _ => False) w1).alloc (.cells #[.int .i64 y.root, .int .i64 y.page, .int .i64 y.dest, .bool y.may, .bool y.lf.there, .bool y.lf.wr, .int .i64 y.lf.fr] 94)
  have HH2 : Hid _ := HH1.out.upd hua (fun f => f) (fun _ _ f => f)
  have HR2 : Hid _ := HR1.out.upd hua (fun f => f)
  have HU2 : Hid _ := HU1.out.trans hua (fun _ _ f => f)
  have HX : Hid (∀ j, (w1.alloc (.cells #[.int .i64 y.root, .int .i64 y.page, .int .i64 y.dest, .bool y.may, .bool y.lf.there, .bool y.lf.wr, .int .i64 y.lf.fr] 94)).cell? ⟨w1.heap.size, j, none⟩ = (enCells y)[j]?) := by
    show ∀ j, _
    intro j
    rw [World.cell?_alloc_new]
    show (enCells y).toArray[j]? = _
    simp
  have hqg : bg < w1.heap.size := HH1.out.mp.lt
  have hqm : bm < w1.heap.size := World.block_lt_of_cell? w1 _ HR1.out.num
  have HZ2 : Hid ((w1.alloc (.cells #[.int .i64 y.root, .int .i64 y.page, .int .i64 y.dest, .bool y.may, .bool y.lf.there, .bool y.lf.wr, .int .i64 y.lf.fr] 94)).heap.size = w1.heap.size + 1) := by show _ = _; simp
  clear hua HH1 HR1 HU1 e0 e1 e2 e3 e4 e5 e6 c65a
  revert HZ2
  revert HX
  revert HU2
  revert HR2
  revert HH2
  generalize (w1.alloc (.cells #[.int .i64 y.root, .int .i64 y.page, .int .i64 y.dest, .bool y.may, .bool y.lf.there, .bool y.lf.wr, .int .i64 y.lf.fr] 94)) = w2
  generalize hqq : w1.heap.size = q at *
  clear hqq
  intro HH2 HR2 HU2 HX HZ2
  have x2 : w2.cell? ⟨q, 2, none⟩ = some (.int .i64 y.dest) := HX.out 2
  have x3 : w2.cell? ⟨q, 3, none⟩ = some (.bool y.may) := HX.out 3
  have hw3 := HX.out
  cases hwm : (wt && !y.may) with
  | true =>
    have hst : gStep s g y true wt = ((0, 5), s, g) := by unfold gStep; rw [hwm]; rfl
    have HST : Hid _ := hst
    obtain ⟨hw1, hw2⟩ : wt = true ∧ y.may = false := by simpa using hwm
    subst hw1
    rw [hw2] at x3
    clear hst hwm hw3
    go_wp2_with fail
    go_ret2
    rw [HY.out, HST.out]
    exact ⟨rfl, HR2.out, HH2.out, HU2.out.wide (fun _ f => f.elim)⟩
  | false =>
    have nq : ¬ (q = bm ∨ q = bg) := by omega
    have hst : gStep s g y true wt = if 0 < (gTouch s g y.dest wt).1.2 then ((0, (gTouch s g y.dest wt).1.2), (gTouch s g y.dest wt).2) else (((gTouch s g y.dest wt).1.1, 0), (gTouch s g y.dest wt).2.1, if true then (gTouch s g y.dest wt).2.2 else { (gTouch s g y.dest wt).2.2 with c := putC (gTouch s g y.dest wt).2.2.c y }) := by unfold gStep; rw [hwm]; rfl
    have HST : Hid _ := hst
    have hud := (Upd.refl (fun _ => False) w2).drew
    have HHd : Hid _ := HH2.out.upd hud (fun f => f) (fun _ _ f => f)
    have HRd : Hid _ := HR2.out.upd hud (fun f => f)
    have HUd : Hid _ := HU2.out.trans hud (fun _ _ f => f)
    clear hst hud HH2 HR2 HU2 hw3
    rcases (show wt = false ∨ (wt = true ∧ y.may = true) by cases wt <;> simp_all) with hwt | ⟨hwt, hmy⟩
    · subst hwt
      clear hwm x3
      go_wp2_with fail
      go_region_held3 (fun w' => w'.cell? ⟨q, 2, none⟩ = some (.int .i64 y.dest)) (first | exact x2 | exact x2t)
        (first
          | (go_at_call 158; refine (gTouch_any _ bg bm base _ g s b _ _ HHd.out HRd.out hne HI.out).mono ?_; rintro e w3 ⟨rfl, hr3, hg3, hu3⟩; have x2t := hu3.cell (by exact x2) nq))
      have H1 : Hid _ := hr3
      have H2 : Hid _ := hg3
      have H3 : Hid _ := (HUd.out.wide (T := fun k => k = bm ∨ k = bg) (fun _ f => f.elim)).trans hu3 (fun _ _ e => e)
      have hux := hu3
      clear hr3 hg3 HHd HRd HUd
      generalize hqt : gTouch s g y.dest _ = t at *
      clear hqt
      generalize (touchR s g.m y.dest _).1.2.1 = mv
      by_cases he : 0 < t.1.2
      · have d5 : decide (0 < t.1.2) = true := by simp; exact he
        rw [if_pos he] at HST
        clear hux
        go_wp2_with fail
        go_ret2
        rw [HY.out, HST.out]
        exact ⟨rfl, H1.out, H2.out, H3.out⟩
      · have d5 : decide (0 < t.1.2) = false := by simp; omega
        rw [if_neg he] at HST
        clear hux
        go_wp2_with fail
        go_ret2
        rw [HY.out, HST.out]
        exact ⟨rfl, H1.out, H2.out, H3.out⟩
    · subst hwt
      rw [hmy] at x3
      clear hwm hmy
      go_wp2_with fail
      go_region_held3 (fun w' => w'.cell? ⟨q, 2, none⟩ = some (.int .i64 y.dest)) (first | exact x2 | exact x2t)
        (first
          | (go_at_call 158; refine (gTouch_any _ bg bm base _ g s b _ _ HHd.out HRd.out hne HI.out).mono ?_; rintro e w3 ⟨rfl, hr3, hg3, hu3⟩; have x2t := hu3.cell (by exact x2) nq))
      have H1 : Hid _ := hr3
      have H2 : Hid _ := hg3
      have H3 : Hid _ := (HUd.out.wide (T := fun k => k = bm ∨ k = bg) (fun _ f => f.elim)).trans hu3 (fun _ _ e => e)
      have hux := hu3
      clear hr3 hg3 HHd HRd HUd
      generalize hqt : gTouch s g y.dest _ = t at *
      clear hqt
      generalize (touchR s g.m y.dest _).1.2.1 = mv
      by_cases he : 0 < t.1.2
      · have d5 : decide (0 < t.1.2) = true := by simp; exact he
        rw [if_pos he] at HST
        clear hux
        go_wp2_with fail
        go_ret2
        rw [HY.out, HST.out]
        exact ⟨rfl, H1.out, H2.out, H3.out⟩
      · have d5 : decide (0 < t.1.2) = false := by simp; omega
        rw [if_neg he] at HST
        clear hux
        go_wp2_with fail
        go_ret2
        rw [HY.out, HST.out]
        exact ⟨rfl, H1.out, H2.out, H3.out⟩
end Go.Proofs.YtadpibcgjgcjhaaGreat
