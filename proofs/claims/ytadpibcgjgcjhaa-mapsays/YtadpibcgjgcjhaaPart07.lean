/- Package leaves: what Join, New and Copy answer and turn. -/
import Derived.Test.YtadpibcgjgcjhaaPart06
import Derived.Test.YtadpibcgjgcjhaaPart03
import Derived.Deep.Slices
import Derived.ShutString
import Derived.ChangeOld
import Derived.Below
namespace Go.Proofs.Ytadpibcgjgcjhaa
open Go.ChangeShapes Go.WideShapes Go.ChangeAt Go.RowKit
set_option maxRecDepth 100000
attribute [local go_sem ↓] Go.wp_at_zero Go.wp_at_succ

/-- The pages' cells, in their order. -/
def pgCells (m : Mp) : List Value := [.int .i64 (m.st 0), .bool (m.lf 0).there, .bool (m.lf 0).wr, .int .i64 (m.lf 0).fr, .int .i64 (m.st 1), .bool (m.lf 1).there, .bool (m.lf 1).wr, .int .i64 (m.lf 1).fr, .int .i64 (m.st 2), .bool (m.lf 2).there, .bool (m.lf 2).wr, .int .i64 (m.lf 2).fr, .int .i64 (m.st 3), .bool (m.lf 3).there, .bool (m.lf 3).wr, .int .i64 (m.lf 3).fr, .int .i64 (m.st 4), .bool (m.lf 4).there, .bool (m.lf 4).wr, .int .i64 (m.lf 4).fr, .int .i64 (m.st 5), .bool (m.lf 5).there, .bool (m.lf 5).wr, .int .i64 (m.lf 5).fr, .int .i64 (m.st 6), .bool (m.lf 6).there, .bool (m.lf 6).wr, .int .i64 (m.lf 6).fr, .int .i64 (m.st 7), .bool (m.lf 7).there, .bool (m.lf 7).wr, .int .i64 (m.lf 7).fr, .int .i64 (m.st 8), .bool (m.lf 8).there, .bool (m.lf 8).wr, .int .i64 (m.lf 8).fr, .int .i64 (m.st 9), .bool (m.lf 9).there, .bool (m.lf 9).wr, .int .i64 (m.lf 9).fr, .int .i64 (m.st 10), .bool (m.lf 10).there, .bool (m.lf 10).wr, .int .i64 (m.lf 10).fr, .int .i64 (m.st 11), .bool (m.lf 11).there, .bool (m.lf 11).wr, .int .i64 (m.lf 11).fr, .int .i64 (m.st 12), .bool (m.lf 12).there, .bool (m.lf 12).wr, .int .i64 (m.lf 12).fr, .int .i64 (m.st 13), .bool (m.lf 13).there, .bool (m.lf 13).wr, .int .i64 (m.lf 13).fr, .int .i64 (m.st 14), .bool (m.lf 14).there, .bool (m.lf 14).wr, .int .i64 (m.lf 14).fr, .int .i64 (m.st 15), .bool (m.lf 15).there, .bool (m.lf 15).wr, .int .i64 (m.lf 15).fr]
theorem pg_st (m : Mp) : ∀ n, n < 16 → (pgCells m)[n * 4]? = some (.int .i64 (m.st n))
  | 0, _ => rfl
  | 1, _ => rfl
  | 2, _ => rfl
  | 3, _ => rfl
  | 4, _ => rfl
  | 5, _ => rfl
  | 6, _ => rfl
  | 7, _ => rfl
  | 8, _ => rfl
  | 9, _ => rfl
  | 10, _ => rfl
  | 11, _ => rfl
  | 12, _ => rfl
  | 13, _ => rfl
  | 14, _ => rfl
  | 15, _ => rfl
  | n + 16, h => absurd h (by omega)
theorem pg_th (m : Mp) : ∀ n, n < 16 → (pgCells m)[n * 4 + 1]? = some (.bool (m.lf n).there)
  | 0, _ => rfl
  | 1, _ => rfl
  | 2, _ => rfl
  | 3, _ => rfl
  | 4, _ => rfl
  | 5, _ => rfl
  | 6, _ => rfl
  | 7, _ => rfl
  | 8, _ => rfl
  | 9, _ => rfl
  | 10, _ => rfl
  | 11, _ => rfl
  | 12, _ => rfl
  | 13, _ => rfl
  | 14, _ => rfl
  | 15, _ => rfl
  | n + 16, h => absurd h (by omega)
theorem pg_wr (m : Mp) : ∀ n, n < 16 → (pgCells m)[n * 4 + 2]? = some (.bool (m.lf n).wr)
  | 0, _ => rfl
  | 1, _ => rfl
  | 2, _ => rfl
  | 3, _ => rfl
  | 4, _ => rfl
  | 5, _ => rfl
  | 6, _ => rfl
  | 7, _ => rfl
  | 8, _ => rfl
  | 9, _ => rfl
  | 10, _ => rfl
  | 11, _ => rfl
  | 12, _ => rfl
  | 13, _ => rfl
  | 14, _ => rfl
  | 15, _ => rfl
  | n + 16, h => absurd h (by omega)
theorem pg_fr (m : Mp) : ∀ n, n < 16 → (pgCells m)[n * 4 + 3]? = some (.int .i64 (m.lf n).fr)
  | 0, _ => rfl
  | 1, _ => rfl
  | 2, _ => rfl
  | 3, _ => rfl
  | 4, _ => rfl
  | 5, _ => rfl
  | 6, _ => rfl
  | 7, _ => rfl
  | 8, _ => rfl
  | 9, _ => rfl
  | 10, _ => rfl
  | 11, _ => rfl
  | 12, _ => rfl
  | 13, _ => rfl
  | 14, _ => rfl
  | 15, _ => rfl
  | n + 16, h => absurd h (by omega)
/-- A map that is made anew. -/
theorem LvAt.new (w : World) (bp : Nat) (m : Mp) (t : TypeId) : LvAt (w.alloc (.cells (.pointer (some ⟨bp, 0, none⟩) :: pgCells m).toArray t)) w.heap.size bp m where
  pool := by rw [World.cell?_alloc_new]; rfl
  st := fun n hn => by
    rw [World.cell?_alloc_new]
    have := pg_st m n hn
    rw [show 1 + n * 4 = n * 4 + 1 by omega]
    simpa using this
  th := fun n hn => by
    rw [World.cell?_alloc_new]
    have := pg_th m n hn
    rw [show 1 + n * 4 + 1 = (n * 4 + 1) + 1 by omega]
    simpa using this
  wr := fun n hn => by
    rw [World.cell?_alloc_new]
    have := pg_wr m n hn
    rw [show 1 + n * 4 + 1 + 1 = (n * 4 + 2) + 1 by omega]
    simpa using this
  fr := fun n hn => by
    rw [World.cell?_alloc_new]
    have := pg_fr m n hn
    rw [show 1 + n * 4 + 1 + 2 = (n * 4 + 3) + 1 by omega]
    simpa using this
  fz := fun o => World.frozen?_alloc_new _ _ _ _
theorem LvAt.range {w : World} {bl bp : Nat} {m : Mp} (h : LvAt w bl bp m) : w.rangeAt bl 1 (pgCells m) := by
  intro j v hv
  have hj : j < 64 := by have := (List.getElem?_eq_some_iff.1 hv).1; exact this
  have hn : j / 4 < 16 := by omega
  have hc : j % 4 = 0 ∨ j % 4 = 1 ∨ j % 4 = 2 ∨ j % 4 = 3 := by omega
  rcases hc with e | e | e | e
  · have ej : j = (j / 4) * 4 := by omega
    rw [ej, pg_st m _ hn] at hv
    rw [show 1 + j = 1 + (j / 4) * 4 by omega, h.st _ hn, ← hv]
  · have ej : j = (j / 4) * 4 + 1 := by omega
    rw [ej, pg_th m _ hn] at hv
    rw [show 1 + j = 1 + (j / 4) * 4 + 1 by omega, h.th _ hn, ← hv]
  · have ej : j = (j / 4) * 4 + 2 := by omega
    rw [ej, pg_wr m _ hn] at hv
    rw [show 1 + j = 1 + (j / 4) * 4 + 1 + 1 by omega, h.wr _ hn, ← hv]
  · have ej : j = (j / 4) * 4 + 3 := by omega
    rw [ej, pg_fr m _ hn] at hv
    rw [show 1 + j = 1 + (j / 4) * 4 + 1 + 2 by omega, h.fr _ hn, ← hv]
theorem zero109 (bp : Nat) : Try.zeroCells135.setIfInBounds 0 (.pointer (some ⟨bp, 0, none⟩)) = (.pointer (some ⟨bp, 0, none⟩) :: pgCells mp0).toArray := rfl
theorem copy109 (bp : Nat) (m : Mp) : List.foldl (fun (cs : Array Value) (x : Value × Nat) => cs.setIfInBounds (1 + x.snd) x.fst) (Try.zeroCells135.setIfInBounds 0 (.pointer (some ⟨bp, 0, none⟩))) (pgCells m).zipIdx = (.pointer (some ⟨bp, 0, none⟩) :: pgCells m).toArray := by kernel_rfl
theorem info107 : (Try.prog.info? 133).map (·.size) = some 64 := by kernel_rfl

theorem lvNew (w : World) (bp : Nat) : Calls Try.prog 32 #[.pointer (some ⟨bp, 0, none⟩)] w fun e w' => ∃ bl, e = .returned (.tuple #[.pointer (some ⟨bl, 0, none⟩), .nilIface]) ∧ LvAt w' bl bp mp0 ∧ w.heap.size ≤ bl ∧ Upd (fun _ => False) w w' := by
  go_enter Try.func32, Try.ntmps32
  go_wp2_with fail
  go_ret2
  refine ⟨_, rfl, ?_, Nat.le_refl _, (Upd.refl _ _).alloc _⟩
  rw [zero109]
  exact LvAt.new w bp mp0 _
theorem lvCopy (w : World) (bl bp cp : Nat) (m : Mp) (h : LvAt w bl bp m) :
    Calls Try.prog 33 #[.pointer (some ⟨bl, 0, none⟩), .pointer (some ⟨cp, 0, none⟩)] w fun e w' => ∃ cl, e = .returned (.pointer (some ⟨cl, 0, none⟩)) ∧ LvAt w' cl cp m ∧ w.heap.size ≤ cl ∧ Upd (fun _ => False) w w' := by
  have hr := h.range
  have hlen : (pgCells m).length = 64 := rfl
  go_enter Try.func33, Try.ntmps33
  go_wp2_with (refine wpList_load_mid (by rfl) 133 _ (by rfl) bl 1 (by rfl) (pgCells m) _ hr Try.underlying133 (by rfl) info107 ?_)
  go_ret
  refine ⟨_, rfl, ?_, Nat.le_refl _, (Upd.refl _ _).alloc _⟩
  rw [copy109]
  exact LvAt.new w cp m _
theorem lvSame_is (w : World) (bp bf : Nat) (f g : Int) (s : Pl) (h : PoolAt w bp bf s) {u : Bool} (hu : s.same f g = u) :
    Calls Try.prog 25 #[.pointer (some ⟨bp, 0, none⟩), .int .i64 f, .int .i64 g] w fun e w' => e = .returned (.bool u) ∧ ∃ m, w' = w.drewN m := by
  subst hu; exact same_any w bp bf f g s h
theorem lvJoin_no (w : World) (bl bp : Nat) (n f : Int) (m : Mp) (h : LvAt w bl bp m) (ho : onB n = true) (ht : ((m.lf n.toNat).there && !((m.lf n.toNat).fr == f)) = false) :
    Calls Try.prog 41 #[.pointer (some ⟨bl, 0, none⟩), .int .i64 n, .int .i64 f] w fun e w' => e = .returned (.iface 110 (.int .i64 8)) ∧ Upd (fun _ => False) w w' := by
  obtain ⟨h0, h1⟩ := (onB_iff n).1 ho
  obtain ⟨k, rfl⟩ := Int.eq_ofNat_of_zero_le h0
  rw [Int.toNat_natCast] at ht
  have hk : k < 16 := by omega
  have c0 := h.th k hk
  have c1 := h.wr k hk
  have c2 := h.fr k hk
  cases htt : (m.lf k).there with
  | false =>
    rw [htt] at c0
    clear ht htt
    go_enter Try.func41, Try.ntmps41
    go_wp2_with (go_at_call 72; refine (page_yes _ _ _ hk).mono ?_; rintro e w' ⟨rfl, rfl⟩)
    have u1 := (Upd.refl (fun _ => False) w').alloc (.cells #[.bool false, .bool (m.lf k).wr, .int .i64 (m.lf k).fr] 69)
    have b1 := LfAt.new w' 69 ⟨false, (m.lf k).wr, (m.lf k).fr⟩
    revert u1 b1
    generalize w'.alloc (.cells #[.bool false, .bool (m.lf k).wr, .int .i64 (m.lf k).fr] 69) = w1
    generalize w'.heap.size = q
    intro u1 b1
    have d1 := b1.c0
    have d2 := b1.c2
    clear c0 c1 c2
    go_quiet (fail)
    go_wp2_with fail
    go_ret
    exact ⟨rfl, u1.drewN nq⟩
  | true =>
    rw [htt] at c0 ht
    have hb : ((m.lf k).fr == f) = true := by
      simp only [Bool.true_and, Bool.not_eq_false', beq_iff_eq] at ht
      simp [ht]
    clear ht htt
    go_enter Try.func41, Try.ntmps41
    go_wp2_with (go_at_call 72; refine (page_yes _ _ _ hk).mono ?_; rintro e w' ⟨rfl, rfl⟩)
    have u1 := (Upd.refl (fun _ => False) w').alloc (.cells #[.bool true, .bool (m.lf k).wr, .int .i64 (m.lf k).fr] 69)
    have b1 := LfAt.new w' 69 ⟨true, (m.lf k).wr, (m.lf k).fr⟩
    revert u1 b1
    generalize w'.alloc (.cells #[.bool true, .bool (m.lf k).wr, .int .i64 (m.lf k).fr] 69) = w1
    generalize w'.heap.size = q
    intro u1 b1
    have d1 := b1.c0
    have d2 := b1.c2
    clear c0 c1 c2
    go_quiet (fail)
    go_wp2_with fail
    go_ret
    exact ⟨rfl, u1.drewN nq⟩
theorem lvJoin_diff (w : World) (bl bp bf : Nat) (n f : Int) (m : Mp) (s : Pl) (h : LvAt w bl bp m) (hp : PoolAt w bp bf s) (hlt : bf < w.heap.size) (ho : onB n = true) (ht : (m.lf n.toNat).there = true) (hf : ((m.lf n.toNat).fr == f) = false) (hs : s.same (m.lf n.toNat).fr f = false) :
    Calls Try.prog 41 #[.pointer (some ⟨bl, 0, none⟩), .int .i64 n, .int .i64 f] w fun e w' => e = .returned (.iface 110 (.int .i64 8)) ∧ Upd (fun _ => False) w w' := by
  obtain ⟨h0, h1⟩ := (onB_iff n).1 ho
  obtain ⟨k, rfl⟩ := Int.eq_ofNat_of_zero_le h0
  rw [Int.toNat_natCast] at ht hf hs
  have hk : k < 16 := by omega
  have c0 := h.th k hk
  have c1 := h.wr k hk
  have c2 := h.fr k hk
  rw [ht] at c0
  have HS : Hid _ := hs
  clear ht hs
  go_enter Try.func41, Try.ntmps41
  go_wp2_with (go_at_call 72; refine (page_yes _ _ _ hk).mono ?_; rintro e w' ⟨rfl, rfl⟩)
  have u1 := (Upd.refl (fun _ => False) w').alloc (.cells #[.bool true, .bool (m.lf k).wr, .int .i64 (m.lf k).fr] 69)
  have b1 := LfAt.new w' 69 ⟨true, (m.lf k).wr, (m.lf k).fr⟩
  revert u1 b1
  generalize w'.alloc (.cells #[.bool true, .bool (m.lf k).wr, .int .i64 (m.lf k).fr] 69) = w1
  generalize w'.heap.size = q
  intro u1 b1
  have hp1 := hp.upd u1 (fun f => f) (fun f => f) hlt
  have d0 := u1.cell h.pool (fun f => f)
  have d1 := b1.c0
  have d2 := b1.c2
  clear c0 c1 c2
  go_quiet ((go_at_call 25; exact Calls.quiet_of (lvSame_is _ _ _ _ _ s (hp1.drewN _) HS.out)))
  go_wp2_with fail
  go_ret
  exact ⟨rfl, u1.drewN nq⟩
theorem lvJoin_yes (w : World) (bl bp bf : Nat) (n f : Int) (m : Mp) (s : Pl) (h : LvAt w bl bp m) (hp : PoolAt w bp bf s) (h1 : bl ≠ bp) (h2 : bl ≠ bf) (hlt : bf < w.heap.size) (hm : ∀ k, k < s.n → s.refs k ≤ 999999) (ho : onB n = true) (ht : (m.lf n.toNat).there = true) (hf : ((m.lf n.toNat).fr == f) = false) (hs : s.same (m.lf n.toNat).fr f = true) :
    Calls Try.prog 41 #[.pointer (some ⟨bl, 0, none⟩), .int .i64 n, .int .i64 f] w fun e w' => e = .returned .nilIface ∧ PoolAt w' bp bf ((s.share f 1).2.share (m.lf n.toNat).fr (-1)).2 ∧ LvAt w' bl bp { m with lf := setAt m.lf n.toNat ⟨true, false, f⟩ } ∧ Upd (fun k => k = bf ∨ k = bl) w w' := by
  obtain ⟨h0, h1'⟩ := (onB_iff n).1 ho
  obtain ⟨k, rfl⟩ := Int.eq_ofNat_of_zero_le h0
  rw [Int.toNat_natCast] at *
  have hk : k < 16 := by omega
  have c0 := h.th k hk
  have c1 := h.wr k hk
  have c2 := h.fr k hk
  have HT : Hid _ := ht
  rw [ht] at c0
  have hu : s.used f = true := by
    unfold Pl.same at hs
    simp only [Bool.and_eq_true] at hs
    exact hs.1.2
  have he : errV (s.share f 1).1 = .nilIface := by unfold Pl.share; rw [if_pos hu]; exact errV_zero
  have hm3 : ∀ k, k < (s.share f 1).2.n → (s.share f 1).2.refs k ≤ 1000000 := by
    have := share_bd (s := s) (f := f) (d := 1) (n := s.n) (B := 999998) rfl (fun f hf => by have := hm f hf; omega) (by omega)
    intro k hk
    have := this k (by rw [share_n] at hk; exact hk)
    omega
  have HS : Hid _ := hs
  have H1 : Hid _ := h1
  have H2 : Hid _ := h2
  have HM : Hid _ := hm
  have HM3 : Hid _ := hm3
  have HE : Hid _ := he
  have hbl := h.lt
  clear ht hs h1 h2 hm hu he hm3
  go_enter Try.func41, Try.ntmps41
  go_wp2_with (go_at_call 72; refine (page_yes _ _ _ hk).mono ?_; rintro e w' ⟨rfl, rfl⟩)
  have u1 := (Upd.refl (fun _ => False) w').alloc (.cells #[.bool true, .bool (m.lf k).wr, .int .i64 (m.lf k).fr] 69)
  have b1 := LfAt.new w' 69 ⟨true, (m.lf k).wr, (m.lf k).fr⟩
  revert u1 b1 hlt hbl
  generalize w'.alloc (.cells #[.bool true, .bool (m.lf k).wr, .int .i64 (m.lf k).fr] 69) = w1
  generalize hq : w'.heap.size = q
  intro hlt hbl u1 b1
  have hp1 := hp.upd u1 (fun f => f) (fun f => f) (by omega)
  have hl1 := h.upd u1 (fun f => f)
  have d0 := hl1.pool
  have d1 := b1.c0
  have d2 := b1.c2
  clear c0 c1 c2
  go_quiet ((go_at_call 25; exact Calls.quiet_of (lvSame_is _ _ _ _ _ s (hp1.drewN _) HS.out)))
  have u2 := u1.drewN nq
  have hp2 := hp1.drewN nq
  have hl2 := hl1.drewN nq
  clear u1 hp1 hl1 b1 d0 d1 d2
  revert u2 hp2 hl2
  generalize w1.drewN nq = w2
  intro u2 hp2 hl2
  have d0 := hl2.pool
  go_wp2_with fail
  refine (share_any _ _ _ _ s hp2 (fun k hk => by have := HM.out k hk; omega)).mono ?_
  rintro e w3 ⟨rfl, hp3, hu3⟩
  rw [HE.out]
  have hl3 := hl2.upd hu3 H2.out
  have hz3 : bf < w3.heap.size := by have := u2.size; have := hu3.size; omega
  clear d0 hl2 hp2
  go_wp2_with fail
  refine (leave_any _ _ _ _ k m _ hl3 hp3 H1.out H2.out hk hz3 HM3.out).mono ?_
  rintro e w4 ⟨rfl, hp4, hl4, hu4⟩
  simp only [leaveP, HT.out, if_true] at hp4
  have d1 := hl4.th k hk
  have d2 := hl4.wr k hk
  have d3 := hl4.fr k hk
  have d4 := hl4.fz (1 + k * 4 + 1)
  have d5 := hl4.fz (1 + k * 4 + 1 + 1)
  have d6 := hl4.fz (1 + k * 4 + 1 + 2)
  have h5 := hl4.setLf hk ⟨true, false, f⟩
  simp only [leaveM, setAt_twice] at h5
  have hu5 := Upd.three w4 bl (1 + k * 4 + 1) (1 + k * 4 + 1 + 1) (1 + k * 4 + 1 + 2) (.bool true) (.bool false) (.int .i64 f)
  have hp5 := hp4.upd hu5 (Ne.symm H1.out) (Ne.symm H2.out) (Nat.lt_of_lt_of_le hz3 hu4.size)
  have hu6 := (((u2.wide (T := fun k => k = bf ∨ k = bl) (fun _ f => f.elim)).trans hu3 (fun _ _ e => Or.inl e)).trans hu4 (fun _ _ e => e)).trans hu5 (fun _ _ e => Or.inr e)
  have H5 : Hid _ := h5
  have HU6 : Hid _ := hu6
  have HP5 : Hid _ := hp5
  clear h5 hu5 hp5 hu6 hl3 hu3 hp3 hp4 hu4 hl4 u2
  go_wp2_with fail
  go_ret
  exact ⟨rfl, HP5.out, H5.out, HU6.out⟩
theorem lvJoin (w : World) (bl bp bf : Nat) (n f : Int) (m m' : Mp) (s : Pl) (h : LvAt w bl bp m) (hp : PoolAt w bp bf s) (h1 : bl ≠ bp) (h2 : bl ≠ bf) (hn : 0 < s.n) (hi : Inv s m m') :
    Calls Try.prog 41 #[.pointer (some ⟨bl, 0, none⟩), .int .i64 n, .int .i64 f] w fun e w' => e = .returned (errV (joinR s m n f).1) ∧ PoolAt w' bp bf (joinR s m n f).2.1 ∧ LvAt w' bl bp (joinR s m n f).2.2 ∧ Upd (fun k => k = bf ∨ k = bl) w w' := by
  have hlt : bf < w.heap.size := World.block_lt_of_cell? w _ (hp.refs 0 hn)
  have hm : ∀ k, k < s.n → s.refs k ≤ 999999 := fun k hk => by have := hi.le k hk; omega
  cases ho : onB n with
  | false =>
    simp only [joinR, ho, Bool.false_eq_true, if_false, errV1]
    go_enter Try.func41, Try.ntmps41
    go_wp2_with (go_at_call 72; refine (page_no _ _ _ ho).mono ?_; rintro e w' ⟨rfl, rfl⟩)
    go_ret
    exact ⟨rfl, hp, h, Upd.refl _ _⟩
  | true =>
    cases ht : ((m.lf n.toNat).there && !((m.lf n.toNat).fr == f)) with
    | false =>
      refine (lvJoin_no w bl bp n f m h ho ht).mono ?_
      rintro e w' ⟨rfl, hu⟩
      simp only [joinR, ho, ht, if_true, Bool.false_and, Bool.false_eq_true, if_false, errV8]
      exact ⟨trivial, hp.upd hu (fun f => f) (fun f => f) hlt, h.upd hu (fun f => f), hu.wide (fun _ f => f.elim)⟩
    | true =>
      have ht' := ht
      simp only [Bool.and_eq_true, Bool.not_eq_true'] at ht'
      cases hs : s.same (m.lf n.toNat).fr f with
      | false =>
        refine (lvJoin_diff w bl bp bf n f m s h hp hlt ho ht'.1 ht'.2 hs).mono ?_
        rintro e w' ⟨rfl, hu⟩
        simp only [joinR, ho, ht, hs, if_true, Bool.and_false, Bool.false_eq_true, if_false, errV8]
        exact ⟨trivial, hp.upd hu (fun f => f) (fun f => f) hlt, h.upd hu (fun f => f), hu.wide (fun _ f => f.elim)⟩
      | true =>
        refine (lvJoin_yes w bl bp bf n f m s h hp h1 h2 hlt hm ho ht'.1 ht'.2 hs).mono ?_
        rintro e w' ⟨rfl, a1, a2, a3⟩
        simp only [joinR, ho, ht, hs, if_true, Bool.and_true, errV_zero]
        exact ⟨trivial, a1, a2, a3⟩
end Go.Proofs.Ytadpibcgjgcjhaa
/- The errors' numbers that a map tells are none below nought. -/
namespace Go.Proofs.Ytadpibcgjgcjhaa
open Go.ChangeShapes Go.WideShapes Go.ChangeAt Go.RowKit

theorem plug_code (s : Pl) (m : Mp) (n : Int) : 0 ≤ (plugR s m n).1 := by
  unfold plugR
  split
  · split <;> simp
  · simp
theorem unplug_code (s : Pl) (m : Mp) (n : Int) : 0 ≤ (unplugR s m n).1 := by
  unfold unplugR
  split
  · split <;> simp
  · simp
theorem give_code (s : Pl) (m : Mp) (n : Int) (b : Bool) : 0 ≤ (giveR s m n b).1 := by
  unfold giveR
  split
  · split
    · split <;> simp
    · split <;> simp
  · simp
theorem seal_code (m : Mp) (n : Int) : 0 ≤ (sealR m n).1 := by
  unfold sealR
  split
  · split <;> simp
  · simp
theorem join_code (s : Pl) (m : Mp) (n f : Int) : 0 ≤ (joinR s m n f).1 := by
  unfold joinR
  split
  · split <;> simp
  · simp
theorem mtouch_code (s : Pl) (m : Mp) (n : Int) (wt : Bool) : 0 ≤ (touchR s m n wt).1.2.2 := by
  unfold touchR
  split
  · split
    · simp
    · split
      · simp
      · split
        · simp
        · split
          · simp
          · split
            · simp
            · exact take_code s
  · simp
end Go.Proofs.Ytadpibcgjgcjhaa
/- How a list of acts that came in lies in memory: what each statement over acts is told of its argument. -/
namespace Go.Proofs.Ytadpibcgjgcjhaa
open Go.ChangeShapes Go.WideShapes Go.ChangeAt Go.RowKit Go.Deep
set_option maxRecDepth 100000

theorem cells38 : Try.prog.cellsOf 38 = 6 := by kernel_rfl
theorem cells3 : Try.prog.cellsOf 3 = 1 := by kernel_rfl
theorem cells4 : Try.prog.cellsOf 4 = 1 := by kernel_rfl
theorem cells5 : Try.prog.cellsOf 5 = 1 := by kernel_rfl
theorem cells9 : Try.prog.cellsOf 9 = 1 := by kernel_rfl

theorem act_of {H : Type} {enc : TypeId × Value → H} {W : World} {base n : Nat} {sp : Nat → Bool} {held : Bool} {cs : List Value} {y : DataW H × List MemPlace}
    (h : DataW.trod enc Try.prog W base sp held n 38 cs = some y) :
    ∃ x : Ac, cs = [.string x.kind, .int .i64 x.n, .int .i64 x.a, .int .i64 x.b, .int .u8 x.v, .bool x.on] ∧ (Lit.int .u8 x.v).wf = true := by
  obtain ⟨xs, m, _, _, hl, hlen, hf⟩ := DataW.trod_struct Try.underlying38 h
  rw [cells38] at hl
  have hx : xs.length = 6 := hlen
  match cs, hl, xs, hx with
  | [c0, c1, c2, c3, c4, c5], _, [y0, y1, y2, y3, y4, y5], _ =>
    have g0 := hf 0 _ rfl
    have g1 := hf 1 _ rfl
    have g2 := hf 2 _ rfl
    have g3 := hf 3 _ rfl
    have g4 := hf 4 _ rfl
    have g5 := hf 5 _ rfl
    simp [cells3, cells4, cells5, cells9] at g0 g1 g2 g3 g4 g5
    obtain ⟨s, e0, _, _⟩ := DataW.trod_string Try.underlying9 g0
    obtain ⟨i1, e1, _, _⟩ := DataW.trod_int Try.underlying3 g1
    obtain ⟨i2, e2, _, _⟩ := DataW.trod_int Try.underlying3 g2
    obtain ⟨i3, e3, _, _⟩ := DataW.trod_int Try.underlying3 g3
    obtain ⟨i4, e4, _, w4⟩ := DataW.trod_int Try.underlying5 g4
    obtain ⟨b5, e5, _⟩ := DataW.trod_bool Try.underlying4 g5
    simp at e0 e1 e2 e3 e4 e5
    subst e0 e1 e2 e3 e4 e5
    exact ⟨⟨s, i1, i2, i3, i4, b5⟩, rfl, w4⟩

theorem acts_of {H : Type} {enc : TypeId × Value → H} {W : World} {a : Option Addr} {len cap : Nat} {d : DataW H} {ps : List MemPlace}
    (h : DataW.Trod enc Try.prog W 0 (fun _ => true) true 22 (.slice a len cap) d ps) : ∃ acts, ActsAt W a len acts ∧ (∀ k, k < len → (Lit.int .u8 (acts k).v).wf = true) ∧ len ≤ maxLen := by
  obtain ⟨fuel, hf⟩ := h
  rcases open_slice Try.underlying22 hf with ⟨hcs, _⟩ | ⟨x, l, c, m, n, D, Pl, hcs, _, hl, hm, hmm, _, hx⟩
  · simp [Value.cells] at hcs
    obtain ⟨rfl, rfl, rfl⟩ := hcs
    exact ⟨fun _ => ⟨⟨#[]⟩, 0, 0, 0, 0, false⟩, fun k hk => absurd hk (by omega), fun k hk => absurd hk (by omega), by omega⟩
  · simp [Value.cells] at hcs
    obtain ⟨rfl, rfl, rfl⟩ := hcs
    simp at hmm
    subst hmm
    rw [cells38] at hx
    obtain ⟨b, off, spot⟩ := x
    have hspot : 0 < len → spot = none := by
      intro h
      obtain ⟨cs', h1, h2⟩ := hx 0 (by omega)
      obtain ⟨y, rfl, hw⟩ := act_of h2
      obtain ⟨_, _, h3⟩ := World.cells?_some h1
      have h30 := h3 0 (by omega)
      simpa [Addr.add] using World.cell?_spot h30
    have each : ∀ i, i < len → ∃ y : Ac, ActAt W b (off + i * 6) y ∧ (Lit.int .u8 y.v).wf = true ∧ spot = none := by
      intro i hi
      obtain ⟨cs', h1, h2⟩ := hx i (by omega)
      obtain ⟨y, rfl, hw⟩ := act_of h2
      obtain ⟨_, _, h3⟩ := World.cells?_some h1
      obtain rfl := hspot (by omega)
      have e : ∀ j, (((⟨b, off, none⟩ : Addr).add (i * 6)).add j) = ⟨b, off + i * 6 + j, none⟩ := fun j => by rw [Addr.add_mid, Addr.add_mid]
      simp only [e] at h3
      exact ⟨y, ⟨by simpa using h3 0 (by omega), by simpa using h3 1 (by omega), by simpa using h3 2 (by omega), by simpa using h3 3 (by omega), by simpa using h3 4 (by omega), by simpa using h3 5 (by omega)⟩, hw, rfl⟩
    let acts : Nat → Ac := fun i => if h : i < len then (each i h).choose else ⟨⟨#[]⟩, 0, 0, 0, 0, false⟩
    have ha : ∀ i (h : i < len), acts i = (each i h).choose := fun i h => by simp [acts, h]
    refine ⟨acts, fun i hi => ?_, fun i hi => ?_, by omega⟩
    · obtain ⟨g1, g2, g3⟩ := (each i hi).choose_spec
      subst g3
      exact ⟨b, off, rfl, by rw [ha i hi]; exact g1⟩
    · rw [ha i hi]; exact (each i hi).choose_spec.2.1
end Go.Proofs.Ytadpibcgjgcjhaa
/- The law's mapped: an act on a map, held against the document's answer. -/
namespace Go.Proofs.Ytadpibcgjgcjhaa
open Go.ChangeShapes Go.WideShapes Go.ChangeAt Go.RowKit
set_option maxRecDepth 100000
attribute [local go_sem ↓] Go.wp_at_zero Go.wp_at_succ

/-- Pool and model, one map of each, in one state. -/
structure MI (w : World) (bp bf bm bl bx : Nat) (s : Pl) (m : Mp) : Prop where
  pool : PoolAt w bp bf s
  ref : RefAt w bm s
  lv : LvAt w bl bp m
  rm : RMap w bx bm m
/-- What the acts of one map may turn. -/
def Foot (bf bm bl bx : Nat) : Nat → Prop := fun k => k = bf ∨ k = bm ∨ k = bl ∨ k = bx

/-- The blocks are apart. -/
def Apart (bp bf bm bl bx : Nat) : Prop := bl ≠ bp ∧ bl ≠ bf ∧ bl ≠ bm ∧ bl ≠ bx ∧ bx ≠ bp ∧ bx ≠ bf ∧ bx ≠ bm ∧ bm ≠ bp ∧ bm ≠ bf
theorem MI.keep {w w' : World} {bp bf bm bl bx : Nat} {s : Pl} {m : Mp} (h : MI w bp bf bm bl bx s m) (hn : 0 < s.n) (u : Upd (fun _ => False) w w') : MI w' bp bf bm bl bx s m :=
  ⟨h.pool.upd u (fun f => f) (fun f => f) (h.pool.lt hn), h.ref.upd u (fun f => f), h.lv.upd u (fun f => f), h.rm.upd u (fun f => f)⟩
theorem MI.two {w4 w5 : World} {bp bf bm bl bx : Nat} {s : Pl} {m : Mp} (d : Apart bp bf bm bl bx) (hn : 0 < s.n) (hp : PoolAt w4 bp bf s) (hl : LvAt w4 bl bp m) (hr : RefAt w5 bm s) (hx : RMap w5 bx bm m) (u : Upd (fun k => k = bm ∨ k = bx) w4 w5) : MI w5 bp bf bm bl bx s m := by
  unfold Apart at d
  exact ⟨hp.upd u (by omega) (by omega) (hp.lt hn), hr, hl.upd u (by omega), hx⟩
theorem foot_two {w W1 w4 w5 : World} {bf bm bl bx : Nat} (u0 : Upd (fun _ => False) w W1) (u4 : Upd (fun k => k = bf ∨ k = bl) W1.drew w4) (u5 : Upd (fun k => k = bm ∨ k = bx) w4 w5) : Upd (Foot bf bm bl bx) w w5 :=
  ((u0.wide (T := Foot bf bm bl bx) (fun _ f => f.elim)).drew.trans u4 (fun i _ e => by rcases e with e | e; exact Or.inl e; exact Or.inr (Or.inr (Or.inl e)))).trans u5 (fun i _ e => by rcases e with e | e; exact Or.inr (Or.inl e); exact Or.inr (Or.inr (Or.inr e)))
theorem foot_two' {w W1 w4 w5 : World} {bf bm bl bx : Nat} (u0 : Upd (fun _ => False) w W1) (u4 : Upd (fun k => k = bf ∨ k = bl) W1 w4) (u5 : Upd (fun k => k = bm ∨ k = bx) w4 w5) : Upd (Foot bf bm bl bx) w w5 :=
  foot_two u0 ⟨u4.os, u4.tape, u4.output, u4.size, u4.block⟩ u5

set_option maxHeartbeats 4000000 in
theorem mapped_any (w : World) (bp bf bm bl bx : Nat) (s : Pl) (m m' : Mp) (x : Ac) (h : MI w bp bf bm bl bx s m) (hi : Inv s m m') (hn : 0 < s.n) (d : Apart bp bf bm bl bx) :
    Calls Try.prog 36 #[.pointer (some ⟨bl, 0, none⟩), .pointer (some ⟨bx, 0, none⟩), .pointer (some ⟨bp, 0, none⟩), .pointer (some ⟨bm, 0, none⟩), .agg #[.string x.kind, .int .i64 x.n, .int .i64 x.a, .int .i64 x.b, .int .u8 x.v, .bool x.on]] w
      fun e w' => e = .returned (.bool true) ∧ ∃ s2 m2, MI w' bp bf bm bl bx s2 m2 ∧ Inv s2 m2 m' ∧ s2.n = s.n ∧ Upd (Foot bf bm bl bx) w w' := by
  have D : Hid _ := d
  have hm : ∀ f, f < s.n → s.refs f ≤ 1000000 := fun f hf => by have := hi.le f hf; omega
  have hm9 : ∀ f, f < s.n → s.refs f ≤ 999999 := fun f hf => by have := hi.le f hf; omega
  have qf := h.pool.lt hn
  have qm : bm < w.heap.size := World.block_lt_of_cell? _ _ h.ref.num
  have ql := h.lv.lt
  have qx := h.rm.lt
  clear d
  go_enter Try.func36, Try.ntmps36
  go_upto_block 0 with fail
  have hB := BoxAt.new w x
  have u0 := (Upd.refl (fun _ => False) w).alloc (.cells #[.string x.kind, .int .i64 x.n, .int .i64 x.a, .int .i64 x.b, .int .u8 x.v, .bool x.on] 38)
  have hJ := h.keep hn u0
  revert hB u0 hJ qf qm ql qx
  generalize w.alloc (.cells #[.string x.kind, .int .i64 x.n, .int .i64 x.a, .int .i64 x.b, .int .u8 x.v, .bool x.on] 38) = W1
  generalize w.heap.size = q
  intro qf qm ql qx hB u0 hJ
  have d := D.out
  unfold Apart at d
  have NQ1 : Hid (¬ q = bf ∧ ¬ q = bl) := ⟨by omega, by omega⟩
  have NQ2 : Hid (¬ q = bm ∧ ¬ q = bx) := ⟨by omega, by omega⟩
  have NQ1o : Hid (¬ (q = bf ∨ q = bl)) := show ¬ _ by omega
  have NQ2o : Hid (¬ (q = bm ∨ q = bx)) := show ¬ _ by omega
  have NM1 : Hid (¬ bm = bf ∧ ¬ bm = bl) := ⟨by omega, by omega⟩
  have NM1o : Hid (¬ (bm = bf ∨ bm = bl)) := show ¬ _ by omega
  have NX1o : Hid (¬ (bx = bf ∨ bx = bl)) := show ¬ _ by omega
  have NLP : Hid (bl ≠ bp) := d.1
  have NLF : Hid (bl ≠ bf) := d.2.1
  have NXM : Hid (bx ≠ bm) := d.2.2.2.2.2.2.1
  have NXM' : Hid (¬ bm = bx) := show ¬ _ by omega
  have NXF : Hid (bx ≠ bf) := d.2.2.2.2.2.1
  clear d h qf qm ql qx
  by_cases k0 : (x.kind.toList == [112, 108, 117, 103]) = true
  · have c2 := hB.c2
    have te := plug_code s m x.a
    go_wp2_with fail
    go_region_held3 (fun w' => w'.cell? ⟨q, 2, none⟩ = some (.int .i64 x.a)) (first | exact c2 | exact h4c | exact h5c)
      (first
        | (go_at_call 38; refine (lvPlug _ _ _ _ _ m m' s (by first | exact hJ.lv | exact hJ.lv.drew) (by first | exact hJ.pool | exact hJ.pool.drew) NLP.out NLF.out hn hi).mono ?_; rintro e w4 ⟨rfl, hp4, hl4, hu4⟩; have h4c : w4.cell? ⟨q, 2, none⟩ = some (.int .i64 x.a) := hu4.cell (by exact c2) NQ1o.out; have hr4 := RefAt.upd (by first | exact hJ.ref | exact hJ.ref.drew) hu4 NM1o.out; have hx4 := RMap.upd (by first | exact hJ.rm | exact hJ.rm.drew) hu4 NX1o.out)
        | (go_at_call 76; refine (rPlug_any _ _ _ _ m s hx4 hr4 NXM.out hm).mono ?_; rintro e w5 ⟨rfl, hr5, hx5, hu5⟩; have h5c : w5.cell? ⟨q, 2, none⟩ = some (.int .i64 x.a) := hu5.cell (h4c) NQ2o.out)
        | (go_at_call 13; refine (sameE _ _ te).mono ?_; rintro e w6 ⟨rfl, rfl⟩))
    go_wp2_with fail
    go_ret
    exact ⟨rfl, _, _, MI.two D.out (by rw [plug_n s m x.a]; exact hn) hp4 hl4 hr5 hx5 hu5, hi.plug x.a, plug_n s m x.a, foot_two u0 hu4 hu5⟩
  · have k0' : (x.kind.toList == [112, 108, 117, 103]) = false := by simpa using k0
    clear k0
    by_cases k1 : (x.kind.toList == [117, 110, 112, 108, 117, 103]) = true
    · have c2 := hB.c2
      have te := unplug_code s m x.a
      go_wp2_with fail
      go_region_held3 (fun w' => w'.cell? ⟨q, 2, none⟩ = some (.int .i64 x.a)) (first | exact c2 | exact h4c | exact h5c)
        (first
          | (go_at_call 34; refine (lvUnplug _ _ _ _ _ m m' s (by first | exact hJ.lv | exact hJ.lv.drew) (by first | exact hJ.pool | exact hJ.pool.drew) NLP.out NLF.out hn hi).mono ?_; rintro e w4 ⟨rfl, hp4, hl4, hu4⟩; have h4c : w4.cell? ⟨q, 2, none⟩ = some (.int .i64 x.a) := hu4.cell (by exact c2) NQ1o.out; have hr4 := RefAt.upd (by first | exact hJ.ref | exact hJ.ref.drew) hu4 NM1o.out; have hx4 := RMap.upd (by first | exact hJ.rm | exact hJ.rm.drew) hu4 NX1o.out)
          | (go_at_call 77; refine (rUnplug_any _ _ _ _ m s hx4 hr4 NXM.out hm).mono ?_; rintro e w5 ⟨rfl, hr5, hx5, hu5⟩; have h5c : w5.cell? ⟨q, 2, none⟩ = some (.int .i64 x.a) := hu5.cell (h4c) NQ2o.out)
          | (go_at_call 13; refine (sameE _ _ te).mono ?_; rintro e w6 ⟨rfl, rfl⟩))
      go_wp2_with fail
      go_ret
      exact ⟨rfl, _, _, MI.two D.out (by rw [unplug_n s m x.a]; exact hn) hp4 hl4 hr5 hx5 hu5, hi.unplug x.a, unplug_n s m x.a, foot_two u0 hu4 hu5⟩
    · have k1' : (x.kind.toList == [117, 110, 112, 108, 117, 103]) = false := by simpa using k1
      clear k1
      by_cases k2 : (x.kind.toList == [103, 105, 118, 101]) = true
      · have c2 := hB.c2
        have te := give_code s m x.a false
        go_wp2_with fail
        go_region_held3 (fun w' => w'.cell? ⟨q, 2, none⟩ = some (.int .i64 x.a)) (first | exact c2 | exact h4c | exact h5c)
          (first
            | (go_at_call 78; refine (lvGive _ _ _ _ _ m m' s (by first | exact hJ.lv | exact hJ.lv.drew) (by first | exact hJ.pool | exact hJ.pool.drew) NLP.out NLF.out hn hi).mono ?_; rintro e w4 ⟨rfl, hp4, hl4, hu4⟩; have h4c : w4.cell? ⟨q, 2, none⟩ = some (.int .i64 x.a) := hu4.cell (by exact c2) NQ1o.out; have hr4 := RefAt.upd (by first | exact hJ.ref | exact hJ.ref.drew) hu4 NM1o.out; have hx4 := RMap.upd (by first | exact hJ.rm | exact hJ.rm.drew) hu4 NX1o.out)
            | (go_at_call 79; refine (rGive_any _ _ _ _ false m s hx4 hr4 NXM.out hm).mono ?_; rintro e w5 ⟨rfl, hr5, hx5, hu5⟩; have h5c : w5.cell? ⟨q, 2, none⟩ = some (.int .i64 x.a) := hu5.cell (h4c) NQ2o.out)
            | (go_at_call 13; refine (sameE _ _ te).mono ?_; rintro e w6 ⟨rfl, rfl⟩))
        go_wp2_with fail
        go_ret
        exact ⟨rfl, _, _, MI.two D.out (by rw [give_n s m x.a false]; exact hn) hp4 hl4 hr5 hx5 hu5, hi.give x.a false, give_n s m x.a false, foot_two u0 hu4 hu5⟩
      · have k2' : (x.kind.toList == [103, 105, 118, 101]) = false := by simpa using k2
        clear k2
        by_cases k3 : (x.kind.toList == [98, 97, 99, 107]) = true
        · have c2 := hB.c2
          have te := give_code s m x.a true
          go_wp2_with fail
          go_region_held3 (fun w' => w'.cell? ⟨q, 2, none⟩ = some (.int .i64 x.a)) (first | exact c2 | exact h4c | exact h5c)
            (first
              | (go_at_call 80; refine (lvBack _ _ _ _ _ m m' s (by first | exact hJ.lv | exact hJ.lv.drew) (by first | exact hJ.pool | exact hJ.pool.drew) NLP.out NLF.out hn hi).mono ?_; rintro e w4 ⟨rfl, hp4, hl4, hu4⟩; have h4c : w4.cell? ⟨q, 2, none⟩ = some (.int .i64 x.a) := hu4.cell (by exact c2) NQ1o.out; have hr4 := RefAt.upd (by first | exact hJ.ref | exact hJ.ref.drew) hu4 NM1o.out; have hx4 := RMap.upd (by first | exact hJ.rm | exact hJ.rm.drew) hu4 NX1o.out)
              | (go_at_call 79; refine (rGive_any _ _ _ _ true m s hx4 hr4 NXM.out hm).mono ?_; rintro e w5 ⟨rfl, hr5, hx5, hu5⟩; have h5c : w5.cell? ⟨q, 2, none⟩ = some (.int .i64 x.a) := hu5.cell (h4c) NQ2o.out)
              | (go_at_call 13; refine (sameE _ _ te).mono ?_; rintro e w6 ⟨rfl, rfl⟩))
          go_wp2_with fail
          go_ret
          exact ⟨rfl, _, _, MI.two D.out (by rw [give_n s m x.a true]; exact hn) hp4 hl4 hr5 hx5 hu5, hi.give x.a true, give_n s m x.a true, foot_two u0 hu4 hu5⟩
        · have k3' : (x.kind.toList == [98, 97, 99, 107]) = false := by simpa using k3
          clear k3
          by_cases k4 : (x.kind.toList == [115, 101, 97, 108]) = true
          · have c2 := hB.c2
            have te := seal_code m x.a
            go_wp2_with fail
            go_region_held3 (fun w' => w'.cell? ⟨q, 2, none⟩ = some (.int .i64 x.a)) (first | exact c2 | exact h4c | exact h5c)
              (first
                | (go_at_call 42; refine (lvSeal _ _ _ _ _ m m' s (by first | exact hJ.lv | exact hJ.lv.drew) (by first | exact hJ.pool | exact hJ.pool.drew) NLP.out NLF.out hn hi).mono ?_; rintro e w4 ⟨rfl, hp4, hl4, hu4⟩; have h4c : w4.cell? ⟨q, 2, none⟩ = some (.int .i64 x.a) := hu4.cell (by exact c2) NQ1o.out; have hr4 := RefAt.upd (by first | exact hJ.ref | exact hJ.ref.drew) hu4 NM1o.out; have hx4 := RMap.upd (by first | exact hJ.rm | exact hJ.rm.drew) hu4 NX1o.out)
                | (go_at_call 81; refine (rSeal_any _ _ _ _ m hx4).mono ?_; rintro e w5 ⟨rfl, hx5, hu5⟩; have h5c : w5.cell? ⟨q, 2, none⟩ = some (.int .i64 x.a) := hu5.cell (h4c) NQ2.out.2)
                | (go_at_call 13; refine (sameE _ _ te).mono ?_; rintro e w6 ⟨rfl, rfl⟩))
            go_wp2_with fail
            go_ret
            exact ⟨rfl, _, _, MI.two D.out hn hp4 hl4 (hr4.upd hu5 NXM'.out) hx5 (hu5.wide (fun _ e => Or.inr e)), hi.seal x.a, rfl, foot_two u0 hu4 (hu5.wide (fun _ e => Or.inr e))⟩
          · have k4' : (x.kind.toList == [115, 101, 97, 108]) = false := by simpa using k4
            clear k4
            by_cases k5 : (x.kind.toList == [106, 111, 105, 110]) = true
            · have c2 := hB.c2
              have c3 := hB.c3
              have te := join_code s m x.a x.b
              go_wp2_with fail
              go_region_held3 (fun w' => w'.cell? ⟨q, 2, none⟩ = some (.int .i64 x.a) ∧ w'.cell? ⟨q, 3, none⟩ = some (.int .i64 x.b)) (first | exact ⟨c2, c3⟩ | exact h4c | exact h5c)
                (first
                  | (go_at_call 41; refine (lvJoin _ _ _ _ _ _ m m' s (by first | exact hJ.lv | exact hJ.lv.drew) (by first | exact hJ.pool | exact hJ.pool.drew) NLP.out NLF.out hn hi).mono ?_; rintro e w4 ⟨rfl, hp4, hl4, hu4⟩; have h4c : w4.cell? ⟨q, 2, none⟩ = some (.int .i64 x.a) ∧ w4.cell? ⟨q, 3, none⟩ = some (.int .i64 x.b) := ⟨hu4.cell (by exact c2) NQ1o.out, hu4.cell (by exact c3) NQ1o.out⟩; have hr4 := RefAt.upd (by first | exact hJ.ref | exact hJ.ref.drew) hu4 NM1o.out; have hx4 := RMap.upd (by first | exact hJ.rm | exact hJ.rm.drew) hu4 NX1o.out)
                  | (go_at_call 82; refine (rJoin_any _ _ _ _ _ m s hx4 hr4 NXM.out hm9).mono ?_; rintro e w5 ⟨rfl, hr5, hx5, hu5⟩; have h5c : w5.cell? ⟨q, 2, none⟩ = some (.int .i64 x.a) ∧ w5.cell? ⟨q, 3, none⟩ = some (.int .i64 x.b) := ⟨hu5.cell (h4c.1) NQ2o.out, hu5.cell (h4c.2) NQ2o.out⟩)
                  | (go_at_call 13; refine (sameE _ _ te).mono ?_; rintro e w6 ⟨rfl, rfl⟩))
              go_wp2_with fail
              go_ret
              exact ⟨rfl, _, _, MI.two D.out (by rw [join_n s m x.a x.b]; exact hn) hp4 hl4 hr5 hx5 hu5, hi.join x.a x.b, join_n s m x.a x.b, foot_two u0 hu4 hu5⟩
            · have k5' : (x.kind.toList == [106, 111, 105, 110]) = false := by simpa using k5
              clear k5
              by_cases k6 : (x.kind.toList == [115, 101, 116]) = true
              · have c2 := hB.c2
                have c3 := hB.c3
                have c4 := hB.c4
                have te := set_code s x.a x.b x.v
                go_wp2_with fail
                go_region_held3 (fun w' => w'.cell? ⟨q, 2, none⟩ = some (.int .i64 x.a) ∧ w'.cell? ⟨q, 3, none⟩ = some (.int .i64 x.b) ∧ w'.cell? ⟨q, 4, none⟩ = some (.int .u8 x.v)) (first | exact ⟨c2, c3, c4⟩ | exact h4c | exact h5c)
                  (first
                    | (go_at_call 21; refine (set_any _ _ _ _ _ _ s (by first | exact hJ.pool | exact hJ.pool.drew)).mono ?_; rintro e w4 ⟨rfl, hp4, hu4⟩; have h4c : w4.cell? ⟨q, 2, none⟩ = some (.int .i64 x.a) ∧ w4.cell? ⟨q, 3, none⟩ = some (.int .i64 x.b) ∧ w4.cell? ⟨q, 4, none⟩ = some (.int .u8 x.v) := ⟨hu4.cell (by exact c2) NQ1.out.1, hu4.cell (by exact c3) NQ1.out.1, hu4.cell (by exact c4) NQ1.out.1⟩; have hr4 := RefAt.upd (by first | exact hJ.ref | exact hJ.ref.drew) hu4 NM1.out.1)
                    | (go_at_call 22; refine (rSet_any _ _ _ _ _ s hr4).mono ?_; rintro e w5 ⟨rfl, hr5, hu5⟩; have h5c : w5.cell? ⟨q, 2, none⟩ = some (.int .i64 x.a) ∧ w5.cell? ⟨q, 3, none⟩ = some (.int .i64 x.b) ∧ w5.cell? ⟨q, 4, none⟩ = some (.int .u8 x.v) := ⟨hu5.cell (h4c.1) NQ2.out.1, hu5.cell (h4c.2.1) NQ2.out.1, hu5.cell (h4c.2.2) NQ2.out.1⟩)
                    | (go_at_call 13; refine (sameE _ _ te).mono ?_; rintro e w6 ⟨rfl, rfl⟩))
                go_wp2_with fail
                go_ret
                exact ⟨rfl, _, _, MI.two D.out (by rw [set_n]; exact hn) hp4 (hJ.lv.drew.upd hu4 NLF.out) hr5 (RMap.upd (hJ.rm.drew.upd hu4 NXF.out) hu5 NXM.out) (hu5.wide (fun _ e => Or.inl e)), hi.set _ _ _, set_n _ _ _ _, foot_two u0 (hu4.wide (fun _ e => Or.inl e)) (hu5.wide (fun _ e => Or.inl e))⟩
              · have k6' : (x.kind.toList == [115, 101, 116]) = false := by simpa using k6
                clear k6
                have c2 := hB.c2
                have c3 := hB.c3
                have te := mtouch_code s m x.a (decide (0 < x.b))
                have t1 : ((touchR s m x.a (decide (0 < x.b))).1.1 == (touchR s m x.a (decide (0 < x.b))).1.1) = true := by simp
                have t2 : ((touchR s m x.a (decide (0 < x.b))).1.2.1 == (touchR s m x.a (decide (0 < x.b))).1.2.1) = true := by simp
                go_wp2_with fail
                refine (lvTouch _ _ _ _ _ _ m m' s hJ.lv hJ.pool NLP.out NLF.out hn hi).mono ?_
                rintro e w4 ⟨rfl, hp4, hl4, hu4⟩
                have hr4 := hJ.ref.upd hu4 NM1o.out
                have hx4 := hJ.rm.upd hu4 NX1o.out
                have d2 := hu4.cell c2 NQ1o.out
                have d3 := hu4.cell c3 NQ1o.out
                clear c2 c3
                go_wp2_with fail
                refine (rTouch_any _ _ _ _ _ m s hx4 hr4 NXM.out hm9 hi.ok).mono ?_
                rintro e w5 ⟨rfl, hr5, hx5, hu5⟩
                go_wp2_with fail
                refine (sameE _ _ te).mono ?_
                rintro e w6 ⟨rfl, rfl⟩
                go_wp2_with fail
                go_ret
                exact ⟨rfl, _, _, MI.two D.out (by rw [touch_n]; exact hn) hp4 hl4 hr5 hx5 hu5, hi.touch _ _, touch_n _ _ _ _, foot_two' u0 hu4 hu5⟩
end Go.Proofs.Ytadpibcgjgcjhaa
/- The law's asMap: a map has what its model has. -/
namespace Go.Proofs.Ytadpibcgjgcjhaa
open Go.ChangeShapes Go.WideShapes Go.ChangeAt Go.RowKit
set_option maxRecDepth 100000

theorem same1 (w : World) : Calls Try.prog 13 #[errV 1, .int .i64 1] w fun e w' => e = .returned (.bool true) ∧ w' = w := sameE 1 w (by omega)
theorem stR_on {m : Mp} {k : Nat} (hk : k < 16) : stR m (k : Int) = (m.st k, 0) := by
  have : onB (k : Int) = true := by simp [onB]; omega
  simp [stR, this]
theorem stR_off {m : Mp} {n : Int} (h : n < 0 ∨ 15 < n) : stR m n = (0, 1) := by
  have : onB n = false := (onB_no n).2 (by omega)
  simp [stR, this]
theorem lfR_on {m : Mp} {k : Nat} (hk : k < 16) : lfR m (k : Int) = (m.lf k, 0) := by
  have : onB (k : Int) = true := by simp [onB]; omega
  simp [lfR, this]
theorem lfR_off {m : Mp} {n : Int} (h : n < 0 ∨ 15 < n) : lfR m n = (lf0, 1) := by
  have : onB n = false := (onB_no n).2 (by omega)
  simp [lfR, this]
theorem lvState_on (w : World) (bl bp k : Nat) (m : Mp) (h : LvAt w bl bp m) (hk : k < 16) :
    Calls Try.prog 84 #[.pointer (some ⟨bl, 0, none⟩), .int .i64 k] w fun e w' => e = .returned (.tuple #[.int .i64 (m.st k), .nilIface]) ∧ Upd (fun _ => False) w w' := by
  have := lvState w bl bp k m h
  rwa [stR_on hk, errV_zero] at this
theorem lvLeaf_on (w : World) (bl bp k : Nat) (m : Mp) (h : LvAt w bl bp m) (hk : k < 16) :
    Calls Try.prog 39 #[.pointer (some ⟨bl, 0, none⟩), .int .i64 k] w fun e w' => e = .returned (.tuple #[.agg #[.bool (m.lf k).there, .bool (m.lf k).wr, .int .i64 (m.lf k).fr], .nilIface]) ∧ Upd (fun _ => False) w w' := by
  have := lvLeaf w bl bp k m h
  rwa [lfR_on hk, errV_zero] at this
theorem lvState_off (w : World) (bl bp : Nat) (n : Int) (m : Mp) (h : LvAt w bl bp m) (hn : n < 0 ∨ 15 < n) :
    Calls Try.prog 84 #[.pointer (some ⟨bl, 0, none⟩), .int .i64 n] w fun e w' => e = .returned (.tuple #[.int .i64 0, errV 1]) ∧ Upd (fun _ => False) w w' := by
  have := lvState w bl bp n m h
  rwa [stR_off hn] at this
theorem lvLeaf_off (w : World) (bl bp : Nat) (n : Int) (m : Mp) (h : LvAt w bl bp m) (hn : n < 0 ∨ 15 < n) :
    Calls Try.prog 39 #[.pointer (some ⟨bl, 0, none⟩), .int .i64 n] w fun e w' => e = .returned (.tuple #[.agg #[.bool false, .bool false, .int .i64 0], errV 1]) ∧ Upd (fun _ => False) w w' := by
  have := lvLeaf w bl bp n m h
  rwa [lfR_off hn] at this

set_option maxHeartbeats 1000000 in
theorem asMap_any (W : World) (bl bp bx bm : Nat) (m : Mp) (hL : LvAt W bl bp m) (hX : RMap W bx bm m) :
    Calls Try.prog 37 #[.pointer (some ⟨bl, 0, none⟩), .pointer (some ⟨bx, 0, none⟩)] W fun e w' => e = .returned (.bool true) ∧ Upd (fun _ => False) W w' := by
  go_enter Try.func37, Try.ntmps37
  go_wp2_with fail
  go_loopg [5] 18 (fun g i wr => ∃ n : Int, n + g = 17 ∧ -1 ≤ n ∧ i = .int .i64 n ∧ Upd (fun _ => False) W wr)
  case atStart => exact ⟨-1, by omega, by omega, rfl, Upd.refl _ _⟩
  case round =>
    obtain ⟨n, hn, hn1, rfl, hU⟩ := hrel
    have HN : Hid _ := hn
    clear hn
    have hL1 := hL.upd hU (fun f => f)
    by_cases hle : n ≤ 16
    · by_cases hoff : n < 0 ∨ 15 < n
      · have hcase : n = -1 ∨ n = 16 := by omega
        rcases hcase with rfl | rfl
        all_goals
          clear hoff hle hn1
          go_wp2_with fail
          refine (lvState_off _ _ _ _ m hL1 (by omega)).mono ?_
          rintro e w2 ⟨rfl, hu2⟩
          have hU2 := hU.trans hu2 (fun _ _ f => f)
          have hL2 := hL.upd hU2 (fun f => f)
          clear hL1 hu2 hU
          go_wp2_with fail
          refine (lvLeaf_off _ _ _ _ m hL2 (by omega)).mono ?_
          rintro e w3 ⟨rfl, hu3⟩
          have hU3 := hU2.trans hu3 (fun _ _ f => f)
          clear hL2 hu3 hU2
          go_wp2_with fail
          refine (same1 _).mono ?_
          rintro e w4 ⟨rfl, rfl⟩
          go_wp2_with fail
          refine (same1 _).mono ?_
          rintro e w4 ⟨rfl, rfl⟩
          go_wp2_with fail
        · go_roundg 17
          case rel => exact ⟨0, by omega, by omega, by go_num, hU3.alloc _⟩
          case measure => have := HN.out; omega
        · go_roundg 0
          case rel => exact ⟨17, by omega, by omega, by go_num, hU3.alloc _⟩
          case measure => have := HN.out; omega
      · obtain ⟨k, rfl⟩ := Int.eq_ofNat_of_zero_le (show 0 ≤ n by omega)
        have hk : k < 16 := by omega
        have k0 : (0 : Int) ≤ (k : Int) := by omega
        have k1 : (k : Int) < 16 := by omega
        have hd1 : decide ((k : Int) < 0) = false := by simp
        have hd2 : decide (15 < (k : Int)) = false := by simp; omega
        clear hoff hle hn1
        go_wp2_with fail
        refine (lvState_on _ _ _ k m hL1 hk).mono ?_
        rintro e w2 ⟨rfl, hu2⟩
        have hU2 := hU.trans hu2 (fun _ _ f => f)
        have hL2 := hL.upd hU2 (fun f => f)
        clear hL1 hu2 hU
        go_wp2_with fail
        refine (lvLeaf_on _ _ _ k m hL2 hk).mono ?_
        rintro e w3 ⟨rfl, hu3⟩
        have hU3 := hU2.trans hu3 (fun _ _ f => f)
        clear hL2 hu3 hU2
        go_wp2_with fail
        have q3 := LfAt.new w3 69 (m.lf k)
        have hU4 := hU3.alloc (.cells #[.bool (m.lf k).there, .bool (m.lf k).wr, .int .i64 (m.lf k).fr] 69)
        revert q3 hU4
        generalize w3.alloc (.cells #[.bool (m.lf k).there, .bool (m.lf k).wr, .int .i64 (m.lf k).fr] 69) = w4
        generalize w3.heap.size = q
        intro q3 hU4
        have hX4 := hX.upd hU4 (fun f => f)
        have c1 := hX4.st k hk
        have c2 := hX4.th k hk
        have c3 := hX4.wr k hk
        have c4 := hX4.fr k hk
        obtain ⟨y0, y1, y2⟩ := q3
        have b1 : (m.st k != m.st k) = false := by simp
        go_quiet (fail)
        go_wp2_with fail
        go_roundg (17 - (k + 1))
        case rel => exact ⟨k + 1, by omega, by omega, by go_num, hU4.drewN nq⟩
        case measure => have := HN.out; omega
    · go_wp2_with fail
      go_ret
      exact ⟨rfl, hU⟩
end Go.Proofs.Ytadpibcgjgcjhaa
/- The law's maps: a closed fact: a page is touched. -/
namespace Go.Proofs.Ytadpibcgjgcjhaa
open Go.ChangeShapes Go.WideShapes Go.ChangeAt Go.RowKit
set_option maxRecDepth 100000

theorem plug3 (w : World) (bl bp bf : Nat) (h : LvAt w bl bp mp0) (hp : PoolAt w bp bf (pl0 3)) (h1 : bl ≠ bp) (h2 : bl ≠ bf) :
    Calls Try.prog 38 #[.pointer (some ⟨bl, 0, none⟩), .int .i64 2] w fun e w' => e = .returned .nilIface ∧ PoolAt w' bp bf (pl0 3) ∧ LvAt w' bl bp (turnM mp0 2 1) ∧ Upd (fun k => k = bf ∨ k = bl) w w' := by
  have := lvPlug w bl bp bf 2 mp0 mp0 (pl0 3) h hp h1 h2 (by decide) (Inv.start 3)
  have e : plugR (pl0 3) mp0 2 = (0, pl0 3, turnM mp0 2 1) := rfl
  rwa [e, errV_zero] at this
theorem touch3 (w : World) (bl bp bf : Nat) (h : LvAt w bl bp (turnM mp0 2 1)) (hp : PoolAt w bp bf (pl0 3)) (h1 : bl ≠ bp) (h2 : bl ≠ bf) :
    Calls Try.prog 35 #[.pointer (some ⟨bl, 0, none⟩), .int .i64 2, .bool true] w fun e w' => e = .returned (.tuple #[.int .i64 0, .bool false, .nilIface]) ∧ LvAt w' bl bp { st := (turnM mp0 2 1).st, lf := setAt (turnM mp0 2 1).lf 2 ⟨true, true, 0⟩ } ∧ Upd (fun k => k = bf ∨ k = bl) w w' := by
  have := lvTouch w bl bp bf 2 true (turnM mp0 2 1) mp0 (pl0 3) h hp h1 h2 (by decide) ((Inv.start 3).turn (by omega) 1 (by omega) (by omega))
  have e : (touchR (pl0 3) (turnM mp0 2 1) 2 true).1 = (0, false, 0) := rfl
  have e2 : (touchR (pl0 3) (turnM mp0 2 1) 2 true).2.2 = { st := (turnM mp0 2 1).st, lf := setAt (turnM mp0 2 1).lf 2 ⟨true, true, 0⟩ } := rfl
  rw [e, e2, errV_zero] at this
  exact this.mono fun _ _ ⟨a, _, c, d⟩ => ⟨a, c, d⟩
theorem leaf3 (w : World) (bl bp : Nat) (h : LvAt w bl bp { st := (turnM mp0 2 1).st, lf := setAt (turnM mp0 2 1).lf 2 ⟨true, true, 0⟩ }) :
    Calls Try.prog 39 #[.pointer (some ⟨bl, 0, none⟩), .int .i64 2] w fun e w' => e = .returned (.tuple #[.agg #[.bool true, .bool true, .int .i64 0], .nilIface]) ∧ Upd (fun _ => False) w w' :=
  lvLeaf_on w bl bp 2 _ h (by omega)
theorem maps_any (w : World) : Calls Try.prog 31 #[] w fun e w' => e = .returned (.bool true) ∧ Upd (fun _ => False) w w' := by
  go_enter Try.func31, Try.ntmps31
  go_wp2_with fail
  refine (new3 _).mono ?_
  rintro e w1 ⟨rfl, hp1, hu1, hz⟩
  have HZ : Hid _ := hz
  clear hz
  go_wp2_with fail
  refine (lvNew _ _).mono ?_
  rintro e w2 ⟨bl, rfl, hl2, gl, hu2⟩
  have hp2 := hp1.upd hu2 (fun f => f) (fun f => f) (by have := HZ.out; omega)
  have n1 : Hid (bl ≠ w.heap.size + 1) := show _ ≠ _ by have := HZ.out; omega
  have n2 : Hid (bl ≠ w.heap.size) := show _ ≠ _ by have := HZ.out; omega
  have hU2 := hu1.trans hu2 (fun _ _ f => f)
  have GL : Hid (w.heap.size ≤ bl) := show _ ≤ _ by have := hu1.size; omega
  clear hu1 hu2 gl hp1
  go_wp2_with fail
  refine (plug3 _ _ _ _ hl2 hp2 n1.out n2.out).mono ?_
  rintro e w3 ⟨rfl, hp3, hl3, hu3⟩
  go_wp2_with fail
  refine (touch3 _ _ _ _ hl3 hp3 n1.out n2.out).mono ?_
  rintro e w4 ⟨rfl, hl4, hu4⟩
  go_wp2_with fail
  refine (leaf3 _ _ _ hl4).mono ?_
  rintro e w5 ⟨rfl, hu5⟩
  have hU5 := ((hU2.trans hu3 (fun i hi e => by have := GL.out; omega)).trans hu4 (fun i hi e => by have := GL.out; omega)).trans hu5 (fun _ _ f => f)
  go_wp2_with fail
  refine (same0 _).mono ?_
  rintro e w6 ⟨rfl, rfl⟩
  go_wp2_with fail
  refine (same0 _).mono ?_
  rintro e w6 ⟨rfl, rfl⟩
  go_wp2_with fail
  go_ret
  exact ⟨rfl, hU5.alloc _⟩
end Go.Proofs.Ytadpibcgjgcjhaa
