/- Package leaves: what Join, New and Copy answer and turn. -/
import Derived.Test.YtadpibcgjgcjhaaPart06
import Derived.Test.YtadpibcgjgcjhaaPart03
import Derived.Deep.Slices
import Derived.ShutString
import Derived.ChangeOld
import Derived.Below
namespace Go.Proofs.Ytadpibcgjgcjhaa
open Go.ChangeShapes Go.WideShapes Go.ChangeAt Go.RowKit
set_option maxRecDepth 100000
attribute [local go_sem ↓] Go.wp_at_zero Go.wp_at_succ

/-- The pages' cells, in their order. -/
def pgCells (m : Mp) : List Value := [.int .i64 (m.st 0), .bool (m.lf 0).there, .bool (m.lf 0).wr, .int .i64 (m.lf 0).fr, .int .i64 (m.st 1), .bool (m.lf 1).there, .bool (m.lf 1).wr, .int .i64 (m.lf 1).fr, .int .i64 (m.st 2), .bool (m.lf 2).there, .bool (m.lf 2).wr, .int .i64 (m.lf 2).fr, .int .i64 (m.st 3), .bool (m.lf 3).there, .bool (m.lf 3).wr, .int .i64 (m.lf 3).fr, .int .i64 (m.st 4), .bool (m.lf 4).there, .bool (m.lf 4).wr, .int .i64 (m.lf 4).fr, .int .i64 (m.st 5), .bool (m.lf 5).there, .bool (m.lf 5).wr, .int .i64 (m.lf 5).fr, .int .i64 (m.st 6), .bool (m.lf 6).there, .bool (m.lf 6).wr, .int .i64 (m.lf 6).fr, .int .i64 (m.st 7), .bool (m.lf 7).there, .bool (m.lf 7).wr, .int .i64 (m.lf 7).fr, .int .i64 (m.st 8), .bool (m.lf 8).there, .bool (m.lf 8).wr, .int .i64 (m.lf 8).fr, .int .i64 (m.st 9), .bool (m.lf 9).there, .bool (m.lf 9).wr, .int .i64 (m.lf 9).fr, .int .i64 (m.st 10), .bool (m.lf 10).there, .bool (m.lf 10).wr, .int .i64 (m.lf 10).fr, .int .i64 (m.st 11), .bool (m.lf 11).there, .bool (m.lf 11).wr, .int .i64 (m.lf 11).fr, .int .i64 (m.st 12), .bool (m.lf 12).there, .bool (m.lf 12).wr, .int .i64 (m.lf 12).fr, .int .i64 (m.st 13), .bool (m.lf 13).there, .bool (m.lf 13).wr, .int .i64 (m.lf 13).fr, .int .i64 (m.st 14), .bool (m.lf 14).there, .bool (m.lf 14).wr, .int .i64 (m.lf 14).fr, .int .i64 (m.st 15), .bool (m.lf 15).there, .bool (m.lf 15).wr, .int .i64 (m.lf 15).fr]
theorem pg_st (m : Mp) : ∀ n, n < 16 → (pgCells m)[n * 4]? = some (.int .i64 (m.st n))
  | 0, _ => rfl
  | 1, _ => rfl
  | 2, _ => rfl
  | 3, _ => rfl
  | 4, _ => rfl
  | 5, _ => rfl
  | 6, _ => rfl
  | 7, _ => rfl
  | 8, _ => rfl
  | 9, _ => rfl
  | 10, _ => rfl
  | 11, _ => rfl
  | 12, _ => rfl
  | 13, _ => rfl
  | 14, _ => rfl
  | 15, _ => rfl
  | n + 16, h => absurd h (by omega)
theorem pg_th (m : Mp) : ∀ n, n < 16 → (pgCells m)[n * 4 + 1]? = some (.bool (m.lf n).there)
  | 0, _ => rfl
  | 1, _ => rfl
  | 2, _ => rfl
  | 3, _ => rfl
  | 4, _ => rfl
  | 5, _ => rfl
  | 6, _ => rfl
  | 7, _ => rfl
  | 8, _ => rfl
  | 9, _ => rfl
  | 10, _ => rfl
  | 11, _ => rfl
  | 12, _ => rfl
  | 13, _ => rfl
  | 14, _ => rfl
  | 15, _ => rfl
  | n + 16, h => absurd h (by omega)
theorem pg_wr (m : Mp) : ∀ n, n < 16 → (pgCells m)[n * 4 + 2]? = some (.bool (m.lf n).wr)
  | 0, _ => rfl
  | 1, _ => rfl
  | 2, _ => rfl
  | 3, _ => rfl
  | 4, _ => rfl
  | 5, _ => rfl
  | 6, _ => rfl
  | 7, _ => rfl
  | 8, _ => rfl
  | 9, _ => rfl
  | 10, _ => rfl
  | 11, _ => rfl
  | 12, _ => rfl
  | 13, _ => rfl
  | 14, _ => rfl
  | 15, _ => rfl
  | n + 16, h => absurd h (by omega)
theorem pg_fr (m : Mp) : ∀ n, n < 16 → (pgCells m)[n * 4 + 3]? = some (.int .i64 (m.lf n).fr)
  | 0, _ => rfl
  | 1, _ => rfl
  | 2, _ => rfl
  | 3, _ => rfl
  | 4, _ => rfl
  | 5, _ => rfl
  | 6, _ => rfl
  | 7, _ => rfl
  | 8, _ => rfl
  | 9, _ => rfl
  | 10, _ => rfl
  | 11, _ => rfl
  | 12, _ => rfl
  | 13, _ => rfl
  | 14, _ => rfl
  | 15, _ => rfl
  | n + 16, h => absurd h (by omega)
/-- A map that is made anew. -/
theorem LvAt.new (w : World) (bp : Nat) (m : Mp) (t : TypeId) : LvAt (w.alloc (.cells (.pointer (some ⟨bp, 0, none⟩) :: pgCells m).toArray t)) w.heap.size bp m where
  pool := by rw [World.cell?_alloc_new]; rfl
  st := fun n hn => by
    rw [World.cell?_alloc_new]
    have := pg_st m n hn
    rw [show 1 + n * 4 = n * 4 + 1 by omega]
    simpa using this
  th := fun n hn => by
    rw [World.cell?_alloc_new]
    have := pg_th m n hn
    rw [show 1 + n * 4 + 1 = (n * 4 + 1) + 1 by omega]
    simpa using this
  wr := fun n hn => by
    rw [World.cell?_alloc_new]
    have := pg_wr m n hn
    rw [show 1 + n * 4 + 1 + 1 = (n * 4 + 2) + 1 by omega]
    simpa using this
  fr := fun n hn => by
    rw [World.cell?_alloc_new]
    have := pg_fr m n hn
    rw [show 1 + n * 4 + 1 + 2 = (n * 4 + 3) + 1 by omega]
    simpa using this
  fz := fun o => World.frozen?_alloc_new _ _ _ _
theorem LvAt.range {w : World} {bl bp : Nat} {m : Mp} (h : LvAt w bl bp m) : w.rangeAt bl 1 (pgCells m) := by
  intro j v hv
  have hj : j < 64 := by have := (List.getElem?_eq_some_iff.1 hv).1; exact this
  have hn : j / 4 < 16 := by omega
  have hc : j % 4 = 0 ∨ j % 4 = 1 ∨ j % 4 = 2 ∨ j % 4 = 3 := by omega
  rcases hc with e | e | e | e
  · have ej : j = (j / 4) * 4 := by omega
    rw [ej, pg_st m _ hn] at hv
    rw [show 1 + j = 1 + (j / 4) * 4 by omega, h.st _ hn, ← hv]
  · have ej : j = (j / 4) * 4 + 1 := by omega
    rw [ej, pg_th m _ hn] at hv
    rw [show 1 + j = 1 + (j / 4) * 4 + 1 by omega, h.th _ hn, ← hv]
  · have ej : j = (j / 4) * 4 + 2 := by omega
    rw [ej, pg_wr m _ hn] at hv
    rw [show 1 + j = 1 + (j / 4) * 4 + 1 + 1 by omega, h.wr _ hn, ← hv]
  · have ej : j = (j / 4) * 4 + 3 := by omega
    rw [ej, pg_fr m _ hn] at hv
    rw [show 1 + j = 1 + (j / 4) * 4 + 1 + 2 by omega, h.fr _ hn, ← hv]
theorem zero109 (bp : Nat) : Try.zeroCells135.setIfInBounds 0 (.pointer (some ⟨bp, 0, none⟩)) = (.pointer (some ⟨bp, 0, none⟩) :: pgCells mp0).toArray := rfl
theorem copy109 (bp : Nat) (m : Mp) : List.foldl (fun (cs : Array Value) (x : Value × Nat) => cs.setIfInBounds (1 + x.snd) x.fst) (Try.zeroCells135.setIfInBounds 0 (.pointer (some ⟨bp, 0, none⟩))) (pgCells m).zipIdx = (.pointer (some ⟨bp, 0, none⟩) :: pgCells m).toArray := by kernel_rfl
theorem info107 : (Try.prog.info? 133).map (·.size) = some 64 := by kernel_rfl

theorem lvNew (w : World) (bp : Nat) : Calls Try.prog 32 #[.pointer (some ⟨bp, 0, none⟩)] w fun e w' => ∃ bl, e = .returned (.tuple #[.pointer (some ⟨bl, 0, none⟩), .nilIface]) ∧ LvAt w' bl bp mp0 ∧ w.heap.size ≤ bl ∧ Upd (fun _ => False) w w' := by
  go_enter Try.func32, Try.ntmps32
  go_wp2_with fail
  go_ret2
  refine ⟨_, rfl, ?_, Nat.le_refl _, (Upd.refl _ _).alloc _⟩
  rw [zero109]
  exact LvAt.new w bp mp0 _
theorem lvCopy (w : World) (bl bp cp : Nat) (m : Mp) (h : LvAt w bl bp m) :
    Calls Try.prog 33 #[.pointer (some ⟨bl, 0, none⟩), .pointer (some ⟨cp, 0, none⟩)] w fun e w' => ∃ cl, e = .returned (.pointer (some ⟨cl, 0, none⟩)) ∧ LvAt w' cl cp m ∧ w.heap.size ≤ cl ∧ Upd (fun _ => False) w w' := by
  have hr := h.range
  have hlen : (pgCells m).length = 64 := rfl
  go_enter Try.func33, Try.ntmps33
  go_wp2_with (refine wpList_load_mid (by rfl) 133 _ (by rfl) bl 1 (by rfl) (pgCells m) _ hr Try.underlying133 (by rfl) info107 ?_)
  go_ret
  refine ⟨_, rfl, ?_, Nat.le_refl _, (Upd.refl _ _).alloc _⟩
  rw [copy109]
  exact LvAt.new w cp m _
theorem lvSame_is (w : World) (bp bf : Nat) (f g : Int) (s : Pl) (h : PoolAt w bp bf s) {u : Bool} (hu : s.same f g = u) :
    Calls Try.prog 25 #[.pointer (some ⟨bp, 0, none⟩), .int .i64 f, .int .i64 g] w fun e w' => e = .returned (.bool u) ∧ ∃ m, w' = w.drewN m := by
  subst hu; exact same_any w bp bf f g s h
theorem lvJoin_no (w : World) (bl bp : Nat) (n f : Int) (m : Mp) (h : LvAt w bl bp m) (ho : onB n = true) (ht : ((m.lf n.toNat).there && !((m.lf n.toNat).fr == f)) = false) :
    Calls Try.prog 41 #[.pointer (some ⟨bl, 0, none⟩), .int .i64 n, .int .i64 f] w fun e w' => e = .returned (.iface 110 (.int .i64 8)) ∧ Upd (fun _ => False) w w' := by
  obtain ⟨h0, h1⟩ := (onB_iff n).1 ho
  obtain ⟨k, rfl⟩ := Int.eq_ofNat_of_zero_le h0
  rw [Int.toNat_natCast] at ht
  have hk : k < 16 := by omega
  have c0 := h.th k hk
  have c1 := h.wr k hk
  have c2 := h.fr k hk
  cases htt : (m.lf k).there with
  | false =>
    rw [htt] at c0
    clear ht htt
    go_enter Try.func41, Try.ntmps41
    go_wp2_with (go_at_call 72; refine (page_yes _ _ _ hk).mono ?_; rintro e w' ⟨rfl, rfl⟩)
    have u1 := (Upd.refl (fun _ => False) w').alloc (.cells #[.bool false, .bool (m.lf k).wr, .int .i64 (m.lf k).fr] 69)
    have b1 := LfAt.new w' 69 ⟨false, (m.lf k).wr, (m.lf k).fr⟩
    revert u1 b1
    generalize w'.alloc (.cells #[.bool false, .bool (m.lf k).wr, .int .i64 (m.lf k).fr] 69) = w1
    generalize w'.heap.size = q
    intro u1 b1
    have d1 := b1.c0
    have d2 := b1.c2
    clear c0 c1 c2
    go_quiet (fail)
    go_wp2_with fail
    go_ret
    exact ⟨rfl, u1.drewN nq⟩
  | true =>
    rw [htt] at c0 ht
    have hb : ((m.lf k).fr == f) = true := by
      simp only [Bool.true_and, Bool.not_eq_false', beq_iff_eq] at ht
      simp [ht]
    clear ht htt
    go_enter Try.func41, Try.ntmps41
    go_wp2_with (go_at_call 72; refine (page_yes _ _ _ hk).mono ?_; rintro e w' ⟨rfl, rfl⟩)
    have u1 := (Upd.refl (fun _ => False) w').alloc (.cells #[.bool true, .bool (m.lf k).wr, .int .i64 (m.lf k).fr] 69)
    have b1 := LfAt.new w' 69 ⟨true, (m.lf k).wr, (m.lf k).fr⟩
    revert u1 b1
    generalize w'.alloc (.cells #[.bool true, .bool (m.lf k).wr, .int .i64 (m.lf k).fr] 69) = w1
    generalize w'.heap.size = q
    intro u1 b1
    have d1 := b1.c0
    have d2 := b1.c2
    clear c0 c1 c2
    go_quiet (fail)
    go_wp2_with fail
    go_ret
    exact ⟨rfl, u1.drewN nq⟩
theorem lvJoin_diff (w : World) (bl bp bf : Nat) (n f : Int) (m : Mp) (s : Pl) (h : LvAt w bl bp m) (hp : PoolAt w bp bf s) (hlt : bf < w.heap.size) (ho : onB n = true) (ht : (m.lf n.toNat).there = true) (hf : ((m.lf n.toNat).fr == f) = false) (hs : s.same (m.lf n.toNat).fr f = false) :
    Calls Try.prog 41 #[.pointer (some ⟨bl, 0, none⟩), .int .i64 n, .int .i64 f] w fun e w' => e = .returned (.iface 110 (.int .i64 8)) ∧ Upd (fun _ => False) w w' := by
  obtain ⟨h0, h1⟩ := (onB_iff n).1 ho
  obtain ⟨k, rfl⟩ := Int.eq_ofNat_of_zero_le h0
  rw [Int.toNat_natCast] at ht hf hs
  have hk : k < 16 := by omega
  have c0 := h.th k hk
  have c1 := h.wr k hk
  have c2 := h.fr k hk
  rw [ht] at c0
  have HS : Hid _ := hs
  clear ht hs
  go_enter Try.func41, Try.ntmps41
  go_wp2_with (go_at_call 72; refine (page_yes _ _ _ hk).mono ?_; rintro e w' ⟨rfl, rfl⟩)
  have u1 := (Upd.refl (fun _ => False) w').alloc (.cells #[.bool true, .bool (m.lf k).wr, .int .i64 (m.lf k).fr] 69)
  have b1 := LfAt.new w' 69 ⟨true, (m.lf k).wr, (m.lf k).fr⟩
  revert u1 b1
  generalize w'.alloc (.cells #[.bool true, .bool (m.lf k).wr, .int .i64 (m.lf k).fr] 69) = w1
  generalize w'.heap.size = q
  intro u1 b1
  have hp1 := hp.upd u1 (fun f => f) (fun f => f) hlt
  have d0 := u1.cell h.pool (fun f => f)
  have d1 := b1.c0
  have d2 := b1.c2
  clear c0 c1 c2
  go_quiet ((go_at_call 25; exact Calls.quiet_of (lvSame_is _ _ _ _ _ s (hp1.drewN _) HS.out)))
  go_wp2_with fail
  go_ret
  exact ⟨rfl, u1.drewN nq⟩
theorem lvJoin_yes (w : World) (bl bp bf : Nat) (n f : Int) (m : Mp) (s : Pl) (h : LvAt w bl bp m) (hp : PoolAt w bp bf s) (h1 : bl ≠ bp) (h2 : bl ≠ bf) (hlt : bf < w.heap.size) (hm : ∀ k, k < s.n → s.refs k ≤ 999999) (ho : onB n = true) (ht : (m.lf n.toNat).there = true) (hf : ((m.lf n.toNat).fr == f) = false) (hs : s.same (m.lf n.toNat).fr f = true) :
    Calls Try.prog 41 #[.pointer (some ⟨bl, 0, none⟩), .int .i64 n, .int .i64 f] w fun e w' => e = .returned .nilIface ∧ PoolAt w' bp bf ((s.share f 1).2.share (m.lf n.toNat).fr (-1)).2 ∧ LvAt w' bl bp { m with lf := setAt m.lf n.toNat ⟨true, false, f⟩ } ∧ Upd (fun k => k = bf ∨ k = bl) w w' := by
  obtain ⟨h0, h1'⟩ := (onB_iff n).1 ho
  obtain ⟨k, rfl⟩ := Int.eq_ofNat_of_zero_le h0
  rw [Int.toNat_natCast] at *
  have hk : k < 16 := by omega
  have c0 := h.th k hk
  have c1 := h.wr k hk
  have c2 := h.fr k hk
  have HT : Hid _ := ht
  rw [ht] at c0
  have hu : s.used f = true := by
    unfold Pl.same at hs
    simp only [Bool.and_eq_true] at hs
    exact hs.1.2
  have he : errV (s.share f 1).1 = .nilIface := by unfold Pl.share; rw [if_pos hu]; exact errV_zero
  have hm3 : ∀ k, k < (s.share f 1).2.n → (s.share f 1).2.refs k ≤ 1000000 := by
    have := share_bd (s := s) (f := f) (d := 1) (n := s.n) (B := 999998) rfl (fun f hf => by have := hm f hf; omega) (by omega)
    intro k hk
    have := this k (by rw [share_n] at hk; exact hk)
    omega
  have HS : Hid _ := hs
  have H1 : Hid _ := h1
  have H2 : Hid _ := h2
  have HM : Hid _ := hm
  have HM3 : Hid _ := hm3
  have HE : Hid _ := he
  have hbl := h.lt
  clear ht hs h1 h2 hm hu he hm3
  go_enter Try.func41, Try.ntmps41
  go_wp2_with (go_at_call 72; refine (page_yes _ _ _ hk).mono ?_; rintro e w' ⟨rfl, rfl⟩)
  have u1 := (Upd.refl (fun _ => False) w').alloc (.cells #[.bool true, .bool (m.lf k).wr, .int .i64 (m.lf k).fr] 69)
  have b1 := LfAt.new w' 69 ⟨true, (m.lf k).wr, (m.lf k).fr⟩
  revert u1 b1 hlt hbl
  generalize w'.alloc (.cells #[.bool true, .bool (m.lf k).wr, .int .i64 (m.lf k).fr] 69) = w1
  generalize hq : w'.heap.size = q
  intro hlt hbl u1 b1
  have hp1 := hp.upd u1 (fun f => f) (fun f => f) (by omega)
  have hl1 := h.upd u1 (fun f => f)
  have d0 := hl1.pool
  have d1 := b1.c0
  have d2 := b1.c2
  clear c0 c1 c2
  go_quiet ((go_at_call 25; exact Calls.quiet_of (lvSame_is _ _ _ _ _ s (hp1.drewN _) HS.out)))
  have u2 := u1.drewN nq
  have hp2 := hp1.drewN nq
  have hl2 := hl1.drewN nq
  clear u1 hp1 hl1 b1 d0 d1 d2
  revert u2 hp2 hl2
  generalize w1.drewN nq = w2
  intro u2 hp2 hl2
  have d0 := hl2.pool
  go_wp2_with fail
  refine (share_any _ _ _ _ s hp2 (fun k hk => by have := HM.out k hk; omega)).mono ?_
  rintro e w3 ⟨rfl, hp3, hu3⟩
  rw [HE.out]
  have hl3 := hl2.upd hu3 H2.out
  have hz3 : bf < w3.heap.size := by have := u2.size; have := hu3.size; omega
  clear d0 hl2 hp2
  go_wp2_with fail
  refine (leave_any _ _ _ _ k m _ hl3 hp3 H1.out H2.out hk hz3 HM3.out).mono ?_
  rintro e w4 ⟨rfl, hp4, hl4, hu4⟩
  simp only [leaveP, HT.out, if_true] at hp4
  have d1 := hl4.th k hk
  have d2 := hl4.wr k hk
  have d3 := hl4.fr k hk
  have d4 := hl4.fz (1 + k * 4 + 1)
  have d5 := hl4.fz (1 + k * 4 + 1 + 1)
  have d6 := hl4.fz (1 + k * 4 + 1 + 2)
  have h5 := hl4.setLf hk ⟨true, false, f⟩
  simp only [leaveM, setAt_twice] at h5
  have hu5 := Upd.three w4 bl (1 + k * 4 + 1) (1 + k * 4 + 1 + 1) (1 + k * 4 + 1 + 2) (.bool true) (.bool false) (.int .i64 f)
  have hp5 := hp4.upd hu5 (Ne.symm H1.out) (Ne.symm H2.out) (Nat.lt_of_lt_of_le hz3 hu4.size)
  have hu6 := (((u2.wide (T := fun k => k = bf ∨ k = bl) (fun _ f => f.elim)).trans hu3 (fun _ _ e => Or.inl e)).trans hu4 (fun _ _ e => e)).trans hu5 (fun _ _ e => Or.inr e)
  have H5 : Hid _ := h5
  have HU6 : Hid _ := hu6
  have HP5 : Hid _ := hp5
  clear h5 hu5 hp5 hu6 hl3 hu3 hp3 hp4 hu4 hl4 u2
  go_wp2_with fail
  go_ret
  exact ⟨rfl, HP5.out, H5.out, HU6.out⟩
theorem lvJoin (w : World) (bl bp bf : Nat) (n f : Int) (m m' : Mp) (s : Pl) (h : LvAt w bl bp m) (hp : PoolAt w bp bf s) (h1 : bl ≠ bp) (h2 : bl ≠ bf) (hn : 0 < s.n) (hi : Inv s m m') :
    Calls Try.prog 41 #[.pointer (some ⟨bl, 0, none⟩), .int .i64 n, .int .i64 f] w fun e w' => e = .returned (errV (joinR s m n f).1) ∧ PoolAt w' bp bf (joinR s m n f).2.1 ∧ LvAt w' bl bp (joinR s m n f).2.2 ∧ Upd (fun k => k = bf ∨ k = bl) w w' := by
  have hlt : bf < w.heap.size := World.block_lt_of_cell? w _ (hp.refs 0 hn)
  have hm : ∀ k, k < s.n → s.refs k ≤ 999999 := fun k hk => by have := hi.le k hk; omega
  cases ho : onB n with
  | false =>
    simp only [joinR, ho, Bool.false_eq_true, if_false, errV1]
    go_enter Try.func41, Try.ntmps41
    go_wp2_with (go_at_call 72; refine (page_no _ _ _ ho).mono ?_; rintro e w' ⟨rfl, rfl⟩)
    go_ret
    exact ⟨rfl, hp, h, Upd.refl _ _⟩
  | true =>
    cases ht : ((m.lf n.toNat).there && !((m.lf n.toNat).fr == f)) with
    | false =>
      refine (lvJoin_no w bl bp n f m h ho ht).mono ?_
      rintro e w' ⟨rfl, hu⟩
      simp only [joinR, ho, ht, if_true, Bool.false_and, Bool.false_eq_true, if_false, errV8]
      exact ⟨trivial, hp.upd hu (fun f => f) (fun f => f) hlt, h.upd hu (fun f => f), hu.wide (fun _ f => f.elim)⟩
    | true =>
      have ht' := ht
      simp only [Bool.and_eq_true, Bool.not_eq_true'] at ht'
      cases hs : s.same (m.lf n.toNat).fr f with
      | false =>
        refine (lvJoin_diff w bl bp bf n f m s h hp hlt ho ht'.1 ht'.2 hs).mono ?_
        rintro e w' ⟨rfl, hu⟩
        simp only [joinR, ho, ht, hs, if_true, Bool.and_false, Bool.false_eq_true, if_false, errV8]
        exact ⟨trivial, hp.upd hu (fun f => f) (fun f => f) hlt, h.upd hu (fun f => f), hu.wide (fun _ f => f.elim)⟩
      | true =>
        refine (lvJoin_yes w bl bp bf n f m s h hp h1 h2 hlt hm ho ht'.1 ht'.2 hs).mono ?_
        rintro e w' ⟨rfl, a1, a2, a3⟩
        simp only [joinR, ho, ht, hs, if_true, Bool.and_true, errV_zero]
        exact ⟨trivial, a1, a2, a3⟩
end Go.Proofs.Ytadpibcgjgcjhaa
/- Two maps of pages and the bytes that were written to them, plainly: what each act of undercrofttop.TopMap keeps. -/
namespace Go.Proofs.Ytadpibcgjgcjhaa
open Go.RowKit

/-- The pages of both maps, in one row. -/
def both (a b : Mp) (k : Nat) : Lf := if k < 16 then a.lf k else b.lf (k - 16)
theorem both_lo (a b : Mp) {k : Nat} (h : k < 16) : both a b k = a.lf k := by unfold both; rw [if_pos h]
theorem both_hi (a b : Mp) {k : Nat} : both a b (16 + k) = b.lf k := by unfold both; rw [if_neg (by omega), show 16 + k - 16 = k by omega]
theorem both_set0 (a b : Mp) {k : Nat} (h : k < 16) (st : Nat → Int) (l : Lf) : both { a with st := st, lf := setAt a.lf k l } b = setAt (both a b) k l := by
  funext i
  unfold both setAt
  by_cases e : i = k
  · subst e; simp [h]
  · by_cases g : i < 16 <;> simp [e, g]
theorem both_set1 (a b : Mp) {k : Nat} (st : Nat → Int) (l : Lf) : both a { b with st := st, lf := setAt b.lf k l } = setAt (both a b) (16 + k) l := by
  funext i
  unfold both setAt
  by_cases e : i = 16 + k
  · subst e
    simp only [show ¬ (16 + k < 16) by omega, if_false, show 16 + k - 16 = k by omega, if_true]
  · by_cases g : i < 16
    · simp [e, g]
    · simp only [g, e, if_false]
      rw [if_neg (by omega)]
theorem cntTo_congr {l l' : Nat → Lf} (f : Int) : ∀ k, (∀ i, i < k → l i = l' i) → cntTo l f k = cntTo l' f k
  | 0, _ => rfl
  | k + 1, h => by rw [cntTo_succ, cntTo_succ, cntTo_congr f k (fun i hi => h i (by omega)), h k (by omega)]
theorem both_cnt_hi (a b : Mp) (f : Int) : ∀ j, cntTo (both a b) f (16 + j) = cntTo a.lf f 16 + cntTo b.lf f j
  | 0 => by
    rw [Nat.add_zero, show cntTo b.lf f 0 = 0 from rfl, Nat.add_zero]
    exact cntTo_congr f 16 (fun i hi => both_lo a b hi)
  | j + 1 => by
    have := both_cnt_hi a b f j
    rw [show 16 + (j + 1) = (16 + j) + 1 by omega, cntTo_succ (both a b) f (16 + j), cntTo_succ b.lf f j, this, both_hi]
    omega
theorem cntTo_two (L : Nat → Lf) (p q : Nat) (f : Int) : ∀ k, p < k → q < p → (L p).there = true → (L q).there = true → (L p).fr = f → (L q).fr = f → 2 ≤ cntTo L f k
  | 0, h, _, _, _, _, _ => absurd h (by omega)
  | k + 1, h, hq, tp, tq, ep, eq => by
    rw [cntTo_succ]
    by_cases e : k = p
    · subst e
      have := cntTo_pos L q k (by omega) tq
      rw [eq] at this
      have : inIn (L k) f = 1 := by simp [inIn, tp, ep]
      omega
    · have := cntTo_two L p q f k (by omega) hq tp tq ep eq
      omega
/-- The frames' numbers are the pages that are in them. -/
structure Cn (s : Pl) (L : Nat → Lf) : Prop where
  cnt : ∀ f : Nat, f < s.n → s.refs f = cntTo L f 32
  rng : ∀ k, k < 32 → (L k).there = true → 0 ≤ (L k).fr ∧ (L k).fr < s.n
theorem Inv.cn {s : Pl} {a b : Mp} (h : Inv s a b) : Cn s (both a b) where
  cnt := fun f hf => by
    have h1 := h.cnt f hf
    have h2 := both_cnt_hi a b f 16
    simp only [Go.Proofs.Ytadpibcgjgcjhaa.cnt] at h1
    rw [show (32 : Nat) = 16 + 16 by rfl, h2, h1]
    omega
  rng := fun k hk ht => by
    by_cases e : k < 16
    · rw [both_lo a b e] at *; exact h.ina k e ht
    · obtain ⟨j, rfl⟩ : ∃ j, k = 16 + j := ⟨k - 16, by omega⟩
      rw [both_hi] at *; exact h.inb j (by omega) ht
theorem Cn.pos {s : Pl} {L : Nat → Lf} (h : Cn s L) {k : Nat} (hk : k < 32) (ht : (L k).there = true) : 1 ≤ s.refs (L k).fr.toNat := by
  obtain ⟨f0, f1⟩ := h.rng k hk ht
  have h1 := h.cnt (L k).fr.toNat (by omega)
  have h2 := cntTo_pos L k 32 hk ht
  rw [Int.toNat_of_nonneg f0] at h1
  omega
theorem Cn.used {s : Pl} {L : Nat → Lf} (h : Cn s L) {k : Nat} (hk : k < 32) (ht : (L k).there = true) : s.used (L k).fr = true := by
  obtain ⟨f0, f1⟩ := h.rng k hk ht
  have := h.pos hk ht
  exact (s.used_iff _).2 ⟨f0, f1, by omega⟩
/-- One that is alone in its frame. -/
theorem Cn.lone {s : Pl} {L : Nat → Lf} (h : Cn s L) {p q : Nat} (hp : p < 32) (hq : q < 32) (tp : (L p).there = true) (tq : (L q).there = true) (hr : s.refs (L p).fr.toNat = 1) (he : (L q).fr.toNat = (L p).fr.toNat) : q = p := by
  obtain ⟨f0, f1⟩ := h.rng p hp tp
  obtain ⟨g0, g1⟩ := h.rng q hq tq
  have ef : (L q).fr = (L p).fr := by omega
  have h1 := h.cnt (L p).fr.toNat (by omega)
  rw [Int.toNat_of_nonneg f0, hr] at h1
  by_cases e : q = p
  · exact e
  · exfalso
    rcases Nat.lt_or_gt_of_ne e with g | g
    · have := cntTo_two L p q (L p).fr 32 hp g tp tq rfl ef
      omega
    · have := cntTo_two L q p (L p).fr 32 hq g tq tp ef rfl
      omega
theorem Cn.free {s : Pl} {L : Nat → Lf} (h : Cn s L) {j k : Nat} (h0 : s.refs j = 0) (hk : k < 32) (ht : (L k).there = true) : (L k).fr.toNat ≠ j := fun e => by
  have := h.pos hk ht
  rw [e] at this
  omega

/-- Each page has its bytes; where it may be written it is alone. -/
structure RInv (s : Pl) (L : Nat → Lf) (t : Nat → Nat → Int) : Prop where
  one : ∀ k, k < 32 → (L k).there = true → (L k).wr = true → s.refs (L k).fr.toNat = 1
  out : ∀ k, k < 32 → (L k).there = false → ∀ i, i < 16 → t k i = 0
  byt : ∀ k, k < 32 → (L k).there = true → ∀ i, i < 16 → s.byt (L k).fr.toNat i = t k i
/-- A leaf alone turns. -/
theorem RInv.leaf {s : Pl} {L : Nat → Lf} {t : Nat → Nat → Int} (h : RInv s L t) {p : Nat} (hp : p < 32) {l : Lf} (ht : l.there = (L p).there) (hf : l.fr = (L p).fr) (hw : l.there = true → l.wr = true → s.refs l.fr.toNat = 1) : RInv s (setAt L p l) t where
  one := fun k hk => by
    by_cases e : k = p
    · subst e; rw [setAt_same]; exact hw
    · rw [setAt_other _ _ _ _ e]; exact h.one k hk
  out := fun k hk => by
    by_cases e : k = p
    · subst e; rw [setAt_same, ht]; exact h.out k hk
    · rw [setAt_other _ _ _ _ e]; exact h.out k hk
  byt := fun k hk => by
    by_cases e : k = p
    · subst e; rw [setAt_same, ht, hf]; exact h.byt k hk
    · rw [setAt_other _ _ _ _ e]; exact h.byt k hk
theorem RInv.seal {s : Pl} {L : Nat → Lf} {t : Nat → Nat → Int} (h : RInv s L t) {p : Nat} (hp : p < 32) : RInv s (setAt L p { L p with wr := false }) t :=
  h.leaf hp rfl rfl (fun _ e => by simp at e)
theorem RInv.own {s : Pl} {L : Nat → Lf} {t : Nat → Nat → Int} (h : RInv s L t) {p : Nat} (hp : p < 32) (hr : s.refs (L p).fr.toNat = 1) : RInv s (setAt L p { L p with wr := true }) t :=
  h.leaf hp rfl rfl (fun _ _ => hr)
/-- A page comes into a frame that was free. -/
theorem RInv.new {s : Pl} {L : Nat → Lf} {t : Nat → Nat → Int} (h : RInv s L t) (c : Cn s L) {p j : Nat} (hp : p < 32) (ht : (L p).there = false) (h0 : s.refs j = 0) :
    RInv { s with refs := setAt s.refs j 1, byt := setAt s.byt j fun _ => 0 } (setAt L p ⟨true, true, j⟩) t where
  one := fun k hk => by
    by_cases e : k = p
    · subst e; rw [setAt_same]; intro _ _; simp only [Int.toNat_natCast, setAt_same]
    · rw [setAt_other _ _ _ _ e]
      intro t1 w1
      have := c.free h0 hk t1
      simp only [setAt_other _ _ _ _ this]
      exact h.one k hk t1 w1
  out := fun k hk => by
    by_cases e : k = p
    · subst e; rw [setAt_same]; intro t1; simp at t1
    · rw [setAt_other _ _ _ _ e]; exact h.out k hk
  byt := fun k hk => by
    by_cases e : k = p
    · subst e; rw [setAt_same]; intro _ i hi; simp only [Int.toNat_natCast, setAt_same]; exact (h.out k hk ht i hi).symm
    · rw [setAt_other _ _ _ _ e]
      intro t1 i hi
      have := c.free h0 hk t1
      simp only [setAt_other _ _ _ _ this]
      exact h.byt k hk t1 i hi
/-- A page moves. -/
theorem RInv.move {s : Pl} {L : Nat → Lf} {t : Nat → Nat → Int} (h : RInv s L t) (c : Cn s L) {p j : Nat} (hp : p < 32) (ht : (L p).there = true) (hr : s.refs (L p).fr.toNat ≠ 1) (h0 : s.refs j = 0) :
    RInv (({ s with refs := setAt s.refs j 1, byt := setAt (setAt s.byt j fun _ => 0) j (setAt s.byt j (fun _ => 0) (L p).fr.toNat) } : Pl).share (L p).fr (-1)).2 (setAt L p ⟨true, true, j⟩) t := by
  have hfj := c.free h0 hp ht
  obtain ⟨f0, f1⟩ := c.rng p hp ht
  have hu := c.pos hp ht
  rw [share_refs (by
    refine (Pl.used_iff _ _).2 ⟨f0, f1, ?_⟩
    show setAt s.refs j 1 (L p).fr.toNat ≠ 0
    rw [setAt_other _ _ _ _ hfj]; omega)]
  constructor
  · intro k hk
    by_cases e : k = p
    · subst e; rw [setAt_same]; intro _ _; simp only [Int.toNat_natCast]
      rw [setAt_other _ _ _ _ (Ne.symm hfj), setAt_same]
    · rw [setAt_other _ _ _ _ e]
      intro t1 w1
      have h1 := h.one k hk t1 w1
      have h2 := c.free h0 hk t1
      have h3 : (L k).fr.toNat ≠ (L p).fr.toNat := fun q => hr (by rw [← q]; exact h1)
      simp only
      rw [setAt_other _ _ _ _ h3, setAt_other _ _ _ _ h2]
      exact h1
  · intro k hk
    by_cases e : k = p
    · subst e; rw [setAt_same]; intro t1; simp at t1
    · rw [setAt_other _ _ _ _ e]; exact h.out k hk
  · intro k hk
    by_cases e : k = p
    · subst e; rw [setAt_same]; intro _ i hi; simp only [Int.toNat_natCast, setAt_same]
      rw [setAt_other _ _ _ _ hfj]
      exact h.byt k hk ht i hi
    · rw [setAt_other _ _ _ _ e]
      intro t1 i hi
      have := c.free h0 hk t1
      simp only [setAt_other _ _ _ _ this]
      exact h.byt k hk t1 i hi
/-- A page joins another frame, in which none may be written. -/
theorem RInv.join {s : Pl} {L : Nat → Lf} {t : Nat → Nat → Int} (h : RInv s L t) (c : Cn s L) {p : Nat} {f : Int} (hp : p < 32) (ht : (L p).there = true) (hne : (L p).fr ≠ f) (hs : s.same (L p).fr f = true)
    (hw : ∀ k, k < 32 → (L k).there = true → (L k).fr = f → (L k).wr = false) : RInv ((s.share f 1).2.share (L p).fr (-1)).2 (setAt L p ⟨true, false, f⟩) t := by
  have hs' := hs
  unfold Pl.same at hs'
  simp only [Bool.and_eq_true, List.all_eq_true, List.mem_range, beq_iff_eq] at hs'
  obtain ⟨⟨u1, u2⟩, hb⟩ := hs'
  obtain ⟨f0, f1, f2⟩ := (s.used_iff _).1 u1
  obtain ⟨g0, g1, g2⟩ := (s.used_iff _).1 u2
  have hnn : (L p).fr.toNat ≠ f.toNat := by omega
  rw [share_refs u2]
  rw [share_refs (by
    refine (Pl.used_iff _ _).2 ⟨f0, f1, ?_⟩
    show setAt s.refs f.toNat _ (L p).fr.toNat ≠ 0
    rw [setAt_other _ _ _ _ hnn]; exact f2)]
  constructor
  · intro k hk
    by_cases e : k = p
    · subst e; rw [setAt_same]; intro _ w1; simp at w1
    · rw [setAt_other _ _ _ _ e]
      intro t1 w1
      have h1 := h.one k hk t1 w1
      obtain ⟨k0, k1⟩ := c.rng k hk t1
      have h2 : (L k).fr.toNat ≠ f.toNat := fun q => by
        have := hw k hk t1 (by omega)
        rw [this] at w1; simp at w1
      have h3 : (L k).fr.toNat ≠ (L p).fr.toNat := fun q => e (c.lone hk hp t1 ht h1 q.symm).symm
      simp only
      rw [setAt_other _ _ _ _ h3, setAt_other _ _ _ _ h2]
      exact h1
  · intro k hk
    by_cases e : k = p
    · subst e; rw [setAt_same]; intro t1; simp at t1
    · rw [setAt_other _ _ _ _ e]; exact h.out k hk
  · intro k hk
    by_cases e : k = p
    · subst e; rw [setAt_same]; intro _ i hi
      rw [← hb i hi]
      exact h.byt k hk ht i hi
    · rw [setAt_other _ _ _ _ e]
      exact h.byt k hk
/-- A byte of a page that may be written. -/
theorem RInv.set {s : Pl} {L : Nat → Lf} {t : Nat → Nat → Int} (h : RInv s L t) (c : Cn s L) {p i : Nat} {v : Int} (hp : p < 32) (ht : (L p).there = true) (hw : (L p).wr = true) :
    RInv { s with byt := setAt s.byt (L p).fr.toNat (setAt (s.byt (L p).fr.toNat) i v) } L (setAt t p (setAt (t p) i v)) where
  one := h.one
  out := fun k hk t1 j hj => by
    by_cases e : k = p
    · subst e; rw [ht] at t1; simp at t1
    · rw [setAt_other _ _ _ _ e]; exact h.out k hk t1 j hj
  byt := fun k hk t1 j hj => by
    by_cases e : k = p
    · subst e
      simp only [setAt_same]
      unfold setAt
      split
      · rfl
      · exact h.byt k hk t1 j hj
    · have : (L k).fr.toNat ≠ (L p).fr.toNat := fun q => e (c.lone hp hk ht t1 (h.one p hp ht hw) q)
      simp only [setAt_other _ _ _ _ this, setAt_other _ _ _ _ e]
      exact h.byt k hk t1 j hj
/-- What Touch does to a page that is plain. -/
theorem touch_keeps {s : Pl} {m : Mp} {L : Nat → Lf} {t : Nat → Nat → Int} (h : RInv s L t) (c : Cn s L) {k p : Nat} (wt : Bool) (hk : k < 16) (hp : p < 32) (hL : L p = m.lf k) (hs : m.st k = 1) :
    ∃ l, (touchR s m k wt).2.2 = { m with st := m.st, lf := setAt m.lf k l } ∧ RInv (touchR s m k wt).2.1 (setAt L p l) t ∧
      ((touchR s m k wt).1.2.2 = 0 → l.there = true ∧ l.fr = (touchR s m k wt).1.1 ∧ (wt = true → l.wr = true)) := by
  have ho : onB (k : Int) = true := (onB_iff _).2 ⟨by omega, by omega⟩
  have same : setAt m.lf k (m.lf k) = m.lf := setAt_self _ _ _ rfl
  have sameL : setAt L p (m.lf k) = L := setAt_self _ _ _ hL
  unfold touchR
  simp only [ho, if_true, Int.toNat_natCast, hs, show ¬ ((1 : Int) = 0) by omega, show ¬ ((1 : Int) = 2) by omega, if_false]
  split
  · rename_i ha
    refine ⟨m.lf k, by rw [same], by rw [sameL]; exact h, fun _ => ?_⟩
    simp only [Bool.and_eq_true, Bool.or_eq_true, Bool.not_eq_true'] at ha
    exact ⟨ha.1, rfl, fun e => by rcases ha.2 with g | g; (· rw [e] at g; simp at g); (· exact g)⟩
  · rename_i ha
    split
    · rename_i hb
      simp only [Bool.and_eq_true, beq_iff_eq] at hb
      refine ⟨{ m.lf k with wr := true }, rfl, ?_, fun _ => ⟨hb.1, rfl, fun _ => rfl⟩⟩
      rw [← hL]
      exact h.own hp (by rw [hL]; exact hb.2)
    · rename_i hb
      cases hff : firstFrom s.refs 0 s.n with
      | none =>
        rw [take_none hff]
        simp only [show ¬ ((3 : Int) = 0) by omega, if_false]
        exact ⟨m.lf k, by rw [same], by rw [sameL]; exact h, fun e => by simp at e⟩
      | some j =>
        rw [take_some hff]
        simp only [if_true]
        have hsp := firstFrom_spec s.refs s.n 0
        rw [hff] at hsp
        obtain ⟨_, j1, j2, _⟩ := hsp
        refine ⟨⟨true, true, (j : Int)⟩, rfl, ?_, fun _ => ⟨rfl, rfl, fun _ => rfl⟩⟩
        cases ht : (m.lf k).there with
        | false =>
          simp only [Bool.false_eq_true, if_false]
          exact h.new c hp (by rw [hL]; exact ht) j2
        | true =>
          simp only [if_true, Int.toNat_natCast]
          rw [ht] at hb
          have hr : s.refs (L p).fr.toNat ≠ 1 := by
            rw [hL]
            intro e
            exact hb (by simp [e])
          have := h.move c hp (by rw [hL]; exact ht) hr j2
          rw [hL] at this
          exact this
theorem seal_keeps {s : Pl} {m : Mp} {L : Nat → Lf} {t : Nat → Nat → Int} (h : RInv s L t) {k p : Nat} (hk : k < 16) (hp : p < 32) (hL : L p = m.lf k) :
    ∃ l, (sealR m k).2 = { m with st := m.st, lf := setAt m.lf k l } ∧ RInv s (setAt L p l) t ∧ l.there = (L p).there ∧ l.fr = (L p).fr ∧ (l.there = true → l.wr = false) := by
  have ho : onB (k : Int) = true := (onB_iff _).2 ⟨by omega, by omega⟩
  unfold sealR
  simp only [ho, if_true, Int.toNat_natCast]
  split
  · refine ⟨{ m.lf k with wr := false }, rfl, ?_, by rw [hL], by rw [hL], fun _ => rfl⟩
    rw [← hL]
    exact h.seal hp
  · rename_i ht
    refine ⟨m.lf k, by rw [setAt_self _ _ _ rfl], by rw [setAt_self _ _ _ hL]; exact h, by rw [hL], by rw [hL], fun e => absurd e ht⟩
end Go.Proofs.Ytadpibcgjgcjhaa
/- How a list of acts that came in lies in memory: what each statement over acts is told of its argument. -/
namespace Go.Proofs.Ytadpibcgjgcjhaa
open Go.ChangeShapes Go.WideShapes Go.ChangeAt Go.RowKit Go.Deep
set_option maxRecDepth 100000

theorem cells38 : Try.prog.cellsOf 38 = 6 := by kernel_rfl
theorem cells3 : Try.prog.cellsOf 3 = 1 := by kernel_rfl
theorem cells4 : Try.prog.cellsOf 4 = 1 := by kernel_rfl
theorem cells5 : Try.prog.cellsOf 5 = 1 := by kernel_rfl
theorem cells9 : Try.prog.cellsOf 9 = 1 := by kernel_rfl

theorem act_of {H : Type} {enc : TypeId × Value → H} {W : World} {base n : Nat} {sp : Nat → Bool} {held : Bool} {cs : List Value} {y : DataW H × List MemPlace}
    (h : DataW.trod enc Try.prog W base sp held n 38 cs = some y) :
    ∃ x : Ac, cs = [.string x.kind, .int .i64 x.n, .int .i64 x.a, .int .i64 x.b, .int .u8 x.v, .bool x.on] ∧ (Lit.int .u8 x.v).wf = true := by
  obtain ⟨xs, m, _, _, hl, hlen, hf⟩ := DataW.trod_struct Try.underlying38 h
  rw [cells38] at hl
  have hx : xs.length = 6 := hlen
  match cs, hl, xs, hx with
  | [c0, c1, c2, c3, c4, c5], _, [y0, y1, y2, y3, y4, y5], _ =>
    have g0 := hf 0 _ rfl
    have g1 := hf 1 _ rfl
    have g2 := hf 2 _ rfl
    have g3 := hf 3 _ rfl
    have g4 := hf 4 _ rfl
    have g5 := hf 5 _ rfl
    simp [cells3, cells4, cells5, cells9] at g0 g1 g2 g3 g4 g5
    obtain ⟨s, e0, _, _⟩ := DataW.trod_string Try.underlying9 g0
    obtain ⟨i1, e1, _, _⟩ := DataW.trod_int Try.underlying3 g1
    obtain ⟨i2, e2, _, _⟩ := DataW.trod_int Try.underlying3 g2
    obtain ⟨i3, e3, _, _⟩ := DataW.trod_int Try.underlying3 g3
    obtain ⟨i4, e4, _, w4⟩ := DataW.trod_int Try.underlying5 g4
    obtain ⟨b5, e5, _⟩ := DataW.trod_bool Try.underlying4 g5
    simp at e0 e1 e2 e3 e4 e5
    subst e0 e1 e2 e3 e4 e5
    exact ⟨⟨s, i1, i2, i3, i4, b5⟩, rfl, w4⟩

theorem acts_of {H : Type} {enc : TypeId × Value → H} {W : World} {a : Option Addr} {len cap : Nat} {d : DataW H} {ps : List MemPlace}
    (h : DataW.Trod enc Try.prog W 0 (fun _ => true) true 22 (.slice a len cap) d ps) : ∃ acts, ActsAt W a len acts ∧ (∀ k, k < len → (Lit.int .u8 (acts k).v).wf = true) ∧ len ≤ maxLen := by
  obtain ⟨fuel, hf⟩ := h
  rcases open_slice Try.underlying22 hf with ⟨hcs, _⟩ | ⟨x, l, c, m, n, D, Pl, hcs, _, hl, hm, hmm, _, hx⟩
  · simp [Value.cells] at hcs
    obtain ⟨rfl, rfl, rfl⟩ := hcs
    exact ⟨fun _ => ⟨⟨#[]⟩, 0, 0, 0, 0, false⟩, fun k hk => absurd hk (by omega), fun k hk => absurd hk (by omega), by omega⟩
  · simp [Value.cells] at hcs
    obtain ⟨rfl, rfl, rfl⟩ := hcs
    simp at hmm
    subst hmm
    rw [cells38] at hx
    obtain ⟨b, off, spot⟩ := x
    have hspot : 0 < len → spot = none := by
      intro h
      obtain ⟨cs', h1, h2⟩ := hx 0 (by omega)
      obtain ⟨y, rfl, hw⟩ := act_of h2
      obtain ⟨_, _, h3⟩ := World.cells?_some h1
      have h30 := h3 0 (by omega)
      simpa [Addr.add] using World.cell?_spot h30
    have each : ∀ i, i < len → ∃ y : Ac, ActAt W b (off + i * 6) y ∧ (Lit.int .u8 y.v).wf = true ∧ spot = none := by
      intro i hi
      obtain ⟨cs', h1, h2⟩ := hx i (by omega)
      obtain ⟨y, rfl, hw⟩ := act_of h2
      obtain ⟨_, _, h3⟩ := World.cells?_some h1
      obtain rfl := hspot (by omega)
      have e : ∀ j, (((⟨b, off, none⟩ : Addr).add (i * 6)).add j) = ⟨b, off + i * 6 + j, none⟩ := fun j => by rw [Addr.add_mid, Addr.add_mid]
      simp only [e] at h3
      exact ⟨y, ⟨by simpa using h3 0 (by omega), by simpa using h3 1 (by omega), by simpa using h3 2 (by omega), by simpa using h3 3 (by omega), by simpa using h3 4 (by omega), by simpa using h3 5 (by omega)⟩, hw, rfl⟩
    let acts : Nat → Ac := fun i => if h : i < len then (each i h).choose else ⟨⟨#[]⟩, 0, 0, 0, 0, false⟩
    have ha : ∀ i (h : i < len), acts i = (each i h).choose := fun i h => by simp [acts, h]
    refine ⟨acts, fun i hi => ?_, fun i hi => ?_, by omega⟩
    · obtain ⟨g1, g2, g3⟩ := (each i hi).choose_spec
      subst g3
      exact ⟨b, off, rfl, by rw [ha i hi]; exact g1⟩
    · rw [ha i hi]; exact (each i hi).choose_spec.2.1
end Go.Proofs.Ytadpibcgjgcjhaa
/- undercrofttop.seal: all pages of two maps in a frame are sealed. -/
namespace Go.Proofs.Ytadpibcgjgcjhaa
open Go.ChangeShapes Go.WideShapes Go.ChangeAt Go.RowKit
set_option maxRecDepth 100000
attribute [local go_sem ↓] Go.wp_at_zero Go.wp_at_succ

/-- Four blocks apart. -/
def Ap (bp bf bl0 bl1 : Nat) : Prop := bl0 ≠ bp ∧ bl0 ≠ bf ∧ bl1 ≠ bp ∧ bl1 ≠ bf ∧ bl0 ≠ bl1
/-- Two maps on one pool, in memory and plainly. -/
structure Two (w : World) (bp bf bl0 bl1 : Nat) (s : Pl) (a b : Mp) (t : Nat → Nat → Int) : Prop where
  pool : PoolAt w bp bf s
  lv0 : LvAt w bl0 bp a
  lv1 : LvAt w bl1 bp b
  inv : Inv s a b
  st0 : ∀ k, k < 16 → a.st k = 1
  st1 : ∀ k, k < 16 → b.st k = 1
  r : RInv s (both a b) t
theorem Two.keep {w w' : World} {bp bf bl0 bl1 : Nat} {s : Pl} {a b : Mp} {t : Nat → Nat → Int} (h : Two w bp bf bl0 bl1 s a b t) (hn : 0 < s.n) (u : Upd (fun _ => False) w w') : Two w' bp bf bl0 bl1 s a b t :=
  { h with pool := h.pool.upd u (fun f => f) (fun f => f) (World.block_lt_of_cell? w _ (h.pool.refs 0 hn)), lv0 := h.lv0.upd u (fun f => f), lv1 := h.lv1.upd u (fun f => f) }
theorem Two.far {S : Nat → Prop} {w w' : World} {bp bf bl0 bl1 : Nat} {s : Pl} {a b : Mp} {t : Nat → Nat → Int} (h : Two w bp bf bl0 bl1 s a b t) (hn : 0 < s.n) (u : Upd S w w') (h1 : ¬ S bp) (h2 : ¬ S bf) (h3 : ¬ S bl0) (h4 : ¬ S bl1) : Two w' bp bf bl0 bl1 s a b t :=
  { h with pool := h.pool.upd u h1 h2 (World.block_lt_of_cell? w _ (h.pool.refs 0 hn)), lv0 := h.lv0.upd u h3, lv1 := h.lv1.upd u h4 }
theorem lvLeaf_at (w : World) (bl bp k : Nat) (m : Mp) (h : LvAt w bl bp m) (hk : k < 16) :
    Calls Try.prog 39 #[.pointer (some ⟨bl, 0, none⟩), .int .i64 k] w fun e w' => e = .returned (.tuple #[.agg #[.bool (m.lf k).there, .bool (m.lf k).wr, .int .i64 (m.lf k).fr], .nilIface]) ∧ Upd (fun _ => False) w w' := by
  have := lvLeaf w bl bp k m h
  have ho : onB (k : Int) = true := (onB_iff _).2 ⟨by omega, by omega⟩
  simpa only [lfR, ho, if_true, Int.toNat_natCast, errV_zero] using this

/-- The pages below k of a frame are sealed; else all is as it was. -/
structure Sl (a b a' b' : Mp) (f : Int) (k : Nat) : Prop where
  th : ∀ p, p < 32 → (both a' b' p).there = (both a b p).there
  fr : ∀ p, p < 32 → (both a' b' p).fr = (both a b p).fr
  no : ∀ p, p < k → p < 32 → (both a' b' p).there = true → (both a' b' p).fr = f → (both a' b' p).wr = false
theorem Sl.start (a b : Mp) (f : Int) : Sl a b a b f 0 := ⟨fun _ _ => rfl, fun _ _ => rfl, fun _ h => absurd h (by omega)⟩
theorem Sl.skip {a b a' b' : Mp} {f : Int} {k : Nat} (h : Sl a b a' b' f k) (hs : ¬ ((both a' b' k).there = true ∧ (both a' b' k).fr = f)) : Sl a b a' b' f (k + 1) :=
  ⟨h.th, h.fr, fun p hp h32 t1 f1 => by
    by_cases e : p = k
    · subst e; exact absurd ⟨t1, f1⟩ hs
    · exact h.no p (by omega) h32 t1 f1⟩
theorem Sl.step {a b a' b' a2 b2 : Mp} {f : Int} {k : Nat} {l : Lf} (h : Sl a b a' b' f k) (hk : k < 32) (he : both a2 b2 = setAt (both a' b') k l) (ht : l.there = (both a' b' k).there) (hf : l.fr = (both a' b' k).fr) (hw : l.there = true → l.wr = false) : Sl a b a2 b2 f (k + 1) where
  th := fun p hp => by
    rw [he]
    by_cases e : p = k
    · subst e; rw [setAt_same, ht]; exact h.th p hp
    · rw [setAt_other _ _ _ _ e]; exact h.th p hp
  fr := fun p hp => by
    rw [he]
    by_cases e : p = k
    · subst e; rw [setAt_same, hf]; exact h.fr p hp
    · rw [setAt_other _ _ _ _ e]; exact h.fr p hp
  no := fun p hp h32 => by
    rw [he]
    by_cases e : p = k
    · subst e; rw [setAt_same]; intro t1 _; exact hw t1
    · rw [setAt_other _ _ _ _ e]; exact h.no p (by omega) h32
/-- A page of the first map is sealed. -/
theorem Two.seal0 {w w' : World} {bp bf bl0 bl1 k : Nat} {s : Pl} {a b : Mp} {t : Nat → Nat → Int} (h : Two w bp bf bl0 bl1 s a b t) (d : Ap bp bf bl0 bl1) (hk : k < 16) (hp : PoolAt w' bp bf s) (hl : LvAt w' bl0 bp (sealR a k).2) (u : Upd (fun x => x = bf ∨ x = bl0) w w') :
    ∃ a2 l, Two w' bp bf bl0 bl1 s a2 b t ∧ both a2 b = setAt (both a b) k l ∧ l.there = (both a b k).there ∧ l.fr = (both a b k).fr ∧ (l.there = true → l.wr = false) := by
  obtain ⟨l, e, r2, t2, f2, w2⟩ := seal_keeps h.r hk (show k < 32 by omega) (both_lo a b hk)
  have hi := h.inv.seal k
  rw [e] at hl hi
  have eb := both_set0 a b hk a.st l
  unfold Ap at d
  exact ⟨_, l, ⟨hp, hl, h.lv1.upd u (by omega), hi, h.st0, h.st1, by rw [eb]; exact r2⟩, eb, t2, f2, w2⟩
theorem Two.seal1 {w w' : World} {bp bf bl0 bl1 k : Nat} {s : Pl} {a b : Mp} {t : Nat → Nat → Int} (h : Two w bp bf bl0 bl1 s a b t) (d : Ap bp bf bl0 bl1) (hk : k < 16) (hp : PoolAt w' bp bf s) (hl : LvAt w' bl1 bp (sealR b k).2) (u : Upd (fun x => x = bf ∨ x = bl1) w w') :
    ∃ b2 l, Two w' bp bf bl0 bl1 s a b2 t ∧ both a b2 = setAt (both a b) (16 + k) l ∧ l.there = (both a b (16 + k)).there ∧ l.fr = (both a b (16 + k)).fr ∧ (l.there = true → l.wr = false) := by
  obtain ⟨l, e, r2, t2, f2, w2⟩ := seal_keeps h.r hk (show 16 + k < 32 by omega) (both_hi a b)
  have hi := h.inv.swap.seal k
  rw [e] at hl hi
  have eb := both_set1 a b (k := k) b.st l
  unfold Ap at d
  exact ⟨_, l, ⟨hp, h.lv0.upd u (by omega), hl, hi.swap, h.st0, h.st1, by rw [eb]; exact r2⟩, eb, t2, f2, w2⟩

/-- The map in which the page k of both is. -/
def blk (bl0 bl1 k : Nat) : Nat := if k < 16 then bl0 else bl1
theorem Two.leafAt {w w' : World} {bp bf bl0 bl1 : Nat} {s : Pl} {a b : Mp} {t : Nat → Nat → Int} (h : Two w bp bf bl0 bl1 s a b t) {k : Nat} (hk : k < 32) (u : Upd (fun _ => False) w w') :
    Calls Try.prog 39 #[.pointer (some ⟨blk bl0 bl1 k, 0, none⟩), .int .i64 ((k : Int) % 16)] w' fun e w2 => e = .returned (.tuple #[.agg #[.bool (both a b k).there, .bool (both a b k).wr, .int .i64 (both a b k).fr], .nilIface]) ∧ Upd (fun _ => False) w' w2 := by
  by_cases e : k < 16
  · rw [both_lo a b e, show (k : Int) % 16 = (k : Int) by omega]
    unfold blk
    rw [if_pos e]
    exact lvLeaf_at w' bl0 bp k a (h.lv0.upd u (fun f => f)) e
  · obtain ⟨j, rfl⟩ : ∃ j, k = 16 + j := ⟨k - 16, by omega⟩
    rw [both_hi, show ((16 + j : Nat) : Int) % 16 = (j : Int) by omega]
    unfold blk
    rw [if_neg e]
    exact lvLeaf_at w' bl1 bp j b (h.lv1.upd u (fun f => f)) (by omega)
theorem Two.sealAt {w : World} {bp bf bl0 bl1 : Nat} {s : Pl} {a b : Mp} {t : Nat → Nat → Int} (h : Two w bp bf bl0 bl1 s a b t) (hn : 0 < s.n) (d : Ap bp bf bl0 bl1) {k : Nat} (hk : k < 32) :
    Calls Try.prog 42 #[.pointer (some ⟨blk bl0 bl1 k, 0, none⟩), .int .i64 ((k : Int) % 16)] w fun e w2 => (∃ v, e = .returned (errV v)) ∧ ∃ a2 b2 l, Two w2 bp bf bl0 bl1 s a2 b2 t ∧ both a2 b2 = setAt (both a b) k l ∧ l.there = (both a b k).there ∧ l.fr = (both a b k).fr ∧ (l.there = true → l.wr = false) ∧ Upd (fun x => x = bf ∨ x = bl0 ∨ x = bl1) w w2 := by
  have d' := d
  unfold Ap at d'
  by_cases e : k < 16
  · rw [show (k : Int) % 16 = (k : Int) by omega]
    unfold blk
    rw [if_pos e]
    refine (lvSeal w bl0 bp bf k a b s h.lv0 h.pool (by omega) (by omega) hn h.inv).mono ?_
    rintro e' w2 ⟨rfl, hp, hl, hu⟩
    obtain ⟨a2, l, h2, q⟩ := h.seal0 d e hp hl hu
    exact ⟨⟨_, rfl⟩, a2, b, l, h2, q.1, q.2.1, q.2.2.1, q.2.2.2, hu.wide (fun _ e => by omega)⟩
  · obtain ⟨j, rfl⟩ : ∃ j, k = 16 + j := ⟨k - 16, by omega⟩
    rw [show ((16 + j : Nat) : Int) % 16 = (j : Int) by omega]
    unfold blk
    rw [if_neg e]
    refine (lvSeal w bl1 bp bf j b a s h.lv1 h.pool (by omega) (by omega) hn h.inv.swap).mono ?_
    rintro e' w2 ⟨rfl, hp, hl, hu⟩
    obtain ⟨b2, l, h2, q⟩ := h.seal1 d (show j < 16 by omega) hp hl hu
    exact ⟨⟨_, rfl⟩, a, b2, l, h2, q.1, q.2.1, q.2.2.1, q.2.2.2, hu.wide (fun _ e => by omega)⟩
theorem cell_blk {w : World} {q bl0 bl1 k : Nat} (h0 : w.cell? ⟨q, 0, none⟩ = some (.pointer (some ⟨bl0, 0, none⟩))) (h1 : w.cell? ⟨q, 1, none⟩ = some (.pointer (some ⟨bl1, 0, none⟩))) (hk : k < 32) : w.cell? ⟨q, k / 16, none⟩ = some (.pointer (some ⟨blk bl0 bl1 k, 0, none⟩)) := by
  unfold blk
  by_cases e : k < 16
  · rw [if_pos e, show k / 16 = 0 by omega]; exact h0
  · rw [if_neg e, show k / 16 = 1 by omega]; exact h1

set_option maxHeartbeats 1000000 in
theorem seal_any (w : World) (bp bf bl0 bl1 : Nat) (f : Int) (s : Pl) (a b : Mp) (t : Nat → Nat → Int) (h : Two w bp bf bl0 bl1 s a b t) (hn : 0 < s.n) (d : Ap bp bf bl0 bl1) :
    Calls Try.prog 40 #[.agg #[.pointer (some ⟨bl0, 0, none⟩), .pointer (some ⟨bl1, 0, none⟩)], .int .i64 f] w fun e w' => e = .returned (.tuple #[]) ∧ ∃ a' b', Two w' bp bf bl0 bl1 s a' b' t ∧ Sl a b a' b' f 32 ∧ Upd (fun x => x = bf ∨ x = bl0 ∨ x = bl1) w w' := by
  have HH : Hid _ := h
  have HD : Hid _ := d
  have hl0 := h.lv0.lt
  have hl1 := h.lv1.lt
  have hlf : bf < w.heap.size := World.block_lt_of_cell? w _ (h.pool.refs 0 hn)
  have NQ : Hid (¬ (w.heap.size = bf ∨ w.heap.size = bl0 ∨ w.heap.size = bl1)) := show ¬ _ by omega
  clear h d hl0 hl1 hlf
  go_enter Try.func40, Try.ntmps40
  go_wp2_with fail
  have u0 := (Upd.refl (fun x => x = bf ∨ x = bl0 ∨ x = bl1) w).alloc (.cells #[.pointer (some ⟨bl0, 0, none⟩), .pointer (some ⟨bl1, 0, none⟩)] 64)
  have h0 := HH.out.keep hn ((Upd.refl (fun _ => False) w).alloc (.cells #[.pointer (some ⟨bl0, 0, none⟩), .pointer (some ⟨bl1, 0, none⟩)] 64))
  have q0 : (w.alloc (.cells #[.pointer (some ⟨bl0, 0, none⟩), .pointer (some ⟨bl1, 0, none⟩)] 64)).cell? ⟨w.heap.size, 0, none⟩ = some (.pointer (some ⟨bl0, 0, none⟩)) := by rw [World.cell?_alloc_new]; rfl
  have q1 : (w.alloc (.cells #[.pointer (some ⟨bl0, 0, none⟩), .pointer (some ⟨bl1, 0, none⟩)] 64)).cell? ⟨w.heap.size, 1, none⟩ = some (.pointer (some ⟨bl1, 0, none⟩)) := by rw [World.cell?_alloc_new]; rfl
  revert u0 h0 q0 q1 NQ
  generalize w.alloc (.cells #[.pointer (some ⟨bl0, 0, none⟩), .pointer (some ⟨bl1, 0, none⟩)] 64) = w0
  generalize w.heap.size = q
  intro NQ u0 h0 q0 q1
  clear HH
  go_loopg [4] 32 (fun g i wi => ∃ (k : Nat) (a' b' : Mp), k + g = 32 ∧ i = .int .i64 k ∧ Two wi bp bf bl0 bl1 s a' b' t ∧ Sl a b a' b' f k ∧ Upd (fun x => x = bf ∨ x = bl0 ∨ x = bl1) w0 wi)
  case atStart => exact ⟨0, a, b, by omega, rfl, h0, Sl.start a b f, Upd.refl _ _⟩
  case round =>
    obtain ⟨k, a', b', hk, rfl, hI, hS, hu⟩ := hrel
    clear h0
    have HK : Hid _ := hk
    by_cases hlt : k < 32
    · have c0 := cell_blk (hu.cell q0 NQ.out) (hu.cell q1 NQ.out) hlt
      have e1 : (k : Int) / 16 < 2 := by omega
      have e2 : 0 ≤ (k : Int) / 16 := by omega
      clear hk
      go_wp2_with fail
      refine (hI.leafAt hlt (Upd.refl _ _)).mono ?_
      rintro e w1 ⟨rfl, hu1⟩
      have h1 := hI.keep hn hu1
      have hu01 := hu.trans hu1 (fun _ _ f => f.elim)
      have c1 := hu1.cell c0 (fun f => f)
      clear c0 hI hu hu1 q0 q1
      cases ht : (both a' b' k).there with
      | false =>
        have h2 := h1.keep hn ((Upd.refl (fun _ => False) w1).alloc (.cells #[.bool false, .bool (both a' b' k).wr, .int .i64 (both a' b' k).fr] 69))
        have S2 := hS.skip (by rw [ht]; simp)
        have hu2 := hu01.alloc (.cells #[.bool false, .bool (both a' b' k).wr, .int .i64 (both a' b' k).fr] 69)
        have H2 : Hid _ := h2
        have HS2 : Hid _ := S2
        have HU2 : Hid _ := hu2
        clear ht h2 S2 hu2 h1 hS
        go_wp2_with fail
        go_roundg (32 - (k + 1))
        case rel => exact ⟨k + 1, a', b', by omega, by go_num, H2.out, HS2.out, HU2.out⟩
        case measure => have := HK.out; omega
      | true =>
        have h2 := h1.keep hn ((Upd.refl (fun _ => False) w1).alloc (.cells #[.bool true, .bool (both a' b' k).wr, .int .i64 (both a' b' k).fr] 69))
        have hu2 := hu01.alloc (.cells #[.bool true, .bool (both a' b' k).wr, .int .i64 (both a' b' k).fr] 69)
        have c2 := Upd.cell ((Upd.refl (fun _ => False) w1).alloc (.cells #[.bool true, .bool (both a' b' k).wr, .int .i64 (both a' b' k).fr] 69)) c1 (fun f => f)
        cases hb : ((both a' b' k).fr == f) with
        | false =>
          have S2 := hS.skip (by rintro ⟨_, e⟩; rw [e] at hb; simp at hb)
          have H2 : Hid _ := h2
          have HS2 : Hid _ := S2
          have HU2 : Hid _ := hu2
          clear ht h2 S2 hu2 h1 hS c1 c2
          go_wp2_with fail
          go_roundg (32 - (k + 1))
          case rel => exact ⟨k + 1, a', b', by omega, by go_num, H2.out, HS2.out, HU2.out⟩
          case measure => have := HK.out; omega
        | true =>
          have HS : Hid _ := hS
          clear ht h1 hS c1
          go_wp2_with fail
          refine (h2.sealAt hn HD.out hlt).mono ?_
          rintro e w3 ⟨⟨v, rfl⟩, a2, b2, l, h3, eb, lt, lf, lw, hu3⟩
          have S2 := HS.out.step hlt eb lt lf lw
          have hu4 := hu2.trans hu3 (fun _ _ e => e)
          have H3 : Hid _ := h3
          have HS2 : Hid _ := S2
          have HU4 : Hid _ := hu4
          clear h3 S2 hu4 h2 hu2 hu3 eb lt lf lw c2
          go_wp2_with fail
          go_roundg (32 - (k + 1))
          case rel => exact ⟨k + 1, a2, b2, by omega, by go_num, H3.out, HS2.out, HU4.out⟩
          case measure => have := HK.out; omega
    · go_wp2_with fail
      go_end0
      exact ⟨rfl, a', b', hI, by rw [show (32 : Nat) = k by have := HK.out; omega]; exact hS, u0.trans hu (fun _ _ e => e)⟩
end Go.Proofs.Ytadpibcgjgcjhaa
