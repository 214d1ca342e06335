/- Package leaves: what Touch answers and turns. -/
import Derived.Test.YtadpibcgjgcjhabGreatDoorLvC
namespace Go.Proofs.YtadpibcgjgcjhabGreatDoor
open Go.ChangeShapes Go.WideShapes Go.ChangeAt Go.RowKit
set_option maxRecDepth 100000
attribute [local go_sem ↓] Go.wp_at_zero Go.wp_at_succ

theorem lvTouch_out (w : World) (bl : Nat) (n : Int) (wt : Bool) (ho : onB n = false) :
    Calls Tryz.prog 173 #[.pointer (some ⟨bl, 0, none⟩), .int .i64 n, .bool wt] w fun e w' => e = .returned (.tuple #[.int .i64 0, .bool false, .iface 37 (.int .i64 1)]) ∧ w' = w := by
  go_enter Tryz.func173, Tryz.ntmps173
  go_wp2_with (go_at_call 147; refine (page_no _ _ _ ho).mono ?_; rintro e w' ⟨rfl, rfl⟩)
  go_ret3
  exact ⟨rfl, rfl⟩
theorem lvTouch_absent (w : World) (bl bp k : Nat) (wt : Bool) (m : Mp) (h : LvAt w bl bp m) (hk : k < 16) (hs : m.st k = 0) :
    Calls Tryz.prog 173 #[.pointer (some ⟨bl, 0, none⟩), .int .i64 k, .bool wt] w fun e w' => e = .returned (.tuple #[.int .i64 0, .bool false, .iface 37 (.int .i64 2)]) ∧ w' = w := by
  have c1 := h.st k hk
  have b1 : (m.st k == 0) = true := by simp [hs]
  clear hs
  go_enter Tryz.func173, Tryz.ntmps173
  go_wp2_with (go_at_call 147; refine (page_yes _ _ _ hk).mono ?_; rintro e w' ⟨rfl, rfl⟩)
  go_ret3
  exact ⟨rfl, rfl⟩
theorem lvTouch_gone (w : World) (bl bp k : Nat) (wt : Bool) (m : Mp) (h : LvAt w bl bp m) (hk : k < 16) (hs : m.st k = 2) :
    Calls Tryz.prog 173 #[.pointer (some ⟨bl, 0, none⟩), .int .i64 k, .bool wt] w fun e w' => e = .returned (.tuple #[.int .i64 0, .bool false, .iface 37 (.int .i64 6)]) ∧ w' = w := by
  have c1 := h.st k hk
  have b1 : (m.st k == 0) = false := by simp [hs]
  have b2 : (m.st k == 2) = true := by simp [hs]
  clear hs
  go_enter Tryz.func173, Tryz.ntmps173
  go_wp2_with (go_at_call 147; refine (page_yes _ _ _ hk).mono ?_; rintro e w' ⟨rfl, rfl⟩)
  go_ret3
  exact ⟨rfl, rfl⟩
theorem lvTouch_keep (w : World) (bl bp k : Nat) (wt : Bool) (m : Mp) (h : LvAt w bl bp m) (hk : k < 16) (h0 : m.st k ≠ 0) (h2 : m.st k ≠ 2) (ht : (m.lf k).there = true) (hw : (!wt || (m.lf k).wr) = true) :
    Calls Tryz.prog 173 #[.pointer (some ⟨bl, 0, none⟩), .int .i64 k, .bool wt] w fun e w' => e = .returned (.tuple #[.int .i64 (m.lf k).fr, .bool false, .nilIface]) ∧ w' = w := by
  have c1 := h.st k hk
  have b1 : (m.st k == 0) = false := by simp [h0]
  have b2 : (m.st k == 2) = false := by simp [h2]
  have c2 := h.th k hk
  have c3 := h.wr k hk
  have c4 := h.fr k hk
  rw [ht] at c2
  clear h0 h2 ht
  cases hwr : (m.lf k).wr with
  | true =>
    rw [hwr] at c3
    clear hw hwr
    go_enter Tryz.func173, Tryz.ntmps173
    go_wp2_with (go_at_call 147; refine (page_yes _ _ _ hk).mono ?_; rintro e w' ⟨rfl, rfl⟩)
    go_ret3
    exact ⟨rfl, rfl⟩
  | false =>
    rw [hwr] at c3 hw
    obtain rfl : wt = false := by simpa using hw
    clear hw hwr
    go_enter Tryz.func173, Tryz.ntmps173
    go_wp2_with (go_at_call 147; refine (page_yes _ _ _ hk).mono ?_; rintro e w' ⟨rfl, rfl⟩)
    go_ret3
    exact ⟨rfl, rfl⟩
theorem alone_is (w : World) (bl bp bf : Nat) (f : Int) (m : Mp) (s : Pl) (h : LvAt w bl bp m) (hp : PoolAt w bp bf s) (f0 : 0 ≤ f) (f1 : f < s.n) {u : Bool} (hu : (s.refs f.toNat == 1) = u) :
    Calls Tryz.prog 191 #[.pointer (some ⟨bl, 0, none⟩), .int .i64 f] w fun e w' => e = .returned (.bool u) ∧ Upd (fun _ => False) w w' := by
  subst hu; exact alone_any w bl bp bf f m s h hp f0 f1
theorem lvTouch_own (w : World) (bl bp bf k : Nat) (m : Mp) (s : Pl) (h : LvAt w bl bp m) (hp : PoolAt w bp bf s) (h1 : bl ≠ bp) (h2 : bl ≠ bf) (hk : k < 16) (hlt : bf < w.heap.size) (s0 : m.st k ≠ 0) (s2 : m.st k ≠ 2)
    (ht : (m.lf k).there = true) (hw : (m.lf k).wr = false) (f0 : 0 ≤ (m.lf k).fr) (f1 : (m.lf k).fr < s.n) (hone : s.refs (m.lf k).fr.toNat = 1) :
    Calls Tryz.prog 173 #[.pointer (some ⟨bl, 0, none⟩), .int .i64 k, .bool true] w fun e w' => e = .returned (.tuple #[.int .i64 (m.lf k).fr, .bool false, .nilIface]) ∧
      PoolAt w' bp bf s ∧ LvAt w' bl bp { m with lf := setAt m.lf k { m.lf k with wr := true } } ∧ Upd (fun k => k = bf ∨ k = bl) w w' := by
  have c1 := h.st k hk
  have b1 : (m.st k == 0) = false := by simp [s0]
  have b2 : (m.st k == 2) = false := by simp [s2]
  have c2 := h.th k hk
  have c3 := h.wr k hk
  have c4 := h.fr k hk
  rw [ht] at c2
  rw [hw] at c3
  have H1 : Hid _ := h1
  have H2 : Hid _ := h2
  have HT : Hid _ := ht
  have hb : (s.refs (m.lf k).fr.toNat == 1) = true := by simp [hone]
  have HB : Hid _ := hb
  clear s0 s2 ht hw h1 h2 hone hb
  go_enter Tryz.func173, Tryz.ntmps173
  go_wp2_with (go_at_call 147; refine (page_yes _ _ _ hk).mono ?_; rintro e w' ⟨rfl, rfl⟩)
  refine (alone_is _ _ _ _ _ m s h hp f0 f1 HB.out).mono ?_
  rintro e w1 ⟨rfl, hu1⟩
  have hl1 := h.upd hu1 (fun f => f)
  have hp1 := hp.upd hu1 (fun f => f) (fun f => f) hlt
  have d2 := hl1.wr k hk
  have d3 := hl1.fr k hk
  have d4 := hl1.fz (1 + k * 4 + 1 + 1)
  have h3 := hl1.setWr hk true
  have d5 := h3.fr k hk
  simp only [setAt_same] at d5
  have hu3 := Upd.one w1 bl (1 + k * 4 + 1 + 1) (.bool true)
  have hp3 := hp1.upd hu3 (Ne.symm H1.out) (Ne.symm H2.out) (Nat.lt_of_lt_of_le hlt hu1.size)
  have hu4 := (hu1.wide (T := fun k => k = bf ∨ k = bl) (fun _ f => f.elim)).trans hu3 (fun _ _ e => Or.inr e)
  have H3 : Hid _ := h3
  have HU4 : Hid _ := hu4
  have HP3 : Hid _ := hp3
  clear h3 hu3 hp3 hu4 hl1 hu1 hp1 c1 c2 c3 c4
  go_wp2_with fail
  go_ret3
  exact ⟨rfl, HP3.out, H3.out, HU4.out⟩
theorem lvTouch_new (w : World) (bl bp k : Nat) (wt : Bool) (m : Mp) (h : LvAt w bl bp m) (hk : k < 16) (s0 : m.st k ≠ 0) (s2 : m.st k ≠ 2) (ht : (m.lf k).there = false) (x y z : Value) (R : World → Prop)
    (hmv : Calls Tryz.prog 192 #[.pointer (some ⟨bl, 0, none⟩), .pointer (some ⟨bl, 1 + k * 4, none⟩)] w fun e w' => e = .returned (.tuple #[x, y, z]) ∧ R w') :
    Calls Tryz.prog 173 #[.pointer (some ⟨bl, 0, none⟩), .int .i64 k, .bool wt] w fun e w' => e = .returned (.tuple #[x, y, z]) ∧ R w' := by
  have c1 := h.st k hk
  have b1 : (m.st k == 0) = false := by simp [s0]
  have b2 : (m.st k == 2) = false := by simp [s2]
  have c2 := h.th k hk
  rw [ht] at c2
  clear s0 s2 ht
  go_enter Tryz.func173, Tryz.ntmps173
  go_wp2_with (go_at_call 147; refine (page_yes _ _ _ hk).mono ?_; rintro e w' ⟨rfl, rfl⟩)
  refine Calls.mono hmv ?_
  rintro e w1 ⟨rfl, hR⟩
  go_wp2_with fail
  go_ret3
  exact ⟨rfl, hR⟩
theorem lvTouch_shared (w : World) (bl bp bf k : Nat) (m : Mp) (s : Pl) (h : LvAt w bl bp m) (hp : PoolAt w bp bf s) (hk : k < 16) (s0 : m.st k ≠ 0) (s2 : m.st k ≠ 2)
    (ht : (m.lf k).there = true) (hw : (m.lf k).wr = false) (f0 : 0 ≤ (m.lf k).fr) (f1 : (m.lf k).fr < s.n) (hone : s.refs (m.lf k).fr.toNat ≠ 1) (x y z : Value) (R : World → Prop)
    (hmv : ∀ w1, Upd (fun _ => False) w w1 → Calls Tryz.prog 192 #[.pointer (some ⟨bl, 0, none⟩), .pointer (some ⟨bl, 1 + k * 4, none⟩)] w1 fun e w' => e = .returned (.tuple #[x, y, z]) ∧ R w') :
    Calls Tryz.prog 173 #[.pointer (some ⟨bl, 0, none⟩), .int .i64 k, .bool true] w fun e w' => e = .returned (.tuple #[x, y, z]) ∧ R w' := by
  have c1 := h.st k hk
  have b1 : (m.st k == 0) = false := by simp [s0]
  have b2 : (m.st k == 2) = false := by simp [s2]
  have c2 := h.th k hk
  have c3 := h.wr k hk
  have c4 := h.fr k hk
  rw [ht] at c2
  rw [hw] at c3
  have hb : (s.refs (m.lf k).fr.toNat == 1) = false := by simp [hone]
  have HB : Hid _ := hb
  clear s0 s2 ht hw hone hb
  go_enter Tryz.func173, Tryz.ntmps173
  go_wp2_with (go_at_call 147; refine (page_yes _ _ _ hk).mono ?_; rintro e w' ⟨rfl, rfl⟩)
  refine (alone_is _ _ _ _ _ m s h hp f0 f1 HB.out).mono ?_
  rintro e w1 ⟨rfl, hu1⟩
  clear c1 c2 c3 c4
  go_wp2_with fail
  refine Calls.mono (hmv w1 hu1) ?_
  rintro e w2 ⟨rfl, hR⟩
  go_wp2_with fail
  go_ret3
  exact ⟨rfl, hR⟩
theorem lvTouch (w : World) (bl bp bf : Nat) (n : Int) (wt : Bool) (m m' : Mp) (s : Pl) (h : LvAt w bl bp m) (hp : PoolAt w bp bf s) (h1 : bl ≠ bp) (h2 : bl ≠ bf) (hn : 0 < s.n) (hi : Inv s m m') :
    Calls Tryz.prog 173 #[.pointer (some ⟨bl, 0, none⟩), .int .i64 n, .bool wt] w fun e w' => e = .returned (.tuple #[.int .i64 (touchR s m n wt).1.1, .bool (touchR s m n wt).1.2.1, errV (touchR s m n wt).1.2.2]) ∧ PoolAt w' bp bf (touchR s m n wt).2.1 ∧ LvAt w' bl bp (touchR s m n wt).2.2 ∧ Upd (fun k => k = bf ∨ k = bl) w w' := by
  have hlt : bf < w.heap.size := World.block_lt_of_cell? w _ (hp.refs 0 hn)
  have hm : ∀ k, k < s.n → s.refs k ≤ 1000000 := fun k hk => by have := hi.le k hk; omega
  cases ho : onB n with
  | false =>
    simp only [touchR, ho, Bool.false_eq_true, if_false, errV1]
    refine (lvTouch_out w bl n wt ho).mono ?_
    rintro e w' ⟨rfl, rfl⟩
    exact ⟨rfl, hp, h, Upd.refl _ _⟩
  | true =>
    obtain ⟨h0, h1'⟩ := (onB_iff n).1 ho
    obtain ⟨k, rfl⟩ := Int.eq_ofNat_of_zero_le h0
    have hk : k < 16 := by omega
    by_cases s0 : m.st k = 0
    · simp only [touchR, ho, if_true, Int.toNat_natCast, s0, errV2]
      refine (lvTouch_absent w bl bp k wt m h hk s0).mono ?_
      rintro e w' ⟨rfl, rfl⟩
      exact ⟨rfl, hp, h, Upd.refl _ _⟩
    · by_cases s2 : m.st k = 2
      · simp only [touchR, ho, if_true, Int.toNat_natCast, s2, errV6, show ¬ ((2 : Int) = 0) by omega, if_false]
        refine (lvTouch_gone w bl bp k wt m h hk s2).mono ?_
        rintro e w' ⟨rfl, rfl⟩
        exact ⟨rfl, hp, h, Upd.refl _ _⟩
      · cases ha : ((m.lf k).there && (!wt || (m.lf k).wr)) with
        | true =>
          simp only [touchR, ho, if_true, Int.toNat_natCast, s0, s2, if_false, ha, errV_zero]
          simp only [Bool.and_eq_true] at ha
          refine (lvTouch_keep w bl bp k wt m h hk s0 s2 ha.1 ha.2).mono ?_
          rintro e w' ⟨rfl, rfl⟩
          exact ⟨rfl, hp, h, Upd.refl _ _⟩
        | false =>
          cases ht : (m.lf k).there with
          | false =>
            have hsp := firstFrom_spec s.refs s.n 0
            cases hff : firstFrom s.refs 0 s.n with
            | none =>
              rw [hff] at hsp
              simp only [touchR, ho, if_true, Int.toNat_natCast, s0, s2, if_false, ht, Bool.false_and, Bool.false_eq_true, take_none hff, show ¬ ((3 : Int) = 0) by omega, errV3]
              refine lvTouch_new w bl bp k wt m h hk s0 s2 ht _ _ _ _ ?_
              refine (move_full w bl bp bf k m s h hp (fun i hi => hsp i (by omega) (by omega))).mono ?_
              rintro e w' ⟨rfl, rfl⟩
              exact ⟨rfl, hp, h, Upd.refl _ _⟩
            | some j =>
              rw [hff] at hsp
              obtain ⟨_, j1, j2, j3⟩ := hsp
              simp only [touchR, ho, if_true, Int.toNat_natCast, s0, s2, if_false, ht, Bool.false_and, Bool.false_eq_true, take_some hff, errV_zero]
              exact lvTouch_new w bl bp k wt m h hk s0 s2 ht _ _ _ _ (move_new w bl bp bf k j m s h hp h1 h2 hk hlt hm ht (by omega) j2 (fun i hi => j3 i (by omega) hi))
          | true =>
            rw [ht] at ha
            have hw : (m.lf k).wr = false := by
              cases hh : (m.lf k).wr with
              | false => rfl
              | true => rw [hh] at ha; simp at ha
            have hwt : wt = true := by
              cases wt with
              | true => rfl
              | false => simp at ha
            subst hwt
            obtain ⟨f0, f1, f2⟩ := hi.ok k hk ht
            by_cases hone : s.refs (m.lf k).fr.toNat = 1
            · have hb : (s.refs (m.lf k).fr.toNat == 1) = true := by simp [hone]
              simp only [touchR, ho, if_true, Int.toNat_natCast, s0, s2, if_false, ht, hw, hb, Bool.true_and, Bool.not_true, Bool.or_self, Bool.false_eq_true, errV_zero]
              have := lvTouch_own w bl bp bf k m s h hp h1 h2 hk hlt s0 s2 ht hw f0 f1 hone
              simpa only [ht] using this
            · have hb : (s.refs (m.lf k).fr.toNat == 1) = false := by simp [hone]
              have hsp := firstFrom_spec s.refs s.n 0
              cases hff : firstFrom s.refs 0 s.n with
              | none =>
                rw [hff] at hsp
                simp only [touchR, ho, if_true, Int.toNat_natCast, s0, s2, if_false, ht, hw, hb, Bool.and_false, Bool.not_true, Bool.or_self, Bool.false_eq_true, take_none hff, show ¬ ((3 : Int) = 0) by omega, errV3]
                refine lvTouch_shared w bl bp bf k m s h hp hk s0 s2 ht hw f0 f1 hone _ _ _ _ (fun w1 hu1 => ?_)
                refine (move_full w1 bl bp bf k m s (h.upd hu1 (fun f => f)) (hp.upd hu1 (fun f => f) (fun f => f) hlt) (fun i hi => hsp i (by omega) (by omega))).mono ?_
                rintro e w' ⟨rfl, rfl⟩
                exact ⟨rfl, hp.upd hu1 (fun f => f) (fun f => f) hlt, h.upd hu1 (fun f => f), hu1.wide (fun _ f => f.elim)⟩
              | some j =>
                rw [hff] at hsp
                obtain ⟨_, j1, j2, j3⟩ := hsp
                simp only [touchR, ho, if_true, Int.toNat_natCast, s0, s2, if_false, ht, hw, hb, Bool.and_false, Bool.not_true, Bool.or_self, Bool.false_eq_true, take_some hff, errV_zero]
                refine lvTouch_shared w bl bp bf k m s h hp hk s0 s2 ht hw f0 f1 hone _ _ _ _ (fun w1 hu1 => ?_)
                refine (move_yes w1 bl bp bf k j m s (h.upd hu1 (fun f => f)) (hp.upd hu1 (fun f => f) (fun f => f) hlt) h1 h2 hk (Nat.lt_of_lt_of_le hlt hu1.size) hm ht f0 f1 f2 (by omega) j2 (fun i hi => j3 i (by omega) hi)).mono ?_
                rintro e w' ⟨rfl, a1, a2, a3⟩
                exact ⟨rfl, a1, a2, (hu1.wide (fun _ f => f.elim)).trans a3 (fun _ _ e => e)⟩
end Go.Proofs.YtadpibcgjgcjhabGreatDoor
