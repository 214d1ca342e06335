/- The law's mapped: an act on a map, held against the document's answer. -/
import Derived.Test.YtfdppnnechdpeaaMapL
import Derived.Test.YtfdppnnechdpeaaActs
namespace Go.Proofs.Ytfdppnnechdpeaa
open Go.ChangeShapes Go.WideShapes Go.ChangeAt Go.RowKit
set_option maxRecDepth 100000
attribute [local go_sem ↓] Go.wp_at_zero Go.wp_at_succ

/-- Pool and model, one map of each, in one state. -/
structure MI (w : World) (bp bf bm bl bx : Nat) (s : Pl) (m : Mp) : Prop where
  pool : PoolAt w bp bf s
  ref : RefAt w bm s
  lv : LvAt w bl bp m
  rm : RMap w bx bm m
/-- What the acts of one map may turn. -/
def Foot (bf bm bl bx : Nat) : Nat → Prop := fun k => k = bf ∨ k = bm ∨ k = bl ∨ k = bx

/-- The blocks are apart. -/
def Apart (bp bf bm bl bx : Nat) : Prop := bl ≠ bp ∧ bl ≠ bf ∧ bl ≠ bm ∧ bl ≠ bx ∧ bx ≠ bp ∧ bx ≠ bf ∧ bx ≠ bm ∧ bm ≠ bp ∧ bm ≠ bf
theorem MI.keep {w w' : World} {bp bf bm bl bx : Nat} {s : Pl} {m : Mp} (h : MI w bp bf bm bl bx s m) (hn : 0 < s.n) (u : Upd (fun _ => False) w w') : MI w' bp bf bm bl bx s m :=
  ⟨h.pool.upd u (fun f => f) (fun f => f) (h.pool.lt hn), h.ref.upd u (fun f => f), h.lv.upd u (fun f => f), h.rm.upd u (fun f => f)⟩
theorem MI.two {w4 w5 : World} {bp bf bm bl bx : Nat} {s : Pl} {m : Mp} (d : Apart bp bf bm bl bx) (hn : 0 < s.n) (hp : PoolAt w4 bp bf s) (hl : LvAt w4 bl bp m) (hr : RefAt w5 bm s) (hx : RMap w5 bx bm m) (u : Upd (fun k => k = bm ∨ k = bx) w4 w5) : MI w5 bp bf bm bl bx s m := by
  unfold Apart at d
  exact ⟨hp.upd u (by omega) (by omega) (hp.lt hn), hr, hl.upd u (by omega), hx⟩
theorem foot_two {w W1 w4 w5 : World} {bf bm bl bx : Nat} (u0 : Upd (fun _ => False) w W1) (u4 : Upd (fun k => k = bf ∨ k = bl) W1.drew w4) (u5 : Upd (fun k => k = bm ∨ k = bx) w4 w5) : Upd (Foot bf bm bl bx) w w5 :=
  ((u0.wide (T := Foot bf bm bl bx) (fun _ f => f.elim)).drew.trans u4 (fun i _ e => by rcases e with e | e; exact Or.inl e; exact Or.inr (Or.inr (Or.inl e)))).trans u5 (fun i _ e => by rcases e with e | e; exact Or.inr (Or.inl e); exact Or.inr (Or.inr (Or.inr e)))
theorem foot_two' {w W1 w4 w5 : World} {bf bm bl bx : Nat} (u0 : Upd (fun _ => False) w W1) (u4 : Upd (fun k => k = bf ∨ k = bl) W1 w4) (u5 : Upd (fun k => k = bm ∨ k = bx) w4 w5) : Upd (Foot bf bm bl bx) w w5 :=
  foot_two u0 ⟨u4.os, u4.tape, u4.output, u4.size, u4.block⟩ u5

set_option maxHeartbeats 4000000 in
theorem mapped_any (w : World) (bp bf bm bl bx : Nat) (s : Pl) (m m' : Mp) (x : Ac) (h : MI w bp bf bm bl bx s m) (hi : Inv s m m') (hn : 0 < s.n) (d : Apart bp bf bm bl bx) :
    Calls Try.prog 33 #[.pointer (some ⟨bl, 0, none⟩), .pointer (some ⟨bx, 0, none⟩), .pointer (some ⟨bp, 0, none⟩), .pointer (some ⟨bm, 0, none⟩), .agg #[.string x.kind, .int .i64 x.n, .int .i64 x.a, .int .i64 x.b, .int .u8 x.v, .bool x.on]] w
      fun e w' => e = .returned (.bool true) ∧ ∃ s2 m2, MI w' bp bf bm bl bx s2 m2 ∧ Inv s2 m2 m' ∧ s2.n = s.n ∧ Upd (Foot bf bm bl bx) w w' := by
  have D : Hid _ := d
  have hm : ∀ f, f < s.n → s.refs f ≤ 1000000 := fun f hf => by have := hi.le f hf; omega
  have hm9 : ∀ f, f < s.n → s.refs f ≤ 999999 := fun f hf => by have := hi.le f hf; omega
  have qf := h.pool.lt hn
  have qm : bm < w.heap.size := World.block_lt_of_cell? _ _ h.ref.num
  have ql := h.lv.lt
  have qx := h.rm.lt
  clear d
  go_enter Try.func33, Try.ntmps33
  go_upto_block 0 with fail
  have hB := BoxAt.new w x
  have u0 := (Upd.refl (fun _ => False) w).alloc (.cells #[.string x.kind, .int .i64 x.n, .int .i64 x.a, .int .i64 x.b, .int .u8 x.v, .bool x.on] 38)
  have hJ := h.keep hn u0
  revert hB u0 hJ qf qm ql qx
  generalize w.alloc (.cells #[.string x.kind, .int .i64 x.n, .int .i64 x.a, .int .i64 x.b, .int .u8 x.v, .bool x.on] 38) = W1
  generalize w.heap.size = q
  intro qf qm ql qx hB u0 hJ
  have d := D.out
  unfold Apart at d
  have NQ1 : Hid (¬ q = bf ∧ ¬ q = bl) := ⟨by omega, by omega⟩
  have NQ2 : Hid (¬ q = bm ∧ ¬ q = bx) := ⟨by omega, by omega⟩
  have NQ1o : Hid (¬ (q = bf ∨ q = bl)) := show ¬ _ by omega
  have NQ2o : Hid (¬ (q = bm ∨ q = bx)) := show ¬ _ by omega
  have NM1 : Hid (¬ bm = bf ∧ ¬ bm = bl) := ⟨by omega, by omega⟩
  have NM1o : Hid (¬ (bm = bf ∨ bm = bl)) := show ¬ _ by omega
  have NX1o : Hid (¬ (bx = bf ∨ bx = bl)) := show ¬ _ by omega
  have NLP : Hid (bl ≠ bp) := d.1
  have NLF : Hid (bl ≠ bf) := d.2.1
  have NXM : Hid (bx ≠ bm) := d.2.2.2.2.2.2.1
  have NXM' : Hid (¬ bm = bx) := show ¬ _ by omega
  have NXF : Hid (bx ≠ bf) := d.2.2.2.2.2.1
  clear d h qf qm ql qx
  by_cases k0 : (x.kind.toList == [112, 108, 117, 103]) = true
  · have c2 := hB.c2
    have te := plug_code s m x.a
    go_wp2_with fail
    go_region_held3 (fun w' => w'.cell? ⟨q, 2, none⟩ = some (.int .i64 x.a)) (first | exact c2 | exact h4c | exact h5c)
      (first
        | (go_at_call 35; refine (lvPlug _ _ _ _ _ m m' s (by first | exact hJ.lv | exact hJ.lv.drew) (by first | exact hJ.pool | exact hJ.pool.drew) NLP.out NLF.out hn hi).mono ?_; rintro e w4 ⟨rfl, hp4, hl4, hu4⟩; have h4c : w4.cell? ⟨q, 2, none⟩ = some (.int .i64 x.a) := hu4.cell (by exact c2) NQ1o.out; have hr4 := RefAt.upd (by first | exact hJ.ref | exact hJ.ref.drew) hu4 NM1o.out; have hx4 := RMap.upd (by first | exact hJ.rm | exact hJ.rm.drew) hu4 NX1o.out)
        | (go_at_call 57; refine (rPlug_any _ _ _ _ m s hx4 hr4 NXM.out hm).mono ?_; rintro e w5 ⟨rfl, hr5, hx5, hu5⟩; have h5c : w5.cell? ⟨q, 2, none⟩ = some (.int .i64 x.a) := hu5.cell (h4c) NQ2o.out)
        | (go_at_call 10; refine (sameE _ _ te).mono ?_; rintro e w6 ⟨rfl, rfl⟩))
    go_wp2_with fail
    go_ret
    exact ⟨rfl, _, _, MI.two D.out (by rw [plug_n s m x.a]; exact hn) hp4 hl4 hr5 hx5 hu5, hi.plug x.a, plug_n s m x.a, foot_two u0 hu4 hu5⟩
  · have k0' : (x.kind.toList == [112, 108, 117, 103]) = false := by simpa using k0
    clear k0
    by_cases k1 : (x.kind.toList == [117, 110, 112, 108, 117, 103]) = true
    · have c2 := hB.c2
      have te := unplug_code s m x.a
      go_wp2_with fail
      go_region_held3 (fun w' => w'.cell? ⟨q, 2, none⟩ = some (.int .i64 x.a)) (first | exact c2 | exact h4c | exact h5c)
        (first
          | (go_at_call 31; refine (lvUnplug _ _ _ _ _ m m' s (by first | exact hJ.lv | exact hJ.lv.drew) (by first | exact hJ.pool | exact hJ.pool.drew) NLP.out NLF.out hn hi).mono ?_; rintro e w4 ⟨rfl, hp4, hl4, hu4⟩; have h4c : w4.cell? ⟨q, 2, none⟩ = some (.int .i64 x.a) := hu4.cell (by exact c2) NQ1o.out; have hr4 := RefAt.upd (by first | exact hJ.ref | exact hJ.ref.drew) hu4 NM1o.out; have hx4 := RMap.upd (by first | exact hJ.rm | exact hJ.rm.drew) hu4 NX1o.out)
          | (go_at_call 58; refine (rUnplug_any _ _ _ _ m s hx4 hr4 NXM.out hm).mono ?_; rintro e w5 ⟨rfl, hr5, hx5, hu5⟩; have h5c : w5.cell? ⟨q, 2, none⟩ = some (.int .i64 x.a) := hu5.cell (h4c) NQ2o.out)
          | (go_at_call 10; refine (sameE _ _ te).mono ?_; rintro e w6 ⟨rfl, rfl⟩))
      go_wp2_with fail
      go_ret
      exact ⟨rfl, _, _, MI.two D.out (by rw [unplug_n s m x.a]; exact hn) hp4 hl4 hr5 hx5 hu5, hi.unplug x.a, unplug_n s m x.a, foot_two u0 hu4 hu5⟩
    · have k1' : (x.kind.toList == [117, 110, 112, 108, 117, 103]) = false := by simpa using k1
      clear k1
      by_cases k2 : (x.kind.toList == [103, 105, 118, 101]) = true
      · have c2 := hB.c2
        have te := give_code s m x.a false
        go_wp2_with fail
        go_region_held3 (fun w' => w'.cell? ⟨q, 2, none⟩ = some (.int .i64 x.a)) (first | exact c2 | exact h4c | exact h5c)
          (first
            | (go_at_call 59; refine (lvGive _ _ _ _ _ m m' s (by first | exact hJ.lv | exact hJ.lv.drew) (by first | exact hJ.pool | exact hJ.pool.drew) NLP.out NLF.out hn hi).mono ?_; rintro e w4 ⟨rfl, hp4, hl4, hu4⟩; have h4c : w4.cell? ⟨q, 2, none⟩ = some (.int .i64 x.a) := hu4.cell (by exact c2) NQ1o.out; have hr4 := RefAt.upd (by first | exact hJ.ref | exact hJ.ref.drew) hu4 NM1o.out; have hx4 := RMap.upd (by first | exact hJ.rm | exact hJ.rm.drew) hu4 NX1o.out)
            | (go_at_call 60; refine (rGive_any _ _ _ _ false m s hx4 hr4 NXM.out hm).mono ?_; rintro e w5 ⟨rfl, hr5, hx5, hu5⟩; have h5c : w5.cell? ⟨q, 2, none⟩ = some (.int .i64 x.a) := hu5.cell (h4c) NQ2o.out)
            | (go_at_call 10; refine (sameE _ _ te).mono ?_; rintro e w6 ⟨rfl, rfl⟩))
        go_wp2_with fail
        go_ret
        exact ⟨rfl, _, _, MI.two D.out (by rw [give_n s m x.a false]; exact hn) hp4 hl4 hr5 hx5 hu5, hi.give x.a false, give_n s m x.a false, foot_two u0 hu4 hu5⟩
      · have k2' : (x.kind.toList == [103, 105, 118, 101]) = false := by simpa using k2
        clear k2
        by_cases k3 : (x.kind.toList == [98, 97, 99, 107]) = true
        · have c2 := hB.c2
          have te := give_code s m x.a true
          go_wp2_with fail
          go_region_held3 (fun w' => w'.cell? ⟨q, 2, none⟩ = some (.int .i64 x.a)) (first | exact c2 | exact h4c | exact h5c)
            (first
              | (go_at_call 61; refine (lvBack _ _ _ _ _ m m' s (by first | exact hJ.lv | exact hJ.lv.drew) (by first | exact hJ.pool | exact hJ.pool.drew) NLP.out NLF.out hn hi).mono ?_; rintro e w4 ⟨rfl, hp4, hl4, hu4⟩; have h4c : w4.cell? ⟨q, 2, none⟩ = some (.int .i64 x.a) := hu4.cell (by exact c2) NQ1o.out; have hr4 := RefAt.upd (by first | exact hJ.ref | exact hJ.ref.drew) hu4 NM1o.out; have hx4 := RMap.upd (by first | exact hJ.rm | exact hJ.rm.drew) hu4 NX1o.out)
              | (go_at_call 60; refine (rGive_any _ _ _ _ true m s hx4 hr4 NXM.out hm).mono ?_; rintro e w5 ⟨rfl, hr5, hx5, hu5⟩; have h5c : w5.cell? ⟨q, 2, none⟩ = some (.int .i64 x.a) := hu5.cell (h4c) NQ2o.out)
              | (go_at_call 10; refine (sameE _ _ te).mono ?_; rintro e w6 ⟨rfl, rfl⟩))
          go_wp2_with fail
          go_ret
          exact ⟨rfl, _, _, MI.two D.out (by rw [give_n s m x.a true]; exact hn) hp4 hl4 hr5 hx5 hu5, hi.give x.a true, give_n s m x.a true, foot_two u0 hu4 hu5⟩
        · have k3' : (x.kind.toList == [98, 97, 99, 107]) = false := by simpa using k3
          clear k3
          by_cases k4 : (x.kind.toList == [115, 101, 97, 108]) = true
          · have c2 := hB.c2
            have te := seal_code m x.a
            go_wp2_with fail
            go_region_held3 (fun w' => w'.cell? ⟨q, 2, none⟩ = some (.int .i64 x.a)) (first | exact c2 | exact h4c | exact h5c)
              (first
                | (go_at_call 39; refine (lvSeal _ _ _ _ _ m m' s (by first | exact hJ.lv | exact hJ.lv.drew) (by first | exact hJ.pool | exact hJ.pool.drew) NLP.out NLF.out hn hi).mono ?_; rintro e w4 ⟨rfl, hp4, hl4, hu4⟩; have h4c : w4.cell? ⟨q, 2, none⟩ = some (.int .i64 x.a) := hu4.cell (by exact c2) NQ1o.out; have hr4 := RefAt.upd (by first | exact hJ.ref | exact hJ.ref.drew) hu4 NM1o.out; have hx4 := RMap.upd (by first | exact hJ.rm | exact hJ.rm.drew) hu4 NX1o.out)
                | (go_at_call 62; refine (rSeal_any _ _ _ _ m hx4).mono ?_; rintro e w5 ⟨rfl, hx5, hu5⟩; have h5c : w5.cell? ⟨q, 2, none⟩ = some (.int .i64 x.a) := hu5.cell (h4c) NQ2.out.2)
                | (go_at_call 10; refine (sameE _ _ te).mono ?_; rintro e w6 ⟨rfl, rfl⟩))
            go_wp2_with fail
            go_ret
            exact ⟨rfl, _, _, MI.two D.out hn hp4 hl4 (hr4.upd hu5 NXM'.out) hx5 (hu5.wide (fun _ e => Or.inr e)), hi.seal x.a, rfl, foot_two u0 hu4 (hu5.wide (fun _ e => Or.inr e))⟩
          · have k4' : (x.kind.toList == [115, 101, 97, 108]) = false := by simpa using k4
            clear k4
            by_cases k5 : (x.kind.toList == [106, 111, 105, 110]) = true
            · have c2 := hB.c2
              have c3 := hB.c3
              have te := join_code s m x.a x.b
              go_wp2_with fail
              go_region_held3 (fun w' => w'.cell? ⟨q, 2, none⟩ = some (.int .i64 x.a) ∧ w'.cell? ⟨q, 3, none⟩ = some (.int .i64 x.b)) (first | exact ⟨c2, c3⟩ | exact h4c | exact h5c)
                (first
                  | (go_at_call 38; refine (lvJoin _ _ _ _ _ _ m m' s (by first | exact hJ.lv | exact hJ.lv.drew) (by first | exact hJ.pool | exact hJ.pool.drew) NLP.out NLF.out hn hi).mono ?_; rintro e w4 ⟨rfl, hp4, hl4, hu4⟩; have h4c : w4.cell? ⟨q, 2, none⟩ = some (.int .i64 x.a) ∧ w4.cell? ⟨q, 3, none⟩ = some (.int .i64 x.b) := ⟨hu4.cell (by exact c2) NQ1o.out, hu4.cell (by exact c3) NQ1o.out⟩; have hr4 := RefAt.upd (by first | exact hJ.ref | exact hJ.ref.drew) hu4 NM1o.out; have hx4 := RMap.upd (by first | exact hJ.rm | exact hJ.rm.drew) hu4 NX1o.out)
                  | (go_at_call 63; refine (rJoin_any _ _ _ _ _ m s hx4 hr4 NXM.out hm9).mono ?_; rintro e w5 ⟨rfl, hr5, hx5, hu5⟩; have h5c : w5.cell? ⟨q, 2, none⟩ = some (.int .i64 x.a) ∧ w5.cell? ⟨q, 3, none⟩ = some (.int .i64 x.b) := ⟨hu5.cell (h4c.1) NQ2o.out, hu5.cell (h4c.2) NQ2o.out⟩)
                  | (go_at_call 10; refine (sameE _ _ te).mono ?_; rintro e w6 ⟨rfl, rfl⟩))
              go_wp2_with fail
              go_ret
              exact ⟨rfl, _, _, MI.two D.out (by rw [join_n s m x.a x.b]; exact hn) hp4 hl4 hr5 hx5 hu5, hi.join x.a x.b, join_n s m x.a x.b, foot_two u0 hu4 hu5⟩
            · have k5' : (x.kind.toList == [106, 111, 105, 110]) = false := by simpa using k5
              clear k5
              by_cases k6 : (x.kind.toList == [115, 101, 116]) = true
              · have c2 := hB.c2
                have c3 := hB.c3
                have c4 := hB.c4
                have te := set_code s x.a x.b x.v
                go_wp2_with fail
                go_region_held3 (fun w' => w'.cell? ⟨q, 2, none⟩ = some (.int .i64 x.a) ∧ w'.cell? ⟨q, 3, none⟩ = some (.int .i64 x.b) ∧ w'.cell? ⟨q, 4, none⟩ = some (.int .u8 x.v)) (first | exact ⟨c2, c3, c4⟩ | exact h4c | exact h5c)
                  (first
                    | (go_at_call 18; refine (set_any _ _ _ _ _ _ s (by first | exact hJ.pool | exact hJ.pool.drew)).mono ?_; rintro e w4 ⟨rfl, hp4, hu4⟩; have h4c : w4.cell? ⟨q, 2, none⟩ = some (.int .i64 x.a) ∧ w4.cell? ⟨q, 3, none⟩ = some (.int .i64 x.b) ∧ w4.cell? ⟨q, 4, none⟩ = some (.int .u8 x.v) := ⟨hu4.cell (by exact c2) NQ1.out.1, hu4.cell (by exact c3) NQ1.out.1, hu4.cell (by exact c4) NQ1.out.1⟩; have hr4 := RefAt.upd (by first | exact hJ.ref | exact hJ.ref.drew) hu4 NM1.out.1)
                    | (go_at_call 19; refine (rSet_any _ _ _ _ _ s hr4).mono ?_; rintro e w5 ⟨rfl, hr5, hu5⟩; have h5c : w5.cell? ⟨q, 2, none⟩ = some (.int .i64 x.a) ∧ w5.cell? ⟨q, 3, none⟩ = some (.int .i64 x.b) ∧ w5.cell? ⟨q, 4, none⟩ = some (.int .u8 x.v) := ⟨hu5.cell (h4c.1) NQ2.out.1, hu5.cell (h4c.2.1) NQ2.out.1, hu5.cell (h4c.2.2) NQ2.out.1⟩)
                    | (go_at_call 10; refine (sameE _ _ te).mono ?_; rintro e w6 ⟨rfl, rfl⟩))
                go_wp2_with fail
                go_ret
                exact ⟨rfl, _, _, MI.two D.out (by rw [set_n]; exact hn) hp4 (hJ.lv.drew.upd hu4 NLF.out) hr5 (RMap.upd (hJ.rm.drew.upd hu4 NXF.out) hu5 NXM.out) (hu5.wide (fun _ e => Or.inl e)), hi.set _ _ _, set_n _ _ _ _, foot_two u0 (hu4.wide (fun _ e => Or.inl e)) (hu5.wide (fun _ e => Or.inl e))⟩
              · have k6' : (x.kind.toList == [115, 101, 116]) = false := by simpa using k6
                clear k6
                have c2 := hB.c2
                have c3 := hB.c3
                have te := touch_code s m x.a (decide (0 < x.b))
                have t1 : ((touchR s m x.a (decide (0 < x.b))).1.1 == (touchR s m x.a (decide (0 < x.b))).1.1) = true := by simp
                have t2 : ((touchR s m x.a (decide (0 < x.b))).1.2.1 == (touchR s m x.a (decide (0 < x.b))).1.2.1) = true := by simp
                go_wp2_with fail
                refine (lvTouch _ _ _ _ _ _ m m' s hJ.lv hJ.pool NLP.out NLF.out hn hi).mono ?_
                rintro e w4 ⟨rfl, hp4, hl4, hu4⟩
                have hr4 := hJ.ref.upd hu4 NM1o.out
                have hx4 := hJ.rm.upd hu4 NX1o.out
                have d2 := hu4.cell c2 NQ1o.out
                have d3 := hu4.cell c3 NQ1o.out
                clear c2 c3
                go_wp2_with fail
                refine (rTouch_any _ _ _ _ _ m s hx4 hr4 NXM.out hm9 hi.ok).mono ?_
                rintro e w5 ⟨rfl, hr5, hx5, hu5⟩
                go_wp2_with fail
                refine (sameE _ _ te).mono ?_
                rintro e w6 ⟨rfl, rfl⟩
                go_wp2_with fail
                go_ret
                exact ⟨rfl, _, _, MI.two D.out (by rw [touch_n]; exact hn) hp4 hl4 hr5 hx5 hu5, hi.touch _ _, touch_n _ _ _ _, foot_two' u0 hu4 hu5⟩
end Go.Proofs.Ytfdppnnechdpeaa
