/- undercrofttop.seal: all pages of two maps in a frame are sealed. -/
import Derived.Test.YtfdppnnechdpeaaTmA
import Derived.Test.YtfdppnnechdpeaaActs
namespace Go.Proofs.Ytfdppnnechdpeaa
open Go.ChangeShapes Go.WideShapes Go.ChangeAt Go.RowKit
set_option maxRecDepth 100000
attribute [local go_sem ↓] Go.wp_at_zero Go.wp_at_succ

/-- Four blocks apart. -/
def Ap (bp bf bl0 bl1 : Nat) : Prop := bl0 ≠ bp ∧ bl0 ≠ bf ∧ bl1 ≠ bp ∧ bl1 ≠ bf ∧ bl0 ≠ bl1
/-- Two maps on one pool, in memory and plainly. -/
structure Two (w : World) (bp bf bl0 bl1 : Nat) (s : Pl) (a b : Mp) (t : Nat → Nat → Int) : Prop where
  pool : PoolAt w bp bf s
  lv0 : LvAt w bl0 bp a
  lv1 : LvAt w bl1 bp b
  inv : Inv s a b
  st0 : ∀ k, k < 16 → a.st k = 1
  st1 : ∀ k, k < 16 → b.st k = 1
  r : RInv s (both a b) t
theorem Two.keep {w w' : World} {bp bf bl0 bl1 : Nat} {s : Pl} {a b : Mp} {t : Nat → Nat → Int} (h : Two w bp bf bl0 bl1 s a b t) (hn : 0 < s.n) (u : Upd (fun _ => False) w w') : Two w' bp bf bl0 bl1 s a b t :=
  { h with pool := h.pool.upd u (fun f => f) (fun f => f) (World.block_lt_of_cell? w _ (h.pool.refs 0 hn)), lv0 := h.lv0.upd u (fun f => f), lv1 := h.lv1.upd u (fun f => f) }
theorem Two.far {S : Nat → Prop} {w w' : World} {bp bf bl0 bl1 : Nat} {s : Pl} {a b : Mp} {t : Nat → Nat → Int} (h : Two w bp bf bl0 bl1 s a b t) (hn : 0 < s.n) (u : Upd S w w') (h1 : ¬ S bp) (h2 : ¬ S bf) (h3 : ¬ S bl0) (h4 : ¬ S bl1) : Two w' bp bf bl0 bl1 s a b t :=
  { h with pool := h.pool.upd u h1 h2 (World.block_lt_of_cell? w _ (h.pool.refs 0 hn)), lv0 := h.lv0.upd u h3, lv1 := h.lv1.upd u h4 }
theorem lvLeaf_at (w : World) (bl bp k : Nat) (m : Mp) (h : LvAt w bl bp m) (hk : k < 16) :
    Calls Try.prog 36 #[.pointer (some ⟨bl, 0, none⟩), .int .i64 k] w fun e w' => e = .returned (.tuple #[.agg #[.bool (m.lf k).there, .bool (m.lf k).wr, .int .i64 (m.lf k).fr], .nilIface]) ∧ Upd (fun _ => False) w w' := by
  have := lvLeaf w bl bp k m h
  have ho : onB (k : Int) = true := (onB_iff _).2 ⟨by omega, by omega⟩
  simpa only [lfR, ho, if_true, Int.toNat_natCast, errV_zero] using this

/-- The pages below k of a frame are sealed; else all is as it was. -/
structure Sl (a b a' b' : Mp) (f : Int) (k : Nat) : Prop where
  th : ∀ p, p < 32 → (both a' b' p).there = (both a b p).there
  fr : ∀ p, p < 32 → (both a' b' p).fr = (both a b p).fr
  no : ∀ p, p < k → p < 32 → (both a' b' p).there = true → (both a' b' p).fr = f → (both a' b' p).wr = false
theorem Sl.start (a b : Mp) (f : Int) : Sl a b a b f 0 := ⟨fun _ _ => rfl, fun _ _ => rfl, fun _ h => absurd h (by omega)⟩
theorem Sl.skip {a b a' b' : Mp} {f : Int} {k : Nat} (h : Sl a b a' b' f k) (hs : ¬ ((both a' b' k).there = true ∧ (both a' b' k).fr = f)) : Sl a b a' b' f (k + 1) :=
  ⟨h.th, h.fr, fun p hp h32 t1 f1 => by
    by_cases e : p = k
    · subst e; exact absurd ⟨t1, f1⟩ hs
    · exact h.no p (by omega) h32 t1 f1⟩
theorem Sl.step {a b a' b' a2 b2 : Mp} {f : Int} {k : Nat} {l : Lf} (h : Sl a b a' b' f k) (hk : k < 32) (he : both a2 b2 = setAt (both a' b') k l) (ht : l.there = (both a' b' k).there) (hf : l.fr = (both a' b' k).fr) (hw : l.there = true → l.wr = false) : Sl a b a2 b2 f (k + 1) where
  th := fun p hp => by
    rw [he]
    by_cases e : p = k
    · subst e; rw [setAt_same, ht]; exact h.th p hp
    · rw [setAt_other _ _ _ _ e]; exact h.th p hp
  fr := fun p hp => by
    rw [he]
    by_cases e : p = k
    · subst e; rw [setAt_same, hf]; exact h.fr p hp
    · rw [setAt_other _ _ _ _ e]; exact h.fr p hp
  no := fun p hp h32 => by
    rw [he]
    by_cases e : p = k
    · subst e; rw [setAt_same]; intro t1 _; exact hw t1
    · rw [setAt_other _ _ _ _ e]; exact h.no p (by omega) h32
/-- A page of the first map is sealed. -/
theorem Two.seal0 {w w' : World} {bp bf bl0 bl1 k : Nat} {s : Pl} {a b : Mp} {t : Nat → Nat → Int} (h : Two w bp bf bl0 bl1 s a b t) (d : Ap bp bf bl0 bl1) (hk : k < 16) (hp : PoolAt w' bp bf s) (hl : LvAt w' bl0 bp (sealR a k).2) (u : Upd (fun x => x = bf ∨ x = bl0) w w') :
    ∃ a2 l, Two w' bp bf bl0 bl1 s a2 b t ∧ both a2 b = setAt (both a b) k l ∧ l.there = (both a b k).there ∧ l.fr = (both a b k).fr ∧ (l.there = true → l.wr = false) := by
  obtain ⟨l, e, r2, t2, f2, w2⟩ := seal_keeps h.r hk (show k < 32 by omega) (both_lo a b hk)
  have hi := h.inv.seal k
  rw [e] at hl hi
  have eb := both_set0 a b hk a.st l
  unfold Ap at d
  exact ⟨_, l, ⟨hp, hl, h.lv1.upd u (by omega), hi, h.st0, h.st1, by rw [eb]; exact r2⟩, eb, t2, f2, w2⟩
theorem Two.seal1 {w w' : World} {bp bf bl0 bl1 k : Nat} {s : Pl} {a b : Mp} {t : Nat → Nat → Int} (h : Two w bp bf bl0 bl1 s a b t) (d : Ap bp bf bl0 bl1) (hk : k < 16) (hp : PoolAt w' bp bf s) (hl : LvAt w' bl1 bp (sealR b k).2) (u : Upd (fun x => x = bf ∨ x = bl1) w w') :
    ∃ b2 l, Two w' bp bf bl0 bl1 s a b2 t ∧ both a b2 = setAt (both a b) (16 + k) l ∧ l.there = (both a b (16 + k)).there ∧ l.fr = (both a b (16 + k)).fr ∧ (l.there = true → l.wr = false) := by
  obtain ⟨l, e, r2, t2, f2, w2⟩ := seal_keeps h.r hk (show 16 + k < 32 by omega) (both_hi a b)
  have hi := h.inv.swap.seal k
  rw [e] at hl hi
  have eb := both_set1 a b (k := k) b.st l
  unfold Ap at d
  exact ⟨_, l, ⟨hp, h.lv0.upd u (by omega), hl, hi.swap, h.st0, h.st1, by rw [eb]; exact r2⟩, eb, t2, f2, w2⟩

/-- The map in which the page k of both is. -/
def blk (bl0 bl1 k : Nat) : Nat := if k < 16 then bl0 else bl1
theorem Two.leafAt {w w' : World} {bp bf bl0 bl1 : Nat} {s : Pl} {a b : Mp} {t : Nat → Nat → Int} (h : Two w bp bf bl0 bl1 s a b t) {k : Nat} (hk : k < 32) (u : Upd (fun _ => False) w w') :
    Calls Try.prog 36 #[.pointer (some ⟨blk bl0 bl1 k, 0, none⟩), .int .i64 ((k : Int) % 16)] w' fun e w2 => e = .returned (.tuple #[.agg #[.bool (both a b k).there, .bool (both a b k).wr, .int .i64 (both a b k).fr], .nilIface]) ∧ Upd (fun _ => False) w' w2 := by
  by_cases e : k < 16
  · rw [both_lo a b e, show (k : Int) % 16 = (k : Int) by omega]
    unfold blk
    rw [if_pos e]
    exact lvLeaf_at w' bl0 bp k a (h.lv0.upd u (fun f => f)) e
  · obtain ⟨j, rfl⟩ : ∃ j, k = 16 + j := ⟨k - 16, by omega⟩
    rw [both_hi, show ((16 + j : Nat) : Int) % 16 = (j : Int) by omega]
    unfold blk
    rw [if_neg e]
    exact lvLeaf_at w' bl1 bp j b (h.lv1.upd u (fun f => f)) (by omega)
theorem Two.sealAt {w : World} {bp bf bl0 bl1 : Nat} {s : Pl} {a b : Mp} {t : Nat → Nat → Int} (h : Two w bp bf bl0 bl1 s a b t) (hn : 0 < s.n) (d : Ap bp bf bl0 bl1) {k : Nat} (hk : k < 32) :
    Calls Try.prog 39 #[.pointer (some ⟨blk bl0 bl1 k, 0, none⟩), .int .i64 ((k : Int) % 16)] w fun e w2 => (∃ v, e = .returned (errV v)) ∧ ∃ a2 b2 l, Two w2 bp bf bl0 bl1 s a2 b2 t ∧ both a2 b2 = setAt (both a b) k l ∧ l.there = (both a b k).there ∧ l.fr = (both a b k).fr ∧ (l.there = true → l.wr = false) ∧ Upd (fun x => x = bf ∨ x = bl0 ∨ x = bl1) w w2 := by
  have d' := d
  unfold Ap at d'
  by_cases e : k < 16
  · rw [show (k : Int) % 16 = (k : Int) by omega]
    unfold blk
    rw [if_pos e]
    refine (lvSeal w bl0 bp bf k a b s h.lv0 h.pool (by omega) (by omega) hn h.inv).mono ?_
    rintro e' w2 ⟨rfl, hp, hl, hu⟩
    obtain ⟨a2, l, h2, q⟩ := h.seal0 d e hp hl hu
    exact ⟨⟨_, rfl⟩, a2, b, l, h2, q.1, q.2.1, q.2.2.1, q.2.2.2, hu.wide (fun _ e => by omega)⟩
  · obtain ⟨j, rfl⟩ : ∃ j, k = 16 + j := ⟨k - 16, by omega⟩
    rw [show ((16 + j : Nat) : Int) % 16 = (j : Int) by omega]
    unfold blk
    rw [if_neg e]
    refine (lvSeal w bl1 bp bf j b a s h.lv1 h.pool (by omega) (by omega) hn h.inv.swap).mono ?_
    rintro e' w2 ⟨rfl, hp, hl, hu⟩
    obtain ⟨b2, l, h2, q⟩ := h.seal1 d (show j < 16 by omega) hp hl hu
    exact ⟨⟨_, rfl⟩, a, b2, l, h2, q.1, q.2.1, q.2.2.1, q.2.2.2, hu.wide (fun _ e => by omega)⟩
theorem cell_blk {w : World} {q bl0 bl1 k : Nat} (h0 : w.cell? ⟨q, 0, none⟩ = some (.pointer (some ⟨bl0, 0, none⟩))) (h1 : w.cell? ⟨q, 1, none⟩ = some (.pointer (some ⟨bl1, 0, none⟩))) (hk : k < 32) : w.cell? ⟨q, k / 16, none⟩ = some (.pointer (some ⟨blk bl0 bl1 k, 0, none⟩)) := by
  unfold blk
  by_cases e : k < 16
  · rw [if_pos e, show k / 16 = 0 by omega]; exact h0
  · rw [if_neg e, show k / 16 = 1 by omega]; exact h1

set_option maxHeartbeats 1000000 in
theorem seal_any (w : World) (bp bf bl0 bl1 : Nat) (f : Int) (s : Pl) (a b : Mp) (t : Nat → Nat → Int) (h : Two w bp bf bl0 bl1 s a b t) (hn : 0 < s.n) (d : Ap bp bf bl0 bl1) :
    Calls Try.prog 37 #[.agg #[.pointer (some ⟨bl0, 0, none⟩), .pointer (some ⟨bl1, 0, none⟩)], .int .i64 f] w fun e w' => e = .returned (.tuple #[]) ∧ ∃ a' b', Two w' bp bf bl0 bl1 s a' b' t ∧ Sl a b a' b' f 32 ∧ Upd (fun x => x = bf ∨ x = bl0 ∨ x = bl1) w w' := by
  have HH : Hid _ := h
  have HD : Hid _ := d
  have hl0 := h.lv0.lt
  have hl1 := h.lv1.lt
  have hlf : bf < w.heap.size := World.block_lt_of_cell? w _ (h.pool.refs 0 hn)
  have NQ : Hid (¬ (w.heap.size = bf ∨ w.heap.size = bl0 ∨ w.heap.size = bl1)) := show ¬ _ by omega
  clear h d hl0 hl1 hlf
  go_enter Try.func37, Try.ntmps37
  go_wp2_with fail
  have u0 := (Upd.refl (fun x => x = bf ∨ x = bl0 ∨ x = bl1) w).alloc (.cells #[.pointer (some ⟨bl0, 0, none⟩), .pointer (some ⟨bl1, 0, none⟩)] 64)
  have h0 := HH.out.keep hn ((Upd.refl (fun _ => False) w).alloc (.cells #[.pointer (some ⟨bl0, 0, none⟩), .pointer (some ⟨bl1, 0, none⟩)] 64))
  have q0 : (w.alloc (.cells #[.pointer (some ⟨bl0, 0, none⟩), .pointer (some ⟨bl1, 0, none⟩)] 64)).cell? ⟨w.heap.size, 0, none⟩ = some (.pointer (some ⟨bl0, 0, none⟩)) := by rw [World.cell?_alloc_new]; rfl
  have q1 : (w.alloc (.cells #[.pointer (some ⟨bl0, 0, none⟩), .pointer (some ⟨bl1, 0, none⟩)] 64)).cell? ⟨w.heap.size, 1, none⟩ = some (.pointer (some ⟨bl1, 0, none⟩)) := by rw [World.cell?_alloc_new]; rfl
  revert u0 h0 q0 q1 NQ
  generalize w.alloc (.cells #[.pointer (some ⟨bl0, 0, none⟩), .pointer (some ⟨bl1, 0, none⟩)] 64) = w0
  generalize w.heap.size = q
  intro NQ u0 h0 q0 q1
  clear HH
  go_loopg [4] 32 (fun g i wi => ∃ (k : Nat) (a' b' : Mp), k + g = 32 ∧ i = .int .i64 k ∧ Two wi bp bf bl0 bl1 s a' b' t ∧ Sl a b a' b' f k ∧ Upd (fun x => x = bf ∨ x = bl0 ∨ x = bl1) w0 wi)
  case atStart => exact ⟨0, a, b, by omega, rfl, h0, Sl.start a b f, Upd.refl _ _⟩
  case round =>
    obtain ⟨k, a', b', hk, rfl, hI, hS, hu⟩ := hrel
    clear h0
    have HK : Hid _ := hk
    by_cases hlt : k < 32
    · have c0 := cell_blk (hu.cell q0 NQ.out) (hu.cell q1 NQ.out) hlt
      have e1 : (k : Int) / 16 < 2 := by omega
      have e2 : 0 ≤ (k : Int) / 16 := by omega
      clear hk
      go_wp2_with fail
      refine (hI.leafAt hlt (Upd.refl _ _)).mono ?_
      rintro e w1 ⟨rfl, hu1⟩
      have h1 := hI.keep hn hu1
      have hu01 := hu.trans hu1 (fun _ _ f => f.elim)
      have c1 := hu1.cell c0 (fun f => f)
      clear c0 hI hu hu1 q0 q1
      cases ht : (both a' b' k).there with
      | false =>
        have h2 := h1.keep hn ((Upd.refl (fun _ => False) w1).alloc (.cells #[.bool false, .bool (both a' b' k).wr, .int .i64 (both a' b' k).fr] 69))
        have S2 := hS.skip (by rw [ht]; simp)
        have hu2 := hu01.alloc (.cells #[.bool false, .bool (both a' b' k).wr, .int .i64 (both a' b' k).fr] 69)
        have H2 : Hid _ := h2
        have HS2 : Hid _ := S2
        have HU2 : Hid _ := hu2
        clear ht h2 S2 hu2 h1 hS
        go_wp2_with fail
        go_roundg (32 - (k + 1))
        case rel => exact ⟨k + 1, a', b', by omega, by go_num, H2.out, HS2.out, HU2.out⟩
        case measure => have := HK.out; omega
      | true =>
        have h2 := h1.keep hn ((Upd.refl (fun _ => False) w1).alloc (.cells #[.bool true, .bool (both a' b' k).wr, .int .i64 (both a' b' k).fr] 69))
        have hu2 := hu01.alloc (.cells #[.bool true, .bool (both a' b' k).wr, .int .i64 (both a' b' k).fr] 69)
        have c2 := Upd.cell ((Upd.refl (fun _ => False) w1).alloc (.cells #[.bool true, .bool (both a' b' k).wr, .int .i64 (both a' b' k).fr] 69)) c1 (fun f => f)
        cases hb : ((both a' b' k).fr == f) with
        | false =>
          have S2 := hS.skip (by rintro ⟨_, e⟩; rw [e] at hb; simp at hb)
          have H2 : Hid _ := h2
          have HS2 : Hid _ := S2
          have HU2 : Hid _ := hu2
          clear ht h2 S2 hu2 h1 hS c1 c2
          go_wp2_with fail
          go_roundg (32 - (k + 1))
          case rel => exact ⟨k + 1, a', b', by omega, by go_num, H2.out, HS2.out, HU2.out⟩
          case measure => have := HK.out; omega
        | true =>
          have HS : Hid _ := hS
          clear ht h1 hS c1
          go_wp2_with fail
          refine (h2.sealAt hn HD.out hlt).mono ?_
          rintro e w3 ⟨⟨v, rfl⟩, a2, b2, l, h3, eb, lt, lf, lw, hu3⟩
          have S2 := HS.out.step hlt eb lt lf lw
          have hu4 := hu2.trans hu3 (fun _ _ e => e)
          have H3 : Hid _ := h3
          have HS2 : Hid _ := S2
          have HU4 : Hid _ := hu4
          clear h3 S2 hu4 h2 hu2 hu3 eb lt lf lw c2
          go_wp2_with fail
          go_roundg (32 - (k + 1))
          case rel => exact ⟨k + 1, a2, b2, by omega, by go_num, H3.out, HS2.out, HU4.out⟩
          case measure => have := HK.out; omega
    · go_wp2_with fail
      go_end0
      exact ⟨rfl, a', b', hI, by rw [show (32 : Nat) = k by have := HK.out; omega]; exact hS, u0.trans hu (fun _ _ e => e)⟩
end Go.Proofs.Ytfdppnnechdpeaa
