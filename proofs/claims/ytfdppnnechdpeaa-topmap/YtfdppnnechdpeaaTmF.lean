/- The acts of undercrofttop.TopMap on its two maps. -/
import Derived.Test.YtfdppnnechdpeaaTmD
namespace Go.Proofs.Ytfdppnnechdpeaa
open Go.ChangeShapes Go.WideShapes Go.ChangeAt Go.RowKit
set_option maxRecDepth 100000

theorem set_at (w : World) (bp bf : Nat) (f i v : Int) (s : Pl) (h : PoolAt w bp bf s) (i0 : 0 ≤ i) (i1 : i < 16) (hu : s.used f = true) (hr : s.refs f.toNat ≤ 1) :
    Calls Try.prog 18 #[.pointer (some ⟨bp, 0, none⟩), .int .i64 f, .int .i64 i, .int .u8 v] w fun e w' => e = .returned .nilIface ∧ PoolAt w' bp bf { s with byt := setAt s.byt f.toNat (setAt (s.byt f.toNat) i.toNat v) } ∧ Upd (fun k => k = bf) w w' := by
  have g := set_any w bp bf f i v s h
  have n1 : ¬ (i < 0 ∨ 15 < i) := by omega
  have n2 : ¬ 1 < s.refs f.toNat := by omega
  simpa only [Pl.set, hu, n1, n2, if_true, if_false, errV_zero] using g
theorem errV_ne {c : Int} (h : c ≠ 0) : errV c = .iface 83 (.int .i64 c) := by unfold errV; rw [if_neg h]

theorem Two.touch0 {w : World} {bp bf bl0 bl1 : Nat} {s : Pl} {a b : Mp} {t : Nat → Nat → Int} (h : Two w bp bf bl0 bl1 s a b t) (hn : 0 < s.n) (d : Ap bp bf bl0 bl1) (n : Int) (wt : Bool) :
    Calls Try.prog 32 #[.pointer (some ⟨bl0, 0, none⟩), .int .i64 n, .bool wt] w fun e w' => ∃ fr mv er, e = .returned (.tuple #[.int .i64 fr, .bool mv, errV er]) ∧ ∃ s' a' b', Two w' bp bf bl0 bl1 s' a' b' t ∧ s'.n = s.n ∧ Upd (fun x => x = bf ∨ x = bl0 ∨ x = bl1) w w' ∧
      (er = 0 → onB n = true ∧ (wt = true → (both a' b' n.toNat).there = true ∧ (both a' b' n.toNat).wr = true ∧ (both a' b' n.toNat).fr = fr)) := by
  unfold Ap at d
  refine (lvTouch w bl0 bp bf n wt a b s h.lv0 h.pool (by omega) (by omega) hn h.inv).mono ?_
  rintro e w' ⟨rfl, hp, hl, hu⟩
  refine ⟨_, _, _, rfl, ?_⟩
  cases ho : onB n with
  | false =>
    have e1 : touchR s a n wt = ((0, false, 1), s, a) := by simp [touchR, ho]
    rw [e1] at hp hl ⊢
    exact ⟨s, a, b, { h with pool := hp, lv0 := hl, lv1 := h.lv1.upd hu (by omega) }, rfl, hu.wide (fun _ e => by omega), fun e => by simp at e⟩
  | true =>
    obtain ⟨n0, n1⟩ := (onB_iff n).1 ho
    obtain ⟨k, rfl⟩ := Int.eq_ofNat_of_zero_le n0
    have hk : k < 16 := by omega
    obtain ⟨l, e2, r2, c2⟩ := touch_keeps h.r h.inv.cn wt hk (show k < 32 by omega) (both_lo a b hk) (h.st0 k hk)
    have hi := h.inv.touch k wt
    rw [e2] at hl hi
    have eb := both_set0 a b hk a.st l
    refine ⟨_, { st := a.st, lf := setAt a.lf k l }, b, ⟨hp, hl, h.lv1.upd hu (by omega), hi, h.st0, h.st1, by rw [eb]; exact r2⟩, touch_n _ _ _ _, hu.wide (fun _ e => by omega), fun e => ⟨rfl, fun ew => ?_⟩⟩
    obtain ⟨c3, c4, c5⟩ := c2 e
    rw [Int.toNat_natCast, eb, setAt_same]
    exact ⟨c3, c5 ew, c4⟩
theorem Two.sealn0 {w : World} {bp bf bl0 bl1 : Nat} {s : Pl} {a b : Mp} {t : Nat → Nat → Int} (h : Two w bp bf bl0 bl1 s a b t) (hn : 0 < s.n) (d : Ap bp bf bl0 bl1) (n : Int) :
    Calls Try.prog 39 #[.pointer (some ⟨bl0, 0, none⟩), .int .i64 n] w fun e w' => ∃ er, e = .returned (errV er) ∧ ∃ a' b', Two w' bp bf bl0 bl1 s a' b' t ∧ Upd (fun x => x = bf ∨ x = bl0 ∨ x = bl1) w w' := by
  have d' := d
  unfold Ap at d'
  refine (lvSeal w bl0 bp bf n a b s h.lv0 h.pool (by omega) (by omega) hn h.inv).mono ?_
  rintro e w' ⟨rfl, hp, hl, hu⟩
  refine ⟨_, rfl, ?_⟩
  cases ho : onB n with
  | false =>
    have e1 : sealR a n = (1, a) := by simp [sealR, ho]
    rw [e1] at hl
    exact ⟨a, b, { h with pool := hp, lv0 := hl, lv1 := h.lv1.upd hu (by omega) }, hu.wide (fun _ e => by omega)⟩
  | true =>
    obtain ⟨n0, n1⟩ := (onB_iff n).1 ho
    obtain ⟨k, rfl⟩ := Int.eq_ofNat_of_zero_le n0
    obtain ⟨x2, l, h2, _⟩ := h.seal0 d (show k < 16 by omega) hp hl hu
    exact ⟨x2, b, h2, hu.wide (fun _ e => by omega)⟩
/-- A page joins a frame in which none may be written. -/
theorem Two.join0 {w : World} {bp bf bl0 bl1 : Nat} {s : Pl} {a b : Mp} {t : Nat → Nat → Int} (h : Two w bp bf bl0 bl1 s a b t) (hn : 0 < s.n) (d : Ap bp bf bl0 bl1) {k : Nat} (hk : k < 16) {f : Int} (ht : (both a b k).there = true) (hne : (both a b k).fr ≠ f) (hs : s.same (both a b k).fr f = true)
    (hw : ∀ p, p < 32 → (both a b p).there = true → (both a b p).fr = f → (both a b p).wr = false) :
    Calls Try.prog 38 #[.pointer (some ⟨bl0, 0, none⟩), .int .i64 k, .int .i64 f] w fun e w' => e = .returned .nilIface ∧ ∃ s' a' b', Two w' bp bf bl0 bl1 s' a' b' t ∧ s'.n = s.n ∧ Upd (fun x => x = bf ∨ x = bl0 ∨ x = bl1) w w' := by
  unfold Ap at d
  have ho : onB (k : Int) = true := (onB_iff _).2 ⟨by omega, by omega⟩
  have r2 := h.r.join h.inv.cn (show k < 32 by omega) ht hne hs hw
  have eL : both a b k = a.lf k := both_lo a b hk
  rw [eL] at ht hne hs r2
  have e1 : joinR s a k f = (0, ((s.share f 1).2.share (a.lf k).fr (-1)).2, { st := a.st, lf := setAt a.lf k ⟨true, false, f⟩ }) := by
    have hne' : ((a.lf k).fr == f) = false := by simp [hne]
    simp [joinR, ho, ht, hne', hs]
  have hi := h.inv.join k f
  have hnn := join_n s a k f
  refine (lvJoin w bl0 bp bf k f a b s h.lv0 h.pool (by omega) (by omega) hn h.inv).mono ?_
  rintro e w' ⟨rfl, hp, hl, hu⟩
  rw [e1] at hp hl hi hnn
  rw [e1]
  have eb := both_set0 a b hk a.st (⟨true, false, f⟩ : Lf)
  exact ⟨by simp only [errV_zero], _, { st := a.st, lf := setAt a.lf k ⟨true, false, f⟩ }, b, ⟨hp, hl, h.lv1.upd hu (by omega), hi, h.st0, h.st1, by rw [eb]; exact r2⟩, hnn, hu.wide (fun _ e => by omega)⟩
theorem Two.leafn0 {w : World} {bp bf bl0 bl1 : Nat} {s : Pl} {a b : Mp} {t : Nat → Nat → Int} (h : Two w bp bf bl0 bl1 s a b t) (n : Int) :
    Calls Try.prog 36 #[.pointer (some ⟨bl0, 0, none⟩), .int .i64 n] w fun e w' => ∃ l er, e = .returned (.tuple #[.agg #[.bool l.there, .bool l.wr, .int .i64 l.fr], errV er]) ∧ (l.there = true → onB n = true ∧ both a b n.toNat = l) ∧ Upd (fun _ => False) w w' := by
  refine (lvLeaf w bl0 bp n a h.lv0).mono ?_
  rintro e w' ⟨rfl, hu⟩
  refine ⟨_, _, rfl, ?_, hu⟩
  cases ho : onB n with
  | false => simp [lfR, ho, lf0]
  | true =>
    obtain ⟨n0, n1⟩ := (onB_iff n).1 ho
    obtain ⟨k, rfl⟩ := Int.eq_ofNat_of_zero_le n0
    have hk : k < 16 := by omega
    simp only [lfR, ho, if_true, Int.toNat_natCast]
    exact fun _ => ⟨trivial, both_lo a b hk⟩

theorem Two.touch1 {w : World} {bp bf bl0 bl1 : Nat} {s : Pl} {a b : Mp} {t : Nat → Nat → Int} (h : Two w bp bf bl0 bl1 s a b t) (hn : 0 < s.n) (d : Ap bp bf bl0 bl1) (n : Int) (wt : Bool) :
    Calls Try.prog 32 #[.pointer (some ⟨bl1, 0, none⟩), .int .i64 n, .bool wt] w fun e w' => ∃ fr mv er, e = .returned (.tuple #[.int .i64 fr, .bool mv, errV er]) ∧ ∃ s' a' b', Two w' bp bf bl0 bl1 s' a' b' t ∧ s'.n = s.n ∧ Upd (fun x => x = bf ∨ x = bl0 ∨ x = bl1) w w' ∧
      (er = 0 → onB n = true ∧ (wt = true → (both a' b' (16 + n.toNat)).there = true ∧ (both a' b' (16 + n.toNat)).wr = true ∧ (both a' b' (16 + n.toNat)).fr = fr)) := by
  unfold Ap at d
  refine (lvTouch w bl1 bp bf n wt b a s h.lv1 h.pool (by omega) (by omega) hn h.inv.swap).mono ?_
  rintro e w' ⟨rfl, hp, hl, hu⟩
  refine ⟨_, _, _, rfl, ?_⟩
  cases ho : onB n with
  | false =>
    have e1 : touchR s b n wt = ((0, false, 1), s, b) := by simp [touchR, ho]
    rw [e1] at hp hl ⊢
    exact ⟨s, a, b, { h with pool := hp, lv1 := hl, lv0 := h.lv0.upd hu (by omega) }, rfl, hu.wide (fun _ e => by omega), fun e => by simp at e⟩
  | true =>
    obtain ⟨n0, n1⟩ := (onB_iff n).1 ho
    obtain ⟨k, rfl⟩ := Int.eq_ofNat_of_zero_le n0
    have hk : k < 16 := by omega
    obtain ⟨l, e2, r2, c2⟩ := touch_keeps h.r h.inv.cn wt hk (show (16 + k) < 32 by omega) (both_hi a b) (h.st1 k hk)
    have hi := h.inv.swap.touch k wt
    rw [e2] at hl hi
    have eb := both_set1 a b (k := k) b.st l
    refine ⟨_, a, { st := b.st, lf := setAt b.lf k l }, ⟨hp, h.lv0.upd hu (by omega), hl, hi.swap, h.st0, h.st1, by rw [eb]; exact r2⟩, touch_n _ _ _ _, hu.wide (fun _ e => by omega), fun e => ⟨rfl, fun ew => ?_⟩⟩
    obtain ⟨c3, c4, c5⟩ := c2 e
    rw [Int.toNat_natCast, eb, setAt_same]
    exact ⟨c3, c5 ew, c4⟩
theorem Two.sealn1 {w : World} {bp bf bl0 bl1 : Nat} {s : Pl} {a b : Mp} {t : Nat → Nat → Int} (h : Two w bp bf bl0 bl1 s a b t) (hn : 0 < s.n) (d : Ap bp bf bl0 bl1) (n : Int) :
    Calls Try.prog 39 #[.pointer (some ⟨bl1, 0, none⟩), .int .i64 n] w fun e w' => ∃ er, e = .returned (errV er) ∧ ∃ a' b', Two w' bp bf bl0 bl1 s a' b' t ∧ Upd (fun x => x = bf ∨ x = bl0 ∨ x = bl1) w w' := by
  have d' := d
  unfold Ap at d'
  refine (lvSeal w bl1 bp bf n b a s h.lv1 h.pool (by omega) (by omega) hn h.inv.swap).mono ?_
  rintro e w' ⟨rfl, hp, hl, hu⟩
  refine ⟨_, rfl, ?_⟩
  cases ho : onB n with
  | false =>
    have e1 : sealR b n = (1, b) := by simp [sealR, ho]
    rw [e1] at hl
    exact ⟨a, b, { h with pool := hp, lv1 := hl, lv0 := h.lv0.upd hu (by omega) }, hu.wide (fun _ e => by omega)⟩
  | true =>
    obtain ⟨n0, n1⟩ := (onB_iff n).1 ho
    obtain ⟨k, rfl⟩ := Int.eq_ofNat_of_zero_le n0
    obtain ⟨x2, l, h2, _⟩ := h.seal1 d (show k < 16 by omega) hp hl hu
    exact ⟨a, x2, h2, hu.wide (fun _ e => by omega)⟩
/-- A page joins a frame in which none may be written. -/
theorem Two.join1 {w : World} {bp bf bl0 bl1 : Nat} {s : Pl} {a b : Mp} {t : Nat → Nat → Int} (h : Two w bp bf bl0 bl1 s a b t) (hn : 0 < s.n) (d : Ap bp bf bl0 bl1) {k : Nat} (hk : k < 16) {f : Int} (ht : (both a b (16 + k)).there = true) (hne : (both a b (16 + k)).fr ≠ f) (hs : s.same (both a b (16 + k)).fr f = true)
    (hw : ∀ p, p < 32 → (both a b p).there = true → (both a b p).fr = f → (both a b p).wr = false) :
    Calls Try.prog 38 #[.pointer (some ⟨bl1, 0, none⟩), .int .i64 k, .int .i64 f] w fun e w' => e = .returned .nilIface ∧ ∃ s' a' b', Two w' bp bf bl0 bl1 s' a' b' t ∧ s'.n = s.n ∧ Upd (fun x => x = bf ∨ x = bl0 ∨ x = bl1) w w' := by
  unfold Ap at d
  have ho : onB (k : Int) = true := (onB_iff _).2 ⟨by omega, by omega⟩
  have r2 := h.r.join h.inv.cn (show (16 + k) < 32 by omega) ht hne hs hw
  have eL : both a b (16 + k) = b.lf k := both_hi a b
  rw [eL] at ht hne hs r2
  have e1 : joinR s b k f = (0, ((s.share f 1).2.share (b.lf k).fr (-1)).2, { st := b.st, lf := setAt b.lf k ⟨true, false, f⟩ }) := by
    have hne' : ((b.lf k).fr == f) = false := by simp [hne]
    simp [joinR, ho, ht, hne', hs]
  have hi := h.inv.swap.join k f
  have hnn := join_n s b k f
  refine (lvJoin w bl1 bp bf k f b a s h.lv1 h.pool (by omega) (by omega) hn h.inv.swap).mono ?_
  rintro e w' ⟨rfl, hp, hl, hu⟩
  rw [e1] at hp hl hi hnn
  rw [e1]
  have eb := both_set1 a b (k := k) b.st (⟨true, false, f⟩ : Lf)
  exact ⟨by simp only [errV_zero], _, a, { st := b.st, lf := setAt b.lf k ⟨true, false, f⟩ }, ⟨hp, h.lv0.upd hu (by omega), hl, hi.swap, h.st0, h.st1, by rw [eb]; exact r2⟩, hnn, hu.wide (fun _ e => by omega)⟩
theorem Two.leafn1 {w : World} {bp bf bl0 bl1 : Nat} {s : Pl} {a b : Mp} {t : Nat → Nat → Int} (h : Two w bp bf bl0 bl1 s a b t) (n : Int) :
    Calls Try.prog 36 #[.pointer (some ⟨bl1, 0, none⟩), .int .i64 n] w fun e w' => ∃ l er, e = .returned (.tuple #[.agg #[.bool l.there, .bool l.wr, .int .i64 l.fr], errV er]) ∧ (l.there = true → onB n = true ∧ both a b (16 + n.toNat) = l) ∧ Upd (fun _ => False) w w' := by
  refine (lvLeaf w bl1 bp n b h.lv1).mono ?_
  rintro e w' ⟨rfl, hu⟩
  refine ⟨_, _, rfl, ?_, hu⟩
  cases ho : onB n with
  | false => simp [lfR, ho, lf0]
  | true =>
    obtain ⟨n0, n1⟩ := (onB_iff n).1 ho
    obtain ⟨k, rfl⟩ := Int.eq_ofNat_of_zero_le n0
    have hk : k < 16 := by omega
    simp only [lfR, ho, if_true, Int.toNat_natCast]
    exact fun _ => ⟨trivial, both_hi a b⟩

/-- A byte is set where a page may be written. -/
theorem Two.byte {w w' : World} {bp bf bl0 bl1 : Nat} {s : Pl} {a b : Mp} {t : Nat → Nat → Int} (h : Two w bp bf bl0 bl1 s a b t) (d : Ap bp bf bl0 bl1) {p i : Nat} {v : Int} (hp : p < 32) (ht : (both a b p).there = true) (hw : (both a b p).wr = true)
    (hP : PoolAt w' bp bf { s with byt := setAt s.byt (both a b p).fr.toNat (setAt (s.byt (both a b p).fr.toNat) i v) }) (u : Upd (fun x => x = bf) w w') :
    Two w' bp bf bl0 bl1 { s with byt := setAt s.byt (both a b p).fr.toNat (setAt (s.byt (both a b p).fr.toNat) i v) } a b (setAt t p (setAt (t p) i v)) := by
  unfold Ap at d
  exact ⟨hP, h.lv0.upd u (by omega), h.lv1.upd u (by omega), h.inv.same _ a.st h.inv.pa, h.st0, h.st1, h.r.set h.inv.cn hp ht hw⟩
/-- The law's own row is written too. -/
theorem T2.byte {W w w' : World} {bl0 bl1 qb n p i : Nat} {s s' : Pl} {a b : Mp} {t : Nat → Nat → Int} {v : Int} (h : T2 W w bl0 bl1 qb n s a b t) (hn : 0 < n) (h2 : Two w' (W.heap.size + 1) W.heap.size bl0 bl1 s' a b (setAt t p (setAt (t p) i v))) (hs : s'.n = s.n) (u : Upd (fun x => x = W.heap.size) w w') (hp : p < 32) (hi : i < 16) :
    T2 W (w'.setCell ⟨qb, p * 16 + i, none⟩ (.int .u8 v)) bl0 bl1 qb n s' a b (setAt t p (setAt (t p) i v)) := by
  have ne := h.ne
  have n1 : ¬ (W.heap.size + 2 = W.heap.size) := by omega
  have n2 : ¬ (qb = W.heap.size) := by omega
  have u2 := Upd.one w' qb (p * 16 + i) (.int .u8 v)
  have n3 : ¬ (W.heap.size + 2 = qb) := by omega
  have row' : ∀ q j, q < 32 → j < 16 → w'.cell? ⟨qb, q * 16 + j, none⟩ = some (.int .u8 (t q j)) := fun q j hq hj => u.cell (h.row q j hq hj) n2
  refine { two := h2.far (by rw [hs, h.sn]; exact hn) u2 (by omega) (by omega) (by omega) (by omega), m0 := u2.cell (u.cell h.m0 n1) n3, m1 := u2.cell (u.cell h.m1 n1) n3, row := ?_, fz := fun o => by rw [World.frozen?_setCell]; exact frozen_any u n2 (h.row 0 0 (by omega) (by omega)) h.fz o, sn := hs.trans h.sn, upd := (h.upd.trans u (fun i hi e => by omega)).trans u2 (fun i hi e => by have := h.upd.size; omega), ne := ne }
  intro q j hq hj
  by_cases e : q = p
  · subst e
    rw [setAt_same]
    by_cases e2 : j = i
    · subst e2; rw [World.cell?_setCell_same _ _ _ (row' q j hq hj), setAt_same]
    · rw [World.cell?_setCell_other _ _ _ _ (addr_ne (Or.inr (by omega))), setAt_other _ _ _ _ e2]; exact row' q j hq hj
  · rw [World.cell?_setCell_other _ _ _ _ (addr_ne (Or.inr (by omega))), setAt_other _ _ _ _ e]; exact row' q j hq hj
theorem same_comm (s : Pl) (f g : Int) : s.same f g = s.same g f := by
  unfold Pl.same
  rw [Bool.and_comm (s.used f) (s.used g)]
  congr 1
  apply List.all_congr rfl
  intro i
  exact Bool.eq_iff_iff.2 (by simp only [beq_iff_eq]; exact ⟨Eq.symm, Eq.symm⟩)
/-- Behind the seal of a frame's pages: a page of another frame with the same bytes joins it. -/
theorem Sl.join0 {w : World} {bp bf bl0 bl1 : Nat} {s : Pl} {a b a' b' : Mp} {t : Nat → Nat → Int} {lx ly : Lf} {n : Int} (hS : Sl a b a' b' lx.fr 32) (hn : 0 < s.n) (d : Ap bp bf bl0 bl1) (ho : onB n = true) (he : both a b n.toNat = ly) (ht : ly.there = true) (hf : (lx.fr != ly.fr) = true) (hs : s.same lx.fr ly.fr = true)
    (h : Two w bp bf bl0 bl1 s a' b' t) :
    Calls Try.prog 38 #[.pointer (some ⟨bl0, 0, none⟩), .int .i64 n, .int .i64 lx.fr] w fun e w' => e = .returned .nilIface ∧ ∃ s' a2 b2, Two w' bp bf bl0 bl1 s' a2 b2 t ∧ s'.n = s.n ∧ Upd (fun x => x = bf ∨ x = bl0 ∨ x = bl1) w w' := by
  obtain ⟨n0, n1⟩ := (onB_iff n).1 ho
  obtain ⟨k, rfl⟩ := Int.eq_ofNat_of_zero_le n0
  rw [Int.toNat_natCast] at he
  have hk : k < 16 := by omega
  have hf' : lx.fr ≠ ly.fr := by simpa using hf
  have t1 := hS.th k (by omega)
  have f1 := hS.fr k (by omega)
  rw [he] at t1 f1
  exact h.join0 hn d hk (by rw [t1]; exact ht) (by rw [f1]; exact Ne.symm hf') (by rw [f1, same_comm]; exact hs) (fun p hp => hS.no p (by omega) hp)
theorem Sl.join1 {w : World} {bp bf bl0 bl1 : Nat} {s : Pl} {a b a' b' : Mp} {t : Nat → Nat → Int} {lx ly : Lf} {n : Int} (hS : Sl a b a' b' lx.fr 32) (hn : 0 < s.n) (d : Ap bp bf bl0 bl1) (ho : onB n = true) (he : both a b (16 + n.toNat) = ly) (ht : ly.there = true) (hf : (lx.fr != ly.fr) = true) (hs : s.same lx.fr ly.fr = true)
    (h : Two w bp bf bl0 bl1 s a' b' t) :
    Calls Try.prog 38 #[.pointer (some ⟨bl1, 0, none⟩), .int .i64 n, .int .i64 lx.fr] w fun e w' => e = .returned .nilIface ∧ ∃ s' a2 b2, Two w' bp bf bl0 bl1 s' a2 b2 t ∧ s'.n = s.n ∧ Upd (fun x => x = bf ∨ x = bl0 ∨ x = bl1) w w' := by
  obtain ⟨n0, n1⟩ := (onB_iff n).1 ho
  obtain ⟨k, rfl⟩ := Int.eq_ofNat_of_zero_le n0
  rw [Int.toNat_natCast] at he
  have hk : k < 16 := by omega
  have hf' : lx.fr ≠ ly.fr := by simpa using hf
  have t1 := hS.th (16 + k) (by omega)
  have f1 := hS.fr (16 + k) (by omega)
  rw [he] at t1 f1
  exact h.join1 hn d hk (by rw [t1]; exact ht) (by rw [f1]; exact Ne.symm hf') (by rw [f1, same_comm]; exact hs) (fun p hp => hS.no p (by omega) hp)
/-- A block of the law's own is written. -/
theorem T2.far {W w w' : World} {bl0 bl1 qb n Q : Nat} {s : Pl} {a b : Mp} {t : Nat → Nat → Int} (h : T2 W w bl0 bl1 qb n s a b t) (hn : 0 < n) (u : Upd (fun x => x = Q) w w') (hQ : qb < Q) : T2 W w' bl0 bl1 qb n s a b t := by
  have ne := h.ne
  have n1 : ¬ (W.heap.size + 2 = Q) := by omega
  have n2 : ¬ (qb = Q) := by omega
  exact { two := h.two.far (by rw [h.sn]; exact hn) u (by omega) (by omega) (by omega) (by omega), m0 := u.cell h.m0 n1, m1 := u.cell h.m1 n1, row := fun p i hp hi => u.cell (h.row p i hp hi) n2, fz := frozen_any u n2 (h.row 0 0 (by omega) (by omega)) h.fz, sn := h.sn, upd := h.upd.trans u (fun i hi e => by omega), ne := ne }
theorem LfAt.three {w : World} {Q : Nat} {v0 v1 v2 : Value} (c0 : w.cell? ⟨Q, 0, none⟩ = some v0) (c1 : w.cell? ⟨Q, 1, none⟩ = some v1) (c2 : w.cell? ⟨Q, 2, none⟩ = some v2) (l : Lf) :
    LfAt (((w.setCell ⟨Q, 0, none⟩ (.bool l.there)).setCell ⟨Q, 1, none⟩ (.bool l.wr)).setCell ⟨Q, 2, none⟩ (.int .i64 l.fr)) Q l := by
  have e1 : (w.setCell ⟨Q, 0, none⟩ (.bool l.there)).cell? ⟨Q, 1, none⟩ = some v1 := by rw [World.cell?_setCell_other _ _ _ _ (addr_ne (Or.inr (by omega)))]; exact c1
  have e2 : ((w.setCell ⟨Q, 0, none⟩ (.bool l.there)).setCell ⟨Q, 1, none⟩ (.bool l.wr)).cell? ⟨Q, 2, none⟩ = some v2 := by
    rw [World.cell?_setCell_other _ _ _ _ (addr_ne (Or.inr (by omega))), World.cell?_setCell_other _ _ _ _ (addr_ne (Or.inr (by omega)))]; exact c2
  refine ⟨?_, ?_, World.cell?_setCell_same _ _ _ e2⟩
  · rw [World.cell?_setCell_other _ _ _ _ (addr_ne (Or.inr (by omega))), World.cell?_setCell_other _ _ _ _ (addr_ne (Or.inr (by omega)))]
    exact World.cell?_setCell_same _ _ _ c0
  · rw [World.cell?_setCell_other _ _ _ _ (addr_ne (Or.inr (by omega)))]
    exact World.cell?_setCell_same _ _ _ e1
end Go.Proofs.Ytfdppnnechdpeaa
