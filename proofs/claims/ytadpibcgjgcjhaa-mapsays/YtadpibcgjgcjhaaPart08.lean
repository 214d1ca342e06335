/- What holds in each round of undercroftlaw.MapSays. -/
import Derived.Test.YtadpibcgjgcjhaaPart07
namespace Go.Proofs.Ytadpibcgjgcjhaa
open Go.ChangeShapes Go.WideShapes Go.ChangeAt Go.RowKit
set_option maxRecDepth 100000

/-- Nine blocks, pairwise apart: by the order in which they were made; the pool and its maps first, or, where they are copies, last. -/
def Dis (bp bf bm ba br bl0 bl1 bx0 bx1 : Nat) : Prop :=
  bm < ba ∧ ba < br ∧ br < bx0 ∧ bx0 < bx1 ∧ bp ≠ bf ∧ bl0 < bl1 ∧ ((bf < bm ∧ bp < bm ∧ br < bl0 ∧ bl0 < bx0 ∧ bx0 < bl1 ∧ bl1 < bx1) ∨ (bx1 < bp ∧ bx1 < bf ∧ bp < bl0 ∧ bf < bl0))
/-- Two maps on one pool, and their models, in one state. -/
structure M2 (W w : World) (bp bf bm ba br bl0 bl1 bx0 bx1 n : Nat) (s : Pl) (m0 m1 : Mp) : Prop where
  pool : PoolAt w bp bf s
  ref : RefAt w bm s
  lv0 : LvAt w bl0 bp m0
  lv1 : LvAt w bl1 bp m1
  rm0 : RMap w bx0 bm m0
  rm1 : RMap w bx1 bm m1
  a0 : w.cell? ⟨ba, 0, none⟩ = some (.pointer (some ⟨bl0, 0, none⟩))
  a1 : w.cell? ⟨ba, 1, none⟩ = some (.pointer (some ⟨bl1, 0, none⟩))
  r0 : w.cell? ⟨br, 0, none⟩ = some (.pointer (some ⟨bx0, 0, none⟩))
  r1 : w.cell? ⟨br, 1, none⟩ = some (.pointer (some ⟨bx1, 0, none⟩))
  fza : ∀ o, w.frozen? ⟨ba, o, none⟩ = false
  inv : Inv s m0 m1
  sn : s.n = n
  upd : Upd (fun _ => False) W w
  dis : Dis bp bf bm ba br bl0 bl1 bx0 bx1
  ge : W.heap.size ≤ bp ∧ W.heap.size ≤ bf ∧ W.heap.size ≤ bm ∧ W.heap.size ≤ ba ∧ W.heap.size ≤ bl0 ∧ W.heap.size ≤ bl1 ∧ W.heap.size ≤ bx0 ∧ W.heap.size ≤ bx1
theorem M2.apart0 {W w : World} {bp bf bm ba br bl0 bl1 bx0 bx1 n : Nat} {s : Pl} {m0 m1 : Mp} (h : M2 W w bp bf bm ba br bl0 bl1 bx0 bx1 n s m0 m1) : Apart bp bf bm bl0 bx0 := by
  have d := h.dis
  unfold Dis at d
  unfold Apart
  omega
theorem M2.apart1 {W w : World} {bp bf bm ba br bl0 bl1 bx0 bx1 n : Nat} {s : Pl} {m0 m1 : Mp} (h : M2 W w bp bf bm ba br bl0 bl1 bx0 bx1 n s m0 m1) : Apart bp bf bm bl1 bx1 := by
  have d := h.dis
  unfold Dis at d
  unfold Apart
  omega
theorem frozen_blk {S : Nat → Prop} {w w' : World} {b : Nat} {v : Value} (u : Upd S w w') (hb : ¬ S b) (hv : w.cell? ⟨b, 0, none⟩ = some v) (h : ∀ o, w.frozen? ⟨b, o, none⟩ = false) : ∀ o, w'.frozen? ⟨b, o, none⟩ = false := fun o => by
  rw [World.frozen?_of_block (w := w) (u.block b (World.block_lt_of_cell? w _ hv) hb)]; exact h o
theorem M2.keep {W w w' : World} {bp bf bm ba br bl0 bl1 bx0 bx1 n : Nat} {s : Pl} {m0 m1 : Mp} (h : M2 W w bp bf bm ba br bl0 bl1 bx0 bx1 n s m0 m1) (hn : 0 < n) (u : Upd (fun _ => False) w w') : M2 W w' bp bf bm ba br bl0 bl1 bx0 bx1 n s m0 m1 :=
  { h with pool := h.pool.upd u (fun f => f) (fun f => f) (h.pool.lt (by rw [h.sn]; exact hn)), ref := h.ref.upd u (fun f => f), lv0 := h.lv0.upd u (fun f => f), lv1 := h.lv1.upd u (fun f => f), rm0 := h.rm0.upd u (fun f => f), rm1 := h.rm1.upd u (fun f => f), a0 := u.cell h.a0 (fun f => f), a1 := u.cell h.a1 (fun f => f), r0 := u.cell h.r0 (fun f => f), r1 := u.cell h.r1 (fun f => f), fza := frozen_blk u (fun f => f) h.a0 h.fza, upd := h.upd.trans u (fun _ _ f => f) }
/-- An act of the first map. -/
theorem M2.act0 {W w w' : World} {bp bf bm ba br bl0 bl1 bx0 bx1 n : Nat} {s s2 : Pl} {m0 m1 m2 : Mp} (h : M2 W w bp bf bm ba br bl0 bl1 bx0 bx1 n s m0 m1) (hI : MI w' bp bf bm bl0 bx0 s2 m2) (hi : Inv s2 m2 m1) (hs : s2.n = s.n) (u : Upd (Foot bf bm bl0 bx0) w w') :
    M2 W w' bp bf bm ba br bl0 bl1 bx0 bx1 n s2 m2 m1 := by
  have d := h.dis
  unfold Dis at d
  have n1 : ¬ Foot bf bm bl0 bx0 bl1 := by unfold Foot; omega
  have n2 : ¬ Foot bf bm bl0 bx0 bx1 := by unfold Foot; omega
  have n3 : ¬ Foot bf bm bl0 bx0 ba := by unfold Foot; omega
  have n4 : ¬ Foot bf bm bl0 bx0 br := by unfold Foot; omega
  exact { h with pool := hI.pool, ref := hI.ref, lv0 := hI.lv, rm0 := hI.rm, lv1 := h.lv1.upd u n1, rm1 := h.rm1.upd u n2, a0 := u.cell h.a0 n3, a1 := u.cell h.a1 n3, r0 := u.cell h.r0 n4, r1 := u.cell h.r1 n4, fza := frozen_blk u n3 h.a0 h.fza, inv := hi, sn := (by rw [hs]; exact h.sn), upd := h.upd.trans u (fun k hk e => by have := h.ge; unfold Foot at e; omega) }
theorem M2.act1 {W w w' : World} {bp bf bm ba br bl0 bl1 bx0 bx1 n : Nat} {s s2 : Pl} {m0 m1 m2 : Mp} (h : M2 W w bp bf bm ba br bl0 bl1 bx0 bx1 n s m0 m1) (hI : MI w' bp bf bm bl1 bx1 s2 m2) (hi : Inv s2 m2 m0) (hs : s2.n = s.n) (u : Upd (Foot bf bm bl1 bx1) w w') :
    M2 W w' bp bf bm ba br bl0 bl1 bx0 bx1 n s2 m0 m2 := by
  have d := h.dis
  unfold Dis at d
  have n1 : ¬ Foot bf bm bl1 bx1 bl0 := by unfold Foot; omega
  have n2 : ¬ Foot bf bm bl1 bx1 bx0 := by unfold Foot; omega
  have n3 : ¬ Foot bf bm bl1 bx1 ba := by unfold Foot; omega
  have n4 : ¬ Foot bf bm bl1 bx1 br := by unfold Foot; omega
  exact { h with pool := hI.pool, ref := hI.ref, lv1 := hI.lv, rm1 := hI.rm, lv0 := h.lv0.upd u n1, rm0 := h.rm0.upd u n2, a0 := u.cell h.a0 n3, a1 := u.cell h.a1 n3, r0 := u.cell h.r0 n4, r1 := u.cell h.r1 n4, fza := frozen_blk u n3 h.a0 h.fza, inv := hi.swap, sn := (by rw [hs]; exact h.sn), upd := h.upd.trans u (fun k hk e => by have := h.ge; unfold Foot at e; omega) }
/-- The blocks lie below the heap's end. -/
theorem M2.lts {W w : World} {bp bf bm ba br bl0 bl1 bx0 bx1 n : Nat} {s : Pl} {m0 m1 : Mp} (h : M2 W w bp bf bm ba br bl0 bl1 bx0 bx1 n s m0 m1) (hn : 0 < n) :
    bp < w.heap.size ∧ bf < w.heap.size ∧ bm < w.heap.size ∧ ba < w.heap.size ∧ br < w.heap.size ∧ bl0 < w.heap.size ∧ bl1 < w.heap.size ∧ bx0 < w.heap.size ∧ bx1 < w.heap.size :=
  ⟨h.pool.ltp, h.pool.lt (by rw [h.sn]; exact hn), World.block_lt_of_cell? _ _ h.ref.num, World.block_lt_of_cell? _ _ h.a0, World.block_lt_of_cell? _ _ h.r0, h.lv0.lt, h.lv1.lt, h.rm0.lt, h.rm1.lt⟩
/-- Copies go on: the array of maps is written. -/
theorem M2.moved {W w w1 w2 : World} {bp bf bm ba br bl0 bl1 bx0 bx1 n cp cf c0 c1 : Nat} {s : Pl} {m0 m1 : Mp} (h : M2 W w bp bf bm ba br bl0 bl1 bx0 bx1 n s m0 m1) (hn : 0 < n) (u1 : Upd (fun _ => False) w w1) (u2 : Upd (fun k => k = bf ∨ k = bl0 ∨ k = bl1) w1 w2)
    (hp : PoolAt w1 cp cf s) (h0 : LvAt w1 c0 cp m0) (h1 : LvAt w1 c1 cp m1) (g : w.heap.size ≤ cp ∧ w.heap.size ≤ cf ∧ w.heap.size ≤ c0 ∧ w.heap.size ≤ c1) (dn : cp < c0 ∧ cf < c0 ∧ c0 < c1) (lf : cf < w1.heap.size) :
    M2 W ((w2.setCell ⟨ba, 0, none⟩ (.pointer (some ⟨c0, 0, none⟩))).setCell ⟨ba, 1, none⟩ (.pointer (some ⟨c1, 0, none⟩))) cp cf bm ba br c0 c1 bx0 bx1 n s m0 m1 := by
  have l := h.lts hn
  have hg := h.ge
  have hd := h.dis
  unfold Dis at hd
  have sz := h.upd.size
  have ne := hp.ne
  have uu : Upd (fun k => k = bf ∨ k = bl0 ∨ k = bl1 ∨ k = ba) w1 ((w2.setCell ⟨ba, 0, none⟩ (.pointer (some ⟨c0, 0, none⟩))).setCell ⟨ba, 1, none⟩ (.pointer (some ⟨c1, 0, none⟩))) :=
    ((u2.wide (fun _ e => by omega)).trans (Upd.one _ ba 0 _) (fun _ _ e => by omega)).trans (Upd.one _ ba 1 _) (fun _ _ e => by omega)
  have nb : ¬ (ba = bf ∨ ba = bl0 ∨ ba = bl1) := by omega
  have nr : ¬ (br = bf ∨ br = bl0 ∨ br = bl1 ∨ br = ba) := by omega
  have ka0 := u2.cell (u1.cell h.a0 (fun f => f)) nb
  have ka1 := u2.cell (u1.cell h.a1 (fun f => f)) nb
  have kf := frozen_blk u2 nb (u1.cell h.a0 (fun f => f)) (frozen_blk u1 (fun f => f) h.a0 h.fza)
  refine { pool := hp.upd uu (by omega) (by omega) lf, ref := (h.ref.upd u1 (fun f => f)).upd uu (by omega), lv0 := h0.upd uu (by omega), lv1 := h1.upd uu (by omega), rm0 := (h.rm0.upd u1 (fun f => f)).upd uu (by omega), rm1 := (h.rm1.upd u1 (fun f => f)).upd uu (by omega), a0 := ?_, a1 := ?_, r0 := uu.cell (u1.cell h.r0 (fun f => f)) nr, r1 := uu.cell (u1.cell h.r1 (fun f => f)) nr, fza := fun o => by simp only [World.frozen?_setCell]; exact kf o, inv := h.inv, sn := h.sn, upd := (h.upd.trans u1 (fun _ _ f => f)).trans uu (fun k hk e => by omega), dis := ?_, ge := ?_ }
  · rw [World.cell?_setCell_other _ _ _ _ (addr_ne (Or.inr (by omega)))]; exact World.cell?_setCell_same _ _ _ ka0
  · exact World.cell?_setCell_same _ _ _ (by rw [World.cell?_setCell_other _ _ _ _ (addr_ne (Or.inr (by omega)))]; exact ka1)
  · unfold Dis; omega
  · omega
end Go.Proofs.Ytadpibcgjgcjhaa
/- How undercroftlaw.MapSays sets two maps and their models up. -/
namespace Go.Proofs.Ytadpibcgjgcjhaa
open Go.ChangeShapes Go.WideShapes Go.ChangeAt Go.RowKit
set_option maxRecDepth 100000

/-- Sixteen leaves that lead nowhere. -/
def leavesZ : Nat → List Value
  | 0 => []
  | k + 1 => .bool false :: .bool false :: .int .i64 0 :: leavesZ k
def mapTail (a b : Nat) : List Value := List.replicate a (.int .i64 0) ++ leavesZ b
theorem leavesZ_get : ∀ (b n j : Nat), n < b → j < 3 → (leavesZ b)[n * 3 + j]? = some (if j = 2 then .int .i64 0 else .bool false)
  | 0, _, _, h, _ => absurd h (by omega)
  | b + 1, 0, j, _, hj => by
    rcases j with _ | _ | _ | j
    · rfl
    · rfl
    · rfl
    · omega
  | b + 1, n + 1, j, h, hj => by
    have := leavesZ_get b n j (by omega) hj
    rw [show (n + 1) * 3 + j = (n * 3 + j) + 1 + 1 + 1 by omega]
    simpa [leavesZ] using this
theorem mapTail_st (a b n : Nat) (h : n < a) : (mapTail a b)[n]? = some (.int .i64 0) := by
  unfold mapTail
  rw [List.getElem?_append_left (by rw [List.length_replicate]; exact h), List.getElem?_replicate, if_pos h]
theorem mapTail_lf (a b n j : Nat) (h : n < b) (hj : j < 3) : (mapTail a b)[a + (n * 3 + j)]? = some (if j = 2 then .int .i64 0 else .bool false) := by
  unfold mapTail
  rw [List.getElem?_append_right (by rw [List.length_replicate]; omega), List.length_replicate, show a + (n * 3 + j) - a = n * 3 + j by omega]
  exact leavesZ_get b n j h hj
def rmZero (p : Value) : Array Value := (p :: mapTail 16 16).toArray
theorem zero72 (w : World) : (zeroValue 72).run Try.prog w = .ok (.agg (rmZero (.pointer none))) w := by kernel_rfl
theorem rmZero_ne : ¬ rmZero (.pointer none) = #[] := by
  unfold rmZero
  simp
theorem rmZero_set (v : Value) : (rmZero (.pointer none)).setIfInBounds 0 v = rmZero v := by
  unfold rmZero
  simp
theorem rmZero_0 (p : Value) : (rmZero p)[0]? = some p := by
  unfold rmZero
  simp
theorem rmZero_st (p : Value) (n : Nat) (h : n < 16) : (rmZero p)[1 + n]? = some (.int .i64 0) := by
  unfold rmZero
  rw [Nat.add_comm, List.getElem?_toArray, List.getElem?_cons_succ]
  exact mapTail_st 16 16 n h
theorem rmZero_lf (p : Value) (n j : Nat) (h : n < 16) (hj : j < 3) : (rmZero p)[17 + n * 3 + j]? = some (if j = 2 then .int .i64 0 else .bool false) := by
  unfold rmZero
  rw [show 17 + n * 3 + j = (16 + (n * 3 + j)) + 1 by omega, List.getElem?_toArray, List.getElem?_cons_succ]
  exact mapTail_lf 16 16 n j h hj
theorem RMap.new (w : World) (bm : Nat) : RMap (w.alloc (.cells (rmZero (.pointer (some ⟨bm, 0, none⟩))) 72)) w.heap.size bm mp0 where
  pool := by rw [World.cell?_alloc_new, rmZero_0]
  st := fun n hn => by rw [World.cell?_alloc_new, rmZero_st _ _ hn]; rfl
  th := fun n hn => by have := rmZero_lf (.pointer (some ⟨bm, 0, none⟩)) n 0 hn (by omega); rw [World.cell?_alloc_new]; exact this
  wr := fun n hn => by have := rmZero_lf (.pointer (some ⟨bm, 0, none⟩)) n 1 hn (by omega); rw [World.cell?_alloc_new]; exact this
  fr := fun n hn => by have := rmZero_lf (.pointer (some ⟨bm, 0, none⟩)) n 2 hn (by omega); rw [World.cell?_alloc_new]; exact this
  fz := fun o => World.frozen?_alloc_new _ _ _ _
  rs := fun o v _ hv => by cases hv

/-- The pool and its model, ahead of the maps; the two arrays are there. -/
structure Se (W w : World) (N n : Nat) : Prop where
  pool : PoolAt w (N + 1) N (pl0 n)
  ref : RefAt w (N + 2) (pl0 n)
  a0 : ∃ v, w.cell? ⟨N + 2 + 1, 0, none⟩ = some v
  a1 : ∃ v, w.cell? ⟨N + 2 + 1, 1, none⟩ = some v
  r0 : ∃ v, w.cell? ⟨N + 2 + 1 + 1, 0, none⟩ = some v
  r1 : ∃ v, w.cell? ⟨N + 2 + 1 + 1, 1, none⟩ = some v
  fza : ∀ o, w.frozen? ⟨N + 2 + 1, o, none⟩ = false
  fzr : ∀ o, w.frozen? ⟨N + 2 + 1 + 1, o, none⟩ = false
  upd : Upd (fun _ => False) W w
  sz : N + 5 ≤ w.heap.size
  ge : W.heap.size ≤ N
theorem Se.start {W w : World} {N n : Nat} (hn : n ≤ 64) (hp : PoolAt w (N + 1) N (pl0 n)) (hu : Upd (fun _ => False) W w) (hz : w.heap.size = N + 2) (hg : W.heap.size ≤ N) :
    Se W (((w.alloc (.cells (refZero n) 36)).alloc (.cells #[.pointer none, .pointer none] 64)).alloc (.cells #[.pointer none, .pointer none] 66)) N n := by
  have z1 : (w.alloc (.cells (refZero n) 36)).heap.size = N + 2 + 1 := by simp [hz]
  have z2 : ((w.alloc (.cells (refZero n) 36)).alloc (.cells #[.pointer none, .pointer none] 64)).heap.size = N + 2 + 1 + 1 := by simp [hz]
  have u : Upd (fun _ => False) w (((w.alloc (.cells (refZero n) 36)).alloc (.cells #[.pointer none, .pointer none] 64)).alloc (.cells #[.pointer none, .pointer none] 66)) := (((Upd.refl _ _).alloc _).alloc _).alloc _
  have r := RefAt.new w n hn
  rw [hz] at r
  have ca : ∀ i, ((w.alloc (.cells (refZero n) 36)).alloc (.cells #[.pointer none, .pointer none] 64)).cell? ⟨N + 2 + 1, i, none⟩ = #[Value.pointer none, .pointer none][i]? := by
    intro i
    have := World.cell?_alloc_new (w.alloc (.cells (refZero n) 36)) #[.pointer none, .pointer none] 64 i
    rwa [z1] at this
  have cr : ∀ i, (((w.alloc (.cells (refZero n) 36)).alloc (.cells #[.pointer none, .pointer none] 64)).alloc (.cells #[.pointer none, .pointer none] 66)).cell? ⟨N + 2 + 1 + 1, i, none⟩ = #[Value.pointer none, .pointer none][i]? := by
    intro i
    have := World.cell?_alloc_new ((w.alloc (.cells (refZero n) 36)).alloc (.cells #[.pointer none, .pointer none] 64)) #[.pointer none, .pointer none] 66 i
    rwa [z2] at this
  refine ⟨hp.upd u (fun f => f) (fun f => f) (by omega), r.upd (((Upd.refl (fun _ => False) _).alloc _).alloc _) (fun f => f), ⟨.pointer none, ?_⟩, ⟨.pointer none, ?_⟩, ⟨.pointer none, by rw [cr]; rfl⟩, ⟨.pointer none, by rw [cr]; rfl⟩, ?_, ?_, hu.trans u (fun _ _ f => f), by simp [hz], hg⟩
  · rw [World.cell?_alloc_old _ _ _ (by rw [z2]; simp), ca]; rfl
  · rw [World.cell?_alloc_old _ _ _ (by rw [z2]; simp), ca]; rfl
  · intro o
    rw [World.frozen?_alloc_old _ _ _ (by rw [z2]; simp)]
    have := World.frozen?_alloc_new (w.alloc (.cells (refZero n) 36)) #[.pointer none, .pointer none] 64 o
    rwa [z1] at this
  · intro o
    have := World.frozen?_alloc_new ((w.alloc (.cells (refZero n) 36)).alloc (.cells #[.pointer none, .pointer none] 64)) #[.pointer none, .pointer none] 66 o
    rwa [z2] at this
theorem Se.upd' {S : Nat → Prop} {W w w' : World} {N n : Nat} (h : Se W w N n) (u : Upd S w w') (hS : ∀ k, S k → k ≠ N ∧ k ≠ N + 1 ∧ k ≠ N + 2 ∧ N ≤ k) (ha0 : ∃ v, w'.cell? ⟨N + 2 + 1, 0, none⟩ = some v) (ha1 : ∃ v, w'.cell? ⟨N + 2 + 1, 1, none⟩ = some v)
    (hr0 : ∃ v, w'.cell? ⟨N + 2 + 1 + 1, 0, none⟩ = some v) (hr1 : ∃ v, w'.cell? ⟨N + 2 + 1 + 1, 1, none⟩ = some v) (fa : ∀ o, w'.frozen? ⟨N + 2 + 1, o, none⟩ = false) (fr : ∀ o, w'.frozen? ⟨N + 2 + 1 + 1, o, none⟩ = false) : Se W w' N n :=
  ⟨h.pool.upd u (fun e => (hS _ e).2.1 rfl) (fun e => (hS _ e).1 rfl) (by have := h.sz; omega), h.ref.upd u (fun e => (hS _ e).2.2.1 rfl), ha0, ha1, hr0, hr1, fa, fr, h.upd.trans u (fun i hi e => by have := (hS i e).2.2.2; have := h.ge; omega), by have := h.sz; have := u.size; omega, h.ge⟩
/-- The world behind one round: a map and its model are made, and stand in the arrays at place i. -/
def laid (w : World) (N bl i : Nat) : World := ((w.setCell ⟨N + 2 + 1, i, none⟩ (.pointer (some ⟨bl, 0, none⟩))).setCell ⟨N + 2 + 1 + 1, i, none⟩ (.pointer (some ⟨w.heap.size, 0, none⟩))).alloc (.cells (rmZero (.pointer (some ⟨N + 2, 0, none⟩))) 72)
theorem laid_upd (w : World) (N bl i : Nat) : Upd (fun k => k = N + 2 + 1 ∨ k = N + 2 + 1 + 1) w (laid w N bl i) :=
  (((Upd.one w (N + 2 + 1) i _).wide (fun _ e => Or.inl e)).trans (Upd.one _ (N + 2 + 1 + 1) i _) (fun _ _ e => Or.inr e)).alloc _
theorem laid_size (w : World) (N bl i : Nat) : (laid w N bl i).heap.size = w.heap.size + 1 := by simp [laid]
theorem laid_a {w : World} {N bl i : Nat} {v : Value} (h : w.cell? ⟨N + 2 + 1, i, none⟩ = some v) : (laid w N bl i).cell? ⟨N + 2 + 1, i, none⟩ = some (.pointer (some ⟨bl, 0, none⟩)) := by
  have h1 := World.cell?_setCell_same _ _ (.pointer (some ⟨bl, 0, none⟩)) h
  have h2 : ((w.setCell ⟨N + 2 + 1, i, none⟩ (.pointer (some ⟨bl, 0, none⟩))).setCell ⟨N + 2 + 1 + 1, i, none⟩ (.pointer (some ⟨w.heap.size, 0, none⟩))).cell? ⟨N + 2 + 1, i, none⟩ = some (.pointer (some ⟨bl, 0, none⟩)) := by
    rw [World.cell?_setCell_other _ _ _ _ (addr_ne (Or.inl (by omega)))]; exact h1
  exact Upd.cell ((Upd.refl (fun _ => False) _).alloc _) h2 (fun f => f)
theorem laid_r {w : World} {N bl i : Nat} {v : Value} (h : w.cell? ⟨N + 2 + 1 + 1, i, none⟩ = some v) : (laid w N bl i).cell? ⟨N + 2 + 1 + 1, i, none⟩ = some (.pointer (some ⟨w.heap.size, 0, none⟩)) := by
  have h1 : (w.setCell ⟨N + 2 + 1, i, none⟩ (.pointer (some ⟨bl, 0, none⟩))).cell? ⟨N + 2 + 1 + 1, i, none⟩ = some v := by
    rw [World.cell?_setCell_other _ _ _ _ (addr_ne (Or.inl (by omega)))]; exact h
  have h2 := World.cell?_setCell_same _ _ (.pointer (some ⟨w.heap.size, 0, none⟩)) h1
  exact Upd.cell ((Upd.refl (fun _ => False) _).alloc _) h2 (fun f => f)
theorem laid_far {w : World} {N bl i b o : Nat} {v : Value} (h : w.cell? ⟨b, o, none⟩ = some v) (hne : b ≠ N + 2 + 1 ∧ b ≠ N + 2 + 1 + 1 ∨ o ≠ i) : (laid w N bl i).cell? ⟨b, o, none⟩ = some v := by
  have h2 : ((w.setCell ⟨N + 2 + 1, i, none⟩ (.pointer (some ⟨bl, 0, none⟩))).setCell ⟨N + 2 + 1 + 1, i, none⟩ (.pointer (some ⟨w.heap.size, 0, none⟩))).cell? ⟨b, o, none⟩ = some v := by
    rw [World.cell?_setCell_other _ _ _ _ (addr_ne (by omega)), World.cell?_setCell_other _ _ _ _ (addr_ne (by omega))]; exact h
  exact Upd.cell ((Upd.refl (fun _ => False) _).alloc _) h2 (fun f => f)
theorem laid_fz {w : World} {N bl i b : Nat} (hb : b < w.heap.size) (h : ∀ o, w.frozen? ⟨b, o, none⟩ = false) : ∀ o, (laid w N bl i).frozen? ⟨b, o, none⟩ = false := by
  intro o
  unfold laid
  rw [World.frozen?_alloc_old _ _ _ (by simp; omega)]
  simp only [World.frozen?_setCell]
  exact h o
theorem laid_rm (w : World) (N bl i : Nat) : RMap (laid w N bl i) w.heap.size (N + 2) mp0 := by
  have := RMap.new ((w.setCell ⟨N + 2 + 1, i, none⟩ (.pointer (some ⟨bl, 0, none⟩))).setCell ⟨N + 2 + 1 + 1, i, none⟩ (.pointer (some ⟨w.heap.size, 0, none⟩))) (N + 2)
  unfold laid
  simpa only [World.size_setCell] using this
theorem Se.laid' {W w w5 : World} {N n bl i : Nat} (h : Se W w N n) (u : Upd (fun _ => False) w w5) : Se W (laid w5 N bl i) N n := by
  obtain ⟨v0, c0⟩ := h.a0
  obtain ⟨v1, c1⟩ := h.a1
  obtain ⟨v2, c2⟩ := h.r0
  obtain ⟨v3, c3⟩ := h.r1
  have d0 := u.cell c0 (fun f => f)
  have d1 := u.cell c1 (fun f => f)
  have d2 := u.cell c2 (fun f => f)
  have d3 := u.cell c3 (fun f => f)
  have sz := h.sz
  have su := u.size
  have any : ∀ {b o : Nat} {v : Value}, (b = N + 2 + 1 ∨ b = N + 2 + 1 + 1) → w5.cell? ⟨b, o, none⟩ = some v → ∃ v', (laid w5 N bl i).cell? ⟨b, o, none⟩ = some v' := by
    intro b o v hb hv
    by_cases e : o = i
    · subst e
      rcases hb with rfl | rfl
      · exact ⟨_, laid_a hv⟩
      · exact ⟨_, laid_r hv⟩
    · exact ⟨v, laid_far hv (Or.inr e)⟩
  exact h.upd' ((u.wide (fun _ f => f.elim)).trans (laid_upd w5 N bl i) (fun _ _ e => e)) (fun k e => by omega) (any (Or.inl rfl) d0) (any (Or.inl rfl) d1) (any (Or.inr rfl) d2) (any (Or.inr rfl) d3)
    (laid_fz (by omega) (frozen_blk u (fun f => f) c0 h.fza)) (laid_fz (by omega) (frozen_blk u (fun f => f) c2 h.fzr))
/-- Behind the second round. -/
theorem Se.done {W w w5 : World} {N n bl bx bl1 : Nat} (h : Se W w N n) (hl0 : LvAt w bl (N + 1) mp0) (hx0 : RMap w bx (N + 2) mp0) (ca : w.cell? ⟨N + 2 + 1, 0, none⟩ = some (.pointer (some ⟨bl, 0, none⟩))) (cr : w.cell? ⟨N + 2 + 1 + 1, 0, none⟩ = some (.pointer (some ⟨bx, 0, none⟩)))
    (g1 : N + 5 ≤ bl) (g2 : bl < bx) (g3 : bx < w.heap.size) (u : Upd (fun _ => False) w w5) (hl1 : LvAt w5 bl1 (N + 1) mp0) (gl : w.heap.size ≤ bl1) :
    M2 W (laid w5 N bl1 1) (N + 1) N (N + 2) (N + 2 + 1) (N + 2 + 1 + 1) bl bl1 bx w5.heap.size n (pl0 n) mp0 mp0 := by
  have hS := h.laid' (bl := bl1) (i := 1) u
  have su := u.size
  have l1 := hl1.lt
  have ge := h.ge
  have uu := laid_upd w5 N bl1 1
  obtain ⟨v1, c1⟩ := h.a1
  obtain ⟨v3, c3⟩ := h.r1
  refine { pool := hS.pool, ref := hS.ref, lv0 := (hl0.upd u (fun f => f)).upd uu (by omega), lv1 := hl1.upd uu (by omega), rm0 := (hx0.upd u (fun f => f)).upd uu (by omega), rm1 := laid_rm w5 N bl1 1, a0 := laid_far (u.cell ca (fun f => f)) (Or.inr (by omega)), a1 := laid_a (u.cell c1 (fun f => f)), r0 := laid_far (u.cell cr (fun f => f)) (Or.inr (by omega)), r1 := laid_r (u.cell c3 (fun f => f)), fza := hS.fza, inv := Inv.start n, sn := rfl, upd := hS.upd, dis := ?_, ge := by omega }
  unfold Dis
  omega
end Go.Proofs.Ytadpibcgjgcjhaa
/- The walk of undercroftlaw.MapSays. -/
namespace Go.Proofs.Ytadpibcgjgcjhaa
open Go.ChangeShapes Go.WideShapes Go.ChangeAt Go.RowKit
set_option maxRecDepth 100000
attribute [local go_sem ↓] Go.wp_at_zero Go.wp_at_succ

theorem zero64 (w : World) : (zeroValue 64).run Try.prog w = .ok (.agg #[.pointer none, .pointer none]) w := by kernel_rfl
theorem zero66 (w : World) : (zeroValue 66).run Try.prog w = .ok (.agg #[.pointer none, .pointer none]) w := by kernel_rfl
theorem same2 (w : World) : Calls Try.prog 13 #[errV 2, .int .i64 2] w fun e w' => e = .returned (.bool true) ∧ w' = w := sameE 2 w (by omega)

theorem mapped_at (w : World) (bp bf bm bl bx : Nat) (s : Pl) (m m' : Mp) (x : Ac) (v : Bool) (hon : x.on = v) (h : MI w bp bf bm bl bx s m) (hi : Inv s m m') (hn : 0 < s.n) (d : Apart bp bf bm bl bx) :
    Calls Try.prog 36 #[.pointer (some ⟨bl, 0, none⟩), .pointer (some ⟨bx, 0, none⟩), .pointer (some ⟨bp, 0, none⟩), .pointer (some ⟨bm, 0, none⟩), .agg #[.string x.kind, .int .i64 x.n, .int .i64 x.a, .int .i64 x.b, .int .u8 x.v, .bool v]] w
      fun e w' => e = .returned (.bool true) ∧ ∃ s2 m2, MI w' bp bf bm bl bx s2 m2 ∧ Inv s2 m2 m' ∧ s2.n = s.n ∧ Upd (Foot bf bm bl bx) w w' := by
  subst hon
  exact mapped_any w bp bf bm bl bx s m m' x h hi hn d

set_option maxHeartbeats 2000000 in
theorem map_walk (W : World) (n : Nat) (a : Option Addr) (len cap : Nat) (acts : Nat → Ac) (hn : 1 ≤ n) (hn2 : n ≤ 64) (hl : len ≤ 80) (hacts : ActsAt W a len acts) :
    Calls Try.prog 5 #[.int .i64 n, .slice a len cap] W fun e w' => e = .returned (.bool true) ∧ Upd (fun _ => False) W w' := by
  have HA : Hid _ := hacts
  clear hacts
  have z1 := zero36
  have z2 := refZero_ne
  have z3 := refZero_set
  have y1 := zero72
  have y2 := rmZero_ne
  have y3 := rmZero_set
  go_enter Try.func5, Try.ntmps5
  go_wp2_with fail
  refine (maps_any _).mono ?_
  rintro e w0 ⟨rfl, hu0⟩
  go_wp2_with fail
  refine (light_yes _ _ _ _ hl).mono ?_
  rintro e w1 ⟨rfl, rfl⟩
  go_wp2_with fail
  refine (lvNil _).mono ?_
  rintro e w2 ⟨rfl, hu2⟩
  go_wp2_with fail
  refine (same2 _).mono ?_
  rintro e w2 ⟨rfl, rfl⟩
  have hU2 := hu0.trans hu2 (fun _ _ f => f)
  go_wp2_with fail
  refine (new_any _ n hn hn2).mono ?_
  rintro e w3 ⟨rfl, hp, hu, hz⟩
  have hg : W.heap.size ≤ w2.heap.size := hU2.size
  have hS0 := Se.start hn2 hp (hU2.trans hu (fun _ _ f => f)) hz hg
  have HS0 : Hid _ := hS0
  clear hS0 hp hu hU2 hu0 hu2
  go_wp2_with fail
  revert HS0
  generalize ((w3.alloc (.cells (refZero n) 36)).alloc (.cells #[.pointer none, .pointer none] 64)).alloc (.cells #[.pointer none, .pointer none] 66) = w4
  clear hz
  generalize w2.heap.size = N
  intro HS0
  clear z1 z2 z3
  go_loopg [12] 2 (fun g i w => (g = 2 ∧ i = .int .i64 0 ∧ Se W w N n) ∨
      (g = 1 ∧ i = .int .i64 1 ∧ ∃ bl bx : Nat, Se W w N n ∧ LvAt w bl (N + 1) mp0 ∧ RMap w bx (N + 2) mp0 ∧ w.cell? ⟨N + 2 + 1, 0, none⟩ = some (.pointer (some ⟨bl, 0, none⟩)) ∧ w.cell? ⟨N + 2 + 1 + 1, 0, none⟩ = some (.pointer (some ⟨bx, 0, none⟩)) ∧ N + 5 ≤ bl ∧ bl < bx ∧ bx < w.heap.size) ∨
      (g = 0 ∧ i = .int .i64 2 ∧ ∃ bl0 bl1 bx0 bx1 : Nat, M2 W w (N + 1) N (N + 2) (N + 2 + 1) (N + 2 + 1 + 1) bl0 bl1 bx0 bx1 n (pl0 n) mp0 mp0))
  case atStart => exact Or.inl ⟨rfl, rfl, HS0.out⟩
  case round =>
    clear HS0
    rcases hrel with ⟨rfl, rfl, h⟩ | ⟨rfl, rfl, bl, bx, h, hl0, hx0, ca, cr, g1, g2, g3⟩ | ⟨rfl, rfl, bl0, bl1, bx0, bx1, h⟩
    · go_wp2_with fail
      refine (lvNew _ _).mono ?_
      rintro e w5 ⟨bl, rfl, hl5, gl, hu5⟩
      obtain ⟨v0, c0⟩ := h.a0
      obtain ⟨v1, c1⟩ := h.a1
      obtain ⟨v2, c2⟩ := h.r0
      obtain ⟨v3, c3⟩ := h.r1
      have d0 := hu5.cell c0 (fun f => f)
      have d1 := hu5.cell c1 (fun f => f)
      have d2 := hu5.cell c2 (fun f => f)
      have d3 := hu5.cell c3 (fun f => f)
      have f0 := frozen_blk hu5 (fun f => f) c0 h.fza
      have f2 := frozen_blk hu5 (fun f => f) c2 h.fzr
      have fa := f0 0
      have fr := f2 0
      have sz := h.sz
      have su := hu5.size
      have ll := hl5.lt
      have lt4 : N + 2 + 1 + 1 < w5.heap.size := by omega
      have e2 : (w5.setCell ⟨N + 2 + 1, 0, none⟩ (.pointer (some ⟨bl, 0, none⟩))).cell? ⟨N + 2 + 1 + 1, 0, none⟩ = some v2 := by
        rw [World.cell?_setCell_other _ _ _ _ (addr_ne (Or.inl (by omega)))]; exact d2
      have HH : Hid _ := h
      clear h c0 c1 c2 c3
      go_wp2_with fail
      go_roundg 1
      case rel => exact Or.inr (Or.inl ⟨rfl, rfl, bl, w5.heap.size, HH.out.laid' hu5, hl5.upd (laid_upd w5 N bl 0) (by omega), laid_rm w5 N bl 0, laid_a d0, laid_r d2, by omega, ll, (by rw [laid_size]; omega : w5.heap.size < (laid w5 N bl 0).heap.size)⟩)
      case measure => omega
    · go_wp2_with fail
      refine (lvNew _ _).mono ?_
      rintro e w5 ⟨bl1, rfl, hl5, gl, hu5⟩
      obtain ⟨v0, c0⟩ := h.a0
      obtain ⟨v1, c1⟩ := h.a1
      obtain ⟨v2, c2⟩ := h.r0
      obtain ⟨v3, c3⟩ := h.r1
      have d1 := hu5.cell c1 (fun f => f)
      have d3 := hu5.cell c3 (fun f => f)
      have f0 := frozen_blk hu5 (fun f => f) c0 h.fza
      have f2 := frozen_blk hu5 (fun f => f) c2 h.fzr
      have fa := f0 1
      have fr := f2 1
      have sz := h.sz
      have su := hu5.size
      have lt4 : N + 2 + 1 + 1 < w5.heap.size := by omega
      have e2 : (w5.setCell ⟨N + 2 + 1, 1, none⟩ (.pointer (some ⟨bl1, 0, none⟩))).cell? ⟨N + 2 + 1 + 1, 1, none⟩ = some v3 := by
        rw [World.cell?_setCell_other _ _ _ _ (addr_ne (Or.inl (by omega)))]; exact d3
      have hM := h.done hl0 hx0 ca cr g1 g2 g3 hu5 hl5 gl
      have HM : Hid _ := hM
      clear hM h c0 c1 c2 c3 hl0 hx0 ca cr
      go_wp2_with fail
      go_roundg 0
      case rel => exact Or.inr (Or.inr ⟨rfl, rfl, bl, bl1, bx, w5.heap.size, HM.out⟩)
      case measure => omega
    · clear y1 y2 y3
      go_wp2_with fail
      have HM0 : Hid _ := h
      clear h
      go_loopg [8, 15] len (fun g p i w => ∃ (k bp bf bl0 bl1 : Nat) (s : Pl) (m0 m1 : Mp), k + g = len ∧ i = .int .i64 k ∧ p = .pointer (some ⟨bp, 0, none⟩) ∧ M2 W w bp bf (N + 2) (N + 2 + 1) (N + 2 + 1 + 1) bl0 bl1 bx0 bx1 n s m0 m1)
      case atStart => exact ⟨0, _, _, _, _, _, _, _, by omega, rfl, rfl, HM0.out⟩
      case round =>
        obtain ⟨k, bp, bf, b0, b1, s, m0, m1, hk, rfl, rfl, hI⟩ := hrel
        have HK : Hid _ := hk
        clear hk HM0
        by_cases hlt : k < len
        · obtain ⟨b, o, rfl, hx⟩ := HA.out k hlt
          clear HA
          generalize acts k = x at hx
          have hx' := hx.upd hI.upd (fun f => f)
          obtain ⟨x1, x2, x3, x4, x5, x6⟩ := hx'
          clear hx
          by_cases kc : (x.kind.toList == [99, 111, 112, 121]) = true
          · cases hon : x.on
            · rw [hon] at x6
              have hJ := hI.keep hn ((Upd.refl _ _).alloc (.cells #[.string x.kind, .int .i64 x.n, .int .i64 x.a, .int .i64 x.b, .int .u8 x.v, .bool false] 38))
              have hn1 : 0 < s.n := by rw [hJ.sn]; exact hn
              have HJ : Hid _ := hJ
              clear hJ
              go_wp2_with fail
              refine (copy_any _ _ _ s HJ.out.pool hn1).mono ?_
              rintro e w5 ⟨cp, cf, rfl, hpc, gcp, gcf, lcp, lcf, hu5⟩
              clear x1 x2 x3 x4 x5 x6 hI
              revert HJ hu5 gcp gcf
              generalize wr.alloc (.cells #[.string x.kind, .int .i64 x.n, .int .i64 x.a, .int .i64 x.b, .int .u8 x.v, .bool false] 38) = W1
              intro HJ gcp gcf hu5
              have a0 := hu5.cell HJ.out.a0 (fun f => f)
              go_wp2_with fail
              refine (lvCopy _ _ _ _ m0 (HJ.out.lv0.upd hu5 (fun f => f))).mono ?_
              rintro e w6 ⟨c0, rfl, hc0, g0, hu6⟩
              have a1 := hu6.cell (hu5.cell HJ.out.a1 (fun f => f)) (fun f => f)
              clear a0
              go_wp2_with fail
              refine (lvCopy _ _ _ _ m1 ((HJ.out.lv1.upd hu5 (fun f => f)).upd hu6 (fun f => f))).mono ?_
              rintro e w7 ⟨c1, rfl, hc1, g1, hu7⟩
              clear a1
              have hu67 := hu6.trans hu7 (fun _ _ f => f)
              have hu57 := hu5.trans hu67 (fun _ _ f => f)
              have hp7 := hpc.upd hu67 (fun f => f) (fun f => f) lcf
              have l0 := hc0.lt
              have s5 := hu5.size
              have s6 := hu6.size
              have s7 := hu7.size
              have HG : Hid (W1.heap.size ≤ cp ∧ W1.heap.size ≤ cf ∧ W1.heap.size ≤ c0 ∧ W1.heap.size ≤ c1) := show _ ∧ _ by omega
              have HD : Hid (cp < c0 ∧ cf < c0 ∧ c0 < c1) := show _ ∧ _ by omega
              have HF : Hid (cf < w7.heap.size) := show _ < _ by omega
              have hc07 := hc0.upd hu7 (fun f => f)
              have HP7 : Hid _ := hp7
              clear hp7 l0 s5 s6 s7 gcp gcf lcp lcf g0 g1 hpc hc0 hu5 hu6 hu7 hu67
              have hM := HJ.out.keep hn hu57
              have dd := hM.dis
              unfold Dis at dd
              have e1 : b0 ≠ bp := by omega
              have e2 : b0 ≠ bf := by omega
              have e3 : b1 ≠ bp := by omega
              have e4 : b1 ≠ bf := by omega
              have e5 : ¬ (b1 = bf ∨ b1 = b0) := by omega
              have e6 : ¬ (N + 2 + 1 = bf ∨ N + 2 + 1 = b0) := by omega
              have e7 : ¬ (N + 2 + 1 = bf ∨ N + 2 + 1 = b1) := by omega
              clear dd
              have a0 := hM.a0
              go_wp2_with fail
              refine (lvUnplug _ _ _ _ _ m0 m1 s hM.lv0 hM.pool e1 e2 hn1 hM.inv).mono ?_
              rintro e w8 ⟨rfl, hp8, hl8, hu8⟩
              clear a0
              have a1 := hu8.cell hM.a1 e6
              have i8 := (hM.inv.unplug 0).swap
              have n8 : 0 < (unplugR s m0 0).2.1.n := by rw [unplug_n]; exact hn1
              have l8 := hM.lv1.upd hu8 e5
              go_wp2_with fail
              refine (lvTouch _ _ _ _ _ _ m1 _ _ l8 hp8 e3 e4 n8 i8).mono ?_
              rintro e w9 ⟨rfl, hp9, hl9, hu9⟩
              clear a1
              have hu89 : Upd (fun k => k = bf ∨ k = b0 ∨ k = b1) w7 w9 := (hu8.wide (fun _ e => by omega)).trans hu9 (fun _ _ e => by omega)
              have a0 := hu9.cell (hu8.cell hM.a0 e6) e7
              have a1' := hu9.cell (hu8.cell hM.a1 e6) e7
              have a1 : (w9.setCell ⟨N + 2 + 1, 0, none⟩ (.pointer (some ⟨c0, 0, none⟩))).cell? ⟨N + 2 + 1, 1, none⟩ = some (.pointer (some ⟨b1, 0, none⟩)) := by
                rw [World.cell?_setCell_other _ _ _ _ (addr_ne (Or.inr (by omega)))]; exact a1'
              have fz := frozen_blk hu9 e7 (hu8.cell hM.a0 e6) (frozen_blk hu8 e6 hM.a0 hM.fza)
              have fz0 := fz 0
              have fz1 := fz 1
              have hR := HJ.out.moved hn hu57 hu89 HP7.out hc07 hc1 HG.out HD.out HF.out
              have HR : Hid _ := hR
              clear hR fz hM e1 e2 e3 e4 e5 e6 e7 hu89 hp9 hl9 hu9 i8 n8 l8 hp8 hl8 hu8
              go_wp2_with fail
              go_roundg (len - (k + 1))
              case rel => exact ⟨k + 1, cp, cf, c0, c1, s, m0, m1, by omega, by go_num, rfl, HR.out⟩
              case measure => have := HK.out; omega
            · rw [hon] at x6
              have hJ := hI.keep hn ((Upd.refl _ _).alloc (.cells #[.string x.kind, .int .i64 x.n, .int .i64 x.a, .int .i64 x.b, .int .u8 x.v, .bool true] 38))
              have hn1 : 0 < s.n := by rw [hJ.sn]; exact hn
              have HJ : Hid _ := hJ
              clear hJ
              go_wp2_with fail
              refine (copy_any _ _ _ s HJ.out.pool hn1).mono ?_
              rintro e w5 ⟨cp, cf, rfl, hpc, gcp, gcf, lcp, lcf, hu5⟩
              clear x1 x2 x3 x4 x5 x6 hI
              revert HJ hu5 gcp gcf
              generalize wr.alloc (.cells #[.string x.kind, .int .i64 x.n, .int .i64 x.a, .int .i64 x.b, .int .u8 x.v, .bool true] 38) = W1
              intro HJ gcp gcf hu5
              have a0 := hu5.cell HJ.out.a0 (fun f => f)
              go_wp2_with fail
              refine (lvCopy _ _ _ _ m0 (HJ.out.lv0.upd hu5 (fun f => f))).mono ?_
              rintro e w6 ⟨c0, rfl, hc0, g0, hu6⟩
              have a1 := hu6.cell (hu5.cell HJ.out.a1 (fun f => f)) (fun f => f)
              clear a0
              go_wp2_with fail
              refine (lvCopy _ _ _ _ m1 ((HJ.out.lv1.upd hu5 (fun f => f)).upd hu6 (fun f => f))).mono ?_
              rintro e w7 ⟨c1, rfl, hc1, g1, hu7⟩
              clear a1
              have hu67 := hu6.trans hu7 (fun _ _ f => f)
              have hu57 := hu5.trans hu67 (fun _ _ f => f)
              have hp7 := hpc.upd hu67 (fun f => f) (fun f => f) lcf
              have l0 := hc0.lt
              have s5 := hu5.size
              have s6 := hu6.size
              have s7 := hu7.size
              have HG : Hid (W1.heap.size ≤ cp ∧ W1.heap.size ≤ cf ∧ W1.heap.size ≤ c0 ∧ W1.heap.size ≤ c1) := show _ ∧ _ by omega
              have HD : Hid (cp < c0 ∧ cf < c0 ∧ c0 < c1) := show _ ∧ _ by omega
              have HF : Hid (cf < w7.heap.size) := show _ < _ by omega
              have hc07 := hc0.upd hu7 (fun f => f)
              have HP7 : Hid _ := hp7
              clear hp7 l0 s5 s6 s7 gcp gcf lcp lcf g0 g1 hpc hc0 hu5 hu6 hu7 hu67
              have hM := HJ.out.keep hn hu57
              have dd := hM.dis
              unfold Dis at dd
              have e1 : b0 ≠ bp := by omega
              have e2 : b0 ≠ bf := by omega
              have e3 : b1 ≠ bp := by omega
              have e4 : b1 ≠ bf := by omega
              have e5 : ¬ (b1 = bf ∨ b1 = b0) := by omega
              have e6 : ¬ (N + 2 + 1 = bf ∨ N + 2 + 1 = b0) := by omega
              have e7 : ¬ (N + 2 + 1 = bf ∨ N + 2 + 1 = b1) := by omega
              clear dd
              have a0 := hM.a0
              go_wp2_with fail
              refine (lvUnplug _ _ _ _ _ m0 m1 s hM.lv0 hM.pool e1 e2 hn1 hM.inv).mono ?_
              rintro e w8 ⟨rfl, hp8, hl8, hu8⟩
              clear a0
              have a1 := hu8.cell hM.a1 e6
              have i8 := (hM.inv.unplug 0).swap
              have n8 : 0 < (unplugR s m0 0).2.1.n := by rw [unplug_n]; exact hn1
              have l8 := hM.lv1.upd hu8 e5
              go_wp2_with fail
              refine (lvTouch _ _ _ _ _ _ m1 _ _ l8 hp8 e3 e4 n8 i8).mono ?_
              rintro e w9 ⟨rfl, hp9, hl9, hu9⟩
              clear a1
              have hu89 : Upd (fun k => k = bf ∨ k = b0 ∨ k = b1) w7 w9 := (hu8.wide (fun _ e => by omega)).trans hu9 (fun _ _ e => by omega)
              have a0 := hu9.cell (hu8.cell hM.a0 e6) e7
              have a1' := hu9.cell (hu8.cell hM.a1 e6) e7
              have a1 : (w9.setCell ⟨N + 2 + 1, 0, none⟩ (.pointer (some ⟨c0, 0, none⟩))).cell? ⟨N + 2 + 1, 1, none⟩ = some (.pointer (some ⟨b1, 0, none⟩)) := by
                rw [World.cell?_setCell_other _ _ _ _ (addr_ne (Or.inr (by omega)))]; exact a1'
              have fz := frozen_blk hu9 e7 (hu8.cell hM.a0 e6) (frozen_blk hu8 e6 hM.a0 hM.fza)
              have fz0 := fz 0
              have fz1 := fz 1
              have hR := HJ.out.moved hn hu57 hu89 HP7.out hc07 hc1 HG.out HD.out HF.out
              have HR : Hid _ := hR
              clear hR fz hM e1 e2 e3 e4 e5 e6 e7 hu89 hp9 hl9 hu9 i8 n8 l8 hp8 hl8 hu8
              go_wp2_with fail
              go_roundg (len - (k + 1))
              case rel => exact ⟨k + 1, cp, cf, c0, c1, s, m0, m1, by omega, by go_num, rfl, HR.out⟩
              case measure => have := HK.out; omega
          · have kc' : (x.kind.toList == [99, 111, 112, 121]) = false := by simpa using kc
            clear kc
            cases hon : x.on
            · rw [hon] at x6
              have hn1 : 0 < s.n := by rw [hI.sn]; exact hn
              go_wp2_with fail
              have hB := BoxAt.new wr x
              have hJ := hI.keep hn ((Upd.refl _ _).alloc (.cells #[.string x.kind, .int .i64 x.n, .int .i64 x.a, .int .i64 x.b, .int .u8 x.v, .bool x.on] 38))
              rw [hon] at hB hJ
              have ql := hI.lts hn
              clear x1 x2 x3 x4 x5 x6 hI
              revert hB hJ ql
              generalize wr.alloc (.cells #[.string x.kind, .int .i64 x.n, .int .i64 x.a, .int .i64 x.b, .int .u8 x.v, .bool false] 38) = W1
              generalize wr.heap.size = q
              intro hB hJ ql
              obtain ⟨k0, k1, k2, k3, k4, k5⟩ := hB
              rw [hon] at k5
              have ka := hJ.a0
              have kr := hJ.r0
              have HJ : Hid _ := hJ
              have hJd := hJ.keep hn (Upd.refl _ _).drew
              have HJd : Hid _ := hJd
              have dd := hJ.dis
              unfold Dis at dd
              have NA : Hid (¬ Foot bf (N + 2) b0 bx0 (N + 2 + 1)) := show ¬ _ by unfold Foot; omega
              have NR : Hid (¬ Foot bf (N + 2) b0 bx0 (N + 2 + 1 + 1)) := show ¬ _ by unfold Foot; omega
              have NQ : Hid (¬ Foot bf (N + 2) b0 bx0 q) := show ¬ _ by unfold Foot; omega
              clear dd hJ hJd ql
              go_region_held3 (fun w' => (w'.cell? ⟨N + 2 + 1, 0, none⟩ = some (.pointer (some ⟨b0, 0, none⟩)) ∧ w'.cell? ⟨N + 2 + 1 + 1, 0, none⟩ = some (.pointer (some ⟨bx0, 0, none⟩))) ∧ w'.cell? ⟨q, 0, none⟩ = some (.string x.kind) ∧ w'.cell? ⟨q, 1, none⟩ = some (.int .i64 x.n) ∧ w'.cell? ⟨q, 2, none⟩ = some (.int .i64 x.a) ∧ w'.cell? ⟨q, 3, none⟩ = some (.int .i64 x.b) ∧ w'.cell? ⟨q, 4, none⟩ = some (.int .u8 x.v) ∧ w'.cell? ⟨q, 5, none⟩ = some (.bool false)) (first | exact ⟨⟨ka, kr⟩, k0, k1, k2, k3, k4, k5⟩ | exact h5c)
                (first
                  | (go_at_call 36; refine (mapped_at _ bp bf (N + 2) b0 bx0 s m0 m1 x false hon (by first | exact ⟨HJ.out.pool, HJ.out.ref, HJ.out.lv0, HJ.out.rm0⟩ | exact ⟨HJd.out.pool, HJd.out.ref, HJd.out.lv0, HJd.out.rm0⟩) HJ.out.inv hn1 HJ.out.apart0).mono ?_; rintro e w5 ⟨rfl, s2, m2, hI5, i5, n5, hu5⟩; have h5c : (w5.cell? ⟨N + 2 + 1, 0, none⟩ = some (.pointer (some ⟨b0, 0, none⟩)) ∧ w5.cell? ⟨N + 2 + 1 + 1, 0, none⟩ = some (.pointer (some ⟨bx0, 0, none⟩))) ∧ w5.cell? ⟨q, 0, none⟩ = some (.string x.kind) ∧ w5.cell? ⟨q, 1, none⟩ = some (.int .i64 x.n) ∧ w5.cell? ⟨q, 2, none⟩ = some (.int .i64 x.a) ∧ w5.cell? ⟨q, 3, none⟩ = some (.int .i64 x.b) ∧ w5.cell? ⟨q, 4, none⟩ = some (.int .u8 x.v) ∧ w5.cell? ⟨q, 5, none⟩ = some (.bool false) := ⟨⟨hu5.cell (by exact ka) NA.out, hu5.cell (by exact kr) NR.out⟩, hu5.cell (by exact k0) NQ.out, hu5.cell (by exact k1) NQ.out, hu5.cell (by exact k2) NQ.out, hu5.cell (by exact k3) NQ.out, hu5.cell (by exact k4) NQ.out, hu5.cell (by exact k5) NQ.out⟩))
              go_wp2_with fail
              go_roundg (len - (k + 1))
              case rel => exact ⟨k + 1, bp, bf, b0, b1, s2, m2, m1, by omega, by go_num, rfl, HJd.out.act0 hI5 i5 n5 hu5⟩
              case measure => have := HK.out; omega
            · rw [hon] at x6
              have hn1 : 0 < s.n := by rw [hI.sn]; exact hn
              go_wp2_with fail
              have hB := BoxAt.new wr x
              have hJ := hI.keep hn ((Upd.refl _ _).alloc (.cells #[.string x.kind, .int .i64 x.n, .int .i64 x.a, .int .i64 x.b, .int .u8 x.v, .bool x.on] 38))
              rw [hon] at hB hJ
              have ql := hI.lts hn
              clear x1 x2 x3 x4 x5 x6 hI
              revert hB hJ ql
              generalize wr.alloc (.cells #[.string x.kind, .int .i64 x.n, .int .i64 x.a, .int .i64 x.b, .int .u8 x.v, .bool true] 38) = W1
              generalize wr.heap.size = q
              intro hB hJ ql
              obtain ⟨k0, k1, k2, k3, k4, k5⟩ := hB
              rw [hon] at k5
              have ka := hJ.a1
              have kr := hJ.r1
              have HJ : Hid _ := hJ
              have hJd := hJ.keep hn (Upd.refl _ _).drew
              have HJd : Hid _ := hJd
              have dd := hJ.dis
              unfold Dis at dd
              have NA : Hid (¬ Foot bf (N + 2) b1 bx1 (N + 2 + 1)) := show ¬ _ by unfold Foot; omega
              have NR : Hid (¬ Foot bf (N + 2) b1 bx1 (N + 2 + 1 + 1)) := show ¬ _ by unfold Foot; omega
              have NQ : Hid (¬ Foot bf (N + 2) b1 bx1 q) := show ¬ _ by unfold Foot; omega
              clear dd hJ hJd ql
              go_region_held3 (fun w' => (w'.cell? ⟨N + 2 + 1, 1, none⟩ = some (.pointer (some ⟨b1, 0, none⟩)) ∧ w'.cell? ⟨N + 2 + 1 + 1, 1, none⟩ = some (.pointer (some ⟨bx1, 0, none⟩))) ∧ w'.cell? ⟨q, 0, none⟩ = some (.string x.kind) ∧ w'.cell? ⟨q, 1, none⟩ = some (.int .i64 x.n) ∧ w'.cell? ⟨q, 2, none⟩ = some (.int .i64 x.a) ∧ w'.cell? ⟨q, 3, none⟩ = some (.int .i64 x.b) ∧ w'.cell? ⟨q, 4, none⟩ = some (.int .u8 x.v) ∧ w'.cell? ⟨q, 5, none⟩ = some (.bool true)) (first | exact ⟨⟨ka, kr⟩, k0, k1, k2, k3, k4, k5⟩ | exact h5c)
                (first
                  | (go_at_call 36; refine (mapped_at _ bp bf (N + 2) b1 bx1 s m1 m0 x true hon (by first | exact ⟨HJ.out.pool, HJ.out.ref, HJ.out.lv1, HJ.out.rm1⟩ | exact ⟨HJd.out.pool, HJd.out.ref, HJd.out.lv1, HJd.out.rm1⟩) HJ.out.inv.swap hn1 HJ.out.apart1).mono ?_; rintro e w5 ⟨rfl, s2, m2, hI5, i5, n5, hu5⟩; have h5c : (w5.cell? ⟨N + 2 + 1, 1, none⟩ = some (.pointer (some ⟨b1, 0, none⟩)) ∧ w5.cell? ⟨N + 2 + 1 + 1, 1, none⟩ = some (.pointer (some ⟨bx1, 0, none⟩))) ∧ w5.cell? ⟨q, 0, none⟩ = some (.string x.kind) ∧ w5.cell? ⟨q, 1, none⟩ = some (.int .i64 x.n) ∧ w5.cell? ⟨q, 2, none⟩ = some (.int .i64 x.a) ∧ w5.cell? ⟨q, 3, none⟩ = some (.int .i64 x.b) ∧ w5.cell? ⟨q, 4, none⟩ = some (.int .u8 x.v) ∧ w5.cell? ⟨q, 5, none⟩ = some (.bool true) := ⟨⟨hu5.cell (by exact ka) NA.out, hu5.cell (by exact kr) NR.out⟩, hu5.cell (by exact k0) NQ.out, hu5.cell (by exact k1) NQ.out, hu5.cell (by exact k2) NQ.out, hu5.cell (by exact k3) NQ.out, hu5.cell (by exact k4) NQ.out, hu5.cell (by exact k5) NQ.out⟩))
              go_wp2_with fail
              go_roundg (len - (k + 1))
              case rel => exact ⟨k + 1, bp, bf, b0, b1, s2, m0, m2, by omega, by go_num, rfl, HJd.out.act1 hI5 i5 n5 hu5⟩
              case measure => have := HK.out; omega
        · have a0 := hI.a0
          have a1 := hI.a1
          have r0 := hI.r0
          have r1 := hI.r1
          have hn1 : 0 < s.n := by rw [hI.sn]; exact hn
          go_wp2_with fail
          refine (asMap_any _ _ _ _ _ m0 hI.lv0 hI.rm0).mono ?_
          rintro e w5 ⟨rfl, hu5⟩
          have h5 := hI.keep hn hu5
          clear a0 a1 r0 r1
          have a1 := h5.a1
          have r1 := h5.r1
          go_wp2_with fail
          refine (asMap_any _ _ _ _ _ m1 h5.lv1 h5.rm1).mono ?_
          rintro e w6 ⟨rfl, hu6⟩
          have h6 := h5.keep hn hu6
          go_wp2_with fail
          refine (asPool_any _ _ _ _ s h6.pool h6.ref hn1).mono ?_
          rintro e w7 ⟨rfl, hu7⟩
          go_wp2_with fail
          go_ret
          exact ⟨rfl, h6.upd.trans hu7 (fun _ _ f => f)⟩
end Go.Proofs.Ytadpibcgjgcjhaa
/- undercroftlaw.MapSays: long lists, numbers out of range, and all together. -/
namespace Go.Proofs.Ytadpibcgjgcjhaa.MSays
open Go.ChangeShapes Go.WideShapes Go.ChangeAt Go.RowKit
set_option maxRecDepth 100000

theorem long (W : World) (n : Int) (a : Option Addr) (len cap : Nat) (hl : 80 < len) :
    Calls Try.prog 5 #[.int .i64 n, .slice a len cap] W fun e w' => e = .returned (.bool true) ∧ Upd (fun _ => False) W w' := by
  go_enter Try.func5, Try.ntmps5
  go_wp2_with fail
  refine (maps_any _).mono ?_
  rintro e w0 ⟨rfl, hu0⟩
  go_wp2_with fail
  refine (light_no _ _ _ _ hl).mono ?_
  rintro e w1 ⟨rfl, rfl⟩
  go_wp2_with fail
  go_ret
  exact ⟨rfl, hu0⟩
theorem out (W : World) (n : Int) (a : Option Addr) (len cap : Nat) (hl : len ≤ 80) (hn : n < 1 ∨ 64 < n) :
    Calls Try.prog 5 #[.int .i64 n, .slice a len cap] W fun e w' => e = .returned (.bool true) ∧ Upd (fun _ => False) W w' := by
  go_enter Try.func5, Try.ntmps5
  go_wp2_with fail
  refine (maps_any _).mono ?_
  rintro e w0 ⟨rfl, hu0⟩
  go_wp2_with fail
  refine (light_yes _ _ _ _ hl).mono ?_
  rintro e w1 ⟨rfl, rfl⟩
  go_wp2_with fail
  refine (lvNil _).mono ?_
  rintro e w2 ⟨rfl, hu2⟩
  go_wp2_with fail
  refine (same2 _).mono ?_
  rintro e w2 ⟨rfl, rfl⟩
  have hU2 := hu0.trans hu2 (fun _ _ f => f)
  go_wp2_with fail
  refine (new_no _ _ hn).mono ?_
  rintro e w3 ⟨rfl, rfl⟩
  go_wp2_with fail
  go_ret
  exact ⟨rfl, hU2⟩
theorem walk (n : Int) (a : Option Addr) (len cap : Nat) (acts : Nat → Ac) (W : World) (h : ActsAt W a len acts) :
    Calls Try.prog 5 #[.int .i64 n, .slice a len cap] W fun e w' => e = .returned (.bool true) ∧ Below W.heap.size W w' := by
  by_cases hl : len ≤ 80
  · by_cases hn : n < 1 ∨ 64 < n
    · exact (out W n a len cap hl hn).mono fun _ _ ⟨he, hu⟩ => ⟨he, hu.below⟩
    · obtain ⟨m, rfl⟩ := Int.eq_ofNat_of_zero_le (show 0 ≤ n by omega)
      exact (map_walk W m a len cap acts (by omega) (by omega) hl h).mono fun _ _ ⟨he, hu⟩ => ⟨he, hu.below⟩
  · exact (long W n a len cap (by omega)).mono fun _ _ ⟨he, hu⟩ => ⟨he, hu.below⟩
end Go.Proofs.Ytadpibcgjgcjhaa.MSays
