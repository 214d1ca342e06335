/- How undercroftlaw.MapSays sets two maps and their models up. -/
import Derived.Test.YtfdppnnechdpeaaMapD
namespace Go.Proofs.Ytfdppnnechdpeaa
open Go.ChangeShapes Go.WideShapes Go.ChangeAt Go.RowKit
set_option maxRecDepth 100000

/-- Sixteen leaves that lead nowhere. -/
def leavesZ : Nat → List Value
  | 0 => []
  | k + 1 => .bool false :: .bool false :: .int .i64 0 :: leavesZ k
def mapTail (a b : Nat) : List Value := List.replicate a (.int .i64 0) ++ leavesZ b
theorem leavesZ_get : ∀ (b n j : Nat), n < b → j < 3 → (leavesZ b)[n * 3 + j]? = some (if j = 2 then .int .i64 0 else .bool false)
  | 0, _, _, h, _ => absurd h (by omega)
  | b + 1, 0, j, _, hj => by
    rcases j with _ | _ | _ | j
    · rfl
    · rfl
    · rfl
    · omega
  | b + 1, n + 1, j, h, hj => by
    have := leavesZ_get b n j (by omega) hj
    rw [show (n + 1) * 3 + j = (n * 3 + j) + 1 + 1 + 1 by omega]
    simpa [leavesZ] using this
theorem mapTail_st (a b n : Nat) (h : n < a) : (mapTail a b)[n]? = some (.int .i64 0) := by
  unfold mapTail
  rw [List.getElem?_append_left (by rw [List.length_replicate]; exact h), List.getElem?_replicate, if_pos h]
theorem mapTail_lf (a b n j : Nat) (h : n < b) (hj : j < 3) : (mapTail a b)[a + (n * 3 + j)]? = some (if j = 2 then .int .i64 0 else .bool false) := by
  unfold mapTail
  rw [List.getElem?_append_right (by rw [List.length_replicate]; omega), List.length_replicate, show a + (n * 3 + j) - a = n * 3 + j by omega]
  exact leavesZ_get b n j h hj
def rmZero (p : Value) : Array Value := (p :: mapTail 16 16).toArray
theorem zero72 (w : World) : (zeroValue 72).run Try.prog w = .ok (.agg (rmZero (.pointer none))) w := by kernel_rfl
theorem rmZero_ne : ¬ rmZero (.pointer none) = #[] := by
  unfold rmZero
  simp
theorem rmZero_set (v : Value) : (rmZero (.pointer none)).setIfInBounds 0 v = rmZero v := by
  unfold rmZero
  simp
theorem rmZero_0 (p : Value) : (rmZero p)[0]? = some p := by
  unfold rmZero
  simp
theorem rmZero_st (p : Value) (n : Nat) (h : n < 16) : (rmZero p)[1 + n]? = some (.int .i64 0) := by
  unfold rmZero
  rw [Nat.add_comm, List.getElem?_toArray, List.getElem?_cons_succ]
  exact mapTail_st 16 16 n h
theorem rmZero_lf (p : Value) (n j : Nat) (h : n < 16) (hj : j < 3) : (rmZero p)[17 + n * 3 + j]? = some (if j = 2 then .int .i64 0 else .bool false) := by
  unfold rmZero
  rw [show 17 + n * 3 + j = (16 + (n * 3 + j)) + 1 by omega, List.getElem?_toArray, List.getElem?_cons_succ]
  exact mapTail_lf 16 16 n j h hj
theorem RMap.new (w : World) (bm : Nat) : RMap (w.alloc (.cells (rmZero (.pointer (some ⟨bm, 0, none⟩))) 72)) w.heap.size bm mp0 where
  pool := by rw [World.cell?_alloc_new, rmZero_0]
  st := fun n hn => by rw [World.cell?_alloc_new, rmZero_st _ _ hn]; rfl
  th := fun n hn => by have := rmZero_lf (.pointer (some ⟨bm, 0, none⟩)) n 0 hn (by omega); rw [World.cell?_alloc_new]; exact this
  wr := fun n hn => by have := rmZero_lf (.pointer (some ⟨bm, 0, none⟩)) n 1 hn (by omega); rw [World.cell?_alloc_new]; exact this
  fr := fun n hn => by have := rmZero_lf (.pointer (some ⟨bm, 0, none⟩)) n 2 hn (by omega); rw [World.cell?_alloc_new]; exact this
  fz := fun o => World.frozen?_alloc_new _ _ _ _

/-- The pool and its model, ahead of the maps; the two arrays are there. -/
structure Se (W w : World) (N n : Nat) : Prop where
  pool : PoolAt w (N + 1) N (pl0 n)
  ref : RefAt w (N + 2) (pl0 n)
  a0 : ∃ v, w.cell? ⟨N + 2 + 1, 0, none⟩ = some v
  a1 : ∃ v, w.cell? ⟨N + 2 + 1, 1, none⟩ = some v
  r0 : ∃ v, w.cell? ⟨N + 2 + 1 + 1, 0, none⟩ = some v
  r1 : ∃ v, w.cell? ⟨N + 2 + 1 + 1, 1, none⟩ = some v
  fza : ∀ o, w.frozen? ⟨N + 2 + 1, o, none⟩ = false
  fzr : ∀ o, w.frozen? ⟨N + 2 + 1 + 1, o, none⟩ = false
  upd : Upd (fun _ => False) W w
  sz : N + 5 ≤ w.heap.size
  ge : W.heap.size ≤ N
theorem Se.start {W w : World} {N n : Nat} (hn : n ≤ 64) (hp : PoolAt w (N + 1) N (pl0 n)) (hu : Upd (fun _ => False) W w) (hz : w.heap.size = N + 2) (hg : W.heap.size ≤ N) :
    Se W (((w.alloc (.cells (refZero n) 36)).alloc (.cells #[.pointer none, .pointer none] 64)).alloc (.cells #[.pointer none, .pointer none] 66)) N n := by
  have z1 : (w.alloc (.cells (refZero n) 36)).heap.size = N + 2 + 1 := by simp [hz]
  have z2 : ((w.alloc (.cells (refZero n) 36)).alloc (.cells #[.pointer none, .pointer none] 64)).heap.size = N + 2 + 1 + 1 := by simp [hz]
  have u : Upd (fun _ => False) w (((w.alloc (.cells (refZero n) 36)).alloc (.cells #[.pointer none, .pointer none] 64)).alloc (.cells #[.pointer none, .pointer none] 66)) := (((Upd.refl _ _).alloc _).alloc _).alloc _
  have r := RefAt.new w n hn
  rw [hz] at r
  have ca : ∀ i, ((w.alloc (.cells (refZero n) 36)).alloc (.cells #[.pointer none, .pointer none] 64)).cell? ⟨N + 2 + 1, i, none⟩ = #[Value.pointer none, .pointer none][i]? := by
    intro i
    have := World.cell?_alloc_new (w.alloc (.cells (refZero n) 36)) #[.pointer none, .pointer none] 64 i
    rwa [z1] at this
  have cr : ∀ i, (((w.alloc (.cells (refZero n) 36)).alloc (.cells #[.pointer none, .pointer none] 64)).alloc (.cells #[.pointer none, .pointer none] 66)).cell? ⟨N + 2 + 1 + 1, i, none⟩ = #[Value.pointer none, .pointer none][i]? := by
    intro i
    have := World.cell?_alloc_new ((w.alloc (.cells (refZero n) 36)).alloc (.cells #[.pointer none, .pointer none] 64)) #[.pointer none, .pointer none] 66 i
    rwa [z2] at this
  refine ⟨hp.upd u (fun f => f) (fun f => f) (by omega), r.upd (((Upd.refl (fun _ => False) _).alloc _).alloc _) (fun f => f), ⟨.pointer none, ?_⟩, ⟨.pointer none, ?_⟩, ⟨.pointer none, by rw [cr]; rfl⟩, ⟨.pointer none, by rw [cr]; rfl⟩, ?_, ?_, hu.trans u (fun _ _ f => f), by simp [hz], hg⟩
  · rw [World.cell?_alloc_old _ _ _ (by rw [z2]; simp), ca]; rfl
  · rw [World.cell?_alloc_old _ _ _ (by rw [z2]; simp), ca]; rfl
  · intro o
    rw [World.frozen?_alloc_old _ _ _ (by rw [z2]; simp)]
    have := World.frozen?_alloc_new (w.alloc (.cells (refZero n) 36)) #[.pointer none, .pointer none] 64 o
    rwa [z1] at this
  · intro o
    have := World.frozen?_alloc_new ((w.alloc (.cells (refZero n) 36)).alloc (.cells #[.pointer none, .pointer none] 64)) #[.pointer none, .pointer none] 66 o
    rwa [z2] at this
theorem Se.upd' {S : Nat → Prop} {W w w' : World} {N n : Nat} (h : Se W w N n) (u : Upd S w w') (hS : ∀ k, S k → k ≠ N ∧ k ≠ N + 1 ∧ k ≠ N + 2 ∧ N ≤ k) (ha0 : ∃ v, w'.cell? ⟨N + 2 + 1, 0, none⟩ = some v) (ha1 : ∃ v, w'.cell? ⟨N + 2 + 1, 1, none⟩ = some v)
    (hr0 : ∃ v, w'.cell? ⟨N + 2 + 1 + 1, 0, none⟩ = some v) (hr1 : ∃ v, w'.cell? ⟨N + 2 + 1 + 1, 1, none⟩ = some v) (fa : ∀ o, w'.frozen? ⟨N + 2 + 1, o, none⟩ = false) (fr : ∀ o, w'.frozen? ⟨N + 2 + 1 + 1, o, none⟩ = false) : Se W w' N n :=
  ⟨h.pool.upd u (fun e => (hS _ e).2.1 rfl) (fun e => (hS _ e).1 rfl) (by have := h.sz; omega), h.ref.upd u (fun e => (hS _ e).2.2.1 rfl), ha0, ha1, hr0, hr1, fa, fr, h.upd.trans u (fun i hi e => by have := (hS i e).2.2.2; have := h.ge; omega), by have := h.sz; have := u.size; omega, h.ge⟩
/-- The world behind one round: a map and its model are made, and stand in the arrays at place i. -/
def laid (w : World) (N bl i : Nat) : World := ((w.setCell ⟨N + 2 + 1, i, none⟩ (.pointer (some ⟨bl, 0, none⟩))).setCell ⟨N + 2 + 1 + 1, i, none⟩ (.pointer (some ⟨w.heap.size, 0, none⟩))).alloc (.cells (rmZero (.pointer (some ⟨N + 2, 0, none⟩))) 72)
theorem laid_upd (w : World) (N bl i : Nat) : Upd (fun k => k = N + 2 + 1 ∨ k = N + 2 + 1 + 1) w (laid w N bl i) :=
  (((Upd.one w (N + 2 + 1) i _).wide (fun _ e => Or.inl e)).trans (Upd.one _ (N + 2 + 1 + 1) i _) (fun _ _ e => Or.inr e)).alloc _
theorem laid_size (w : World) (N bl i : Nat) : (laid w N bl i).heap.size = w.heap.size + 1 := by simp [laid]
theorem laid_a {w : World} {N bl i : Nat} {v : Value} (h : w.cell? ⟨N + 2 + 1, i, none⟩ = some v) : (laid w N bl i).cell? ⟨N + 2 + 1, i, none⟩ = some (.pointer (some ⟨bl, 0, none⟩)) := by
  have h1 := World.cell?_setCell_same _ _ (.pointer (some ⟨bl, 0, none⟩)) h
  have h2 : ((w.setCell ⟨N + 2 + 1, i, none⟩ (.pointer (some ⟨bl, 0, none⟩))).setCell ⟨N + 2 + 1 + 1, i, none⟩ (.pointer (some ⟨w.heap.size, 0, none⟩))).cell? ⟨N + 2 + 1, i, none⟩ = some (.pointer (some ⟨bl, 0, none⟩)) := by
    rw [World.cell?_setCell_other _ _ _ _ (addr_ne (Or.inl (by omega)))]; exact h1
  exact Upd.cell ((Upd.refl (fun _ => False) _).alloc _) h2 (fun f => f)
theorem laid_r {w : World} {N bl i : Nat} {v : Value} (h : w.cell? ⟨N + 2 + 1 + 1, i, none⟩ = some v) : (laid w N bl i).cell? ⟨N + 2 + 1 + 1, i, none⟩ = some (.pointer (some ⟨w.heap.size, 0, none⟩)) := by
  have h1 : (w.setCell ⟨N + 2 + 1, i, none⟩ (.pointer (some ⟨bl, 0, none⟩))).cell? ⟨N + 2 + 1 + 1, i, none⟩ = some v := by
    rw [World.cell?_setCell_other _ _ _ _ (addr_ne (Or.inl (by omega)))]; exact h
  have h2 := World.cell?_setCell_same _ _ (.pointer (some ⟨w.heap.size, 0, none⟩)) h1
  exact Upd.cell ((Upd.refl (fun _ => False) _).alloc _) h2 (fun f => f)
theorem laid_far {w : World} {N bl i b o : Nat} {v : Value} (h : w.cell? ⟨b, o, none⟩ = some v) (hne : b ≠ N + 2 + 1 ∧ b ≠ N + 2 + 1 + 1 ∨ o ≠ i) : (laid w N bl i).cell? ⟨b, o, none⟩ = some v := by
  have h2 : ((w.setCell ⟨N + 2 + 1, i, none⟩ (.pointer (some ⟨bl, 0, none⟩))).setCell ⟨N + 2 + 1 + 1, i, none⟩ (.pointer (some ⟨w.heap.size, 0, none⟩))).cell? ⟨b, o, none⟩ = some v := by
    rw [World.cell?_setCell_other _ _ _ _ (addr_ne (by omega)), World.cell?_setCell_other _ _ _ _ (addr_ne (by omega))]; exact h
  exact Upd.cell ((Upd.refl (fun _ => False) _).alloc _) h2 (fun f => f)
theorem laid_fz {w : World} {N bl i b : Nat} (hb : b < w.heap.size) (h : ∀ o, w.frozen? ⟨b, o, none⟩ = false) : ∀ o, (laid w N bl i).frozen? ⟨b, o, none⟩ = false := by
  intro o
  unfold laid
  rw [World.frozen?_alloc_old _ _ _ (by simp; omega)]
  simp only [World.frozen?_setCell]
  exact h o
theorem laid_rm (w : World) (N bl i : Nat) : RMap (laid w N bl i) w.heap.size (N + 2) mp0 := by
  have := RMap.new ((w.setCell ⟨N + 2 + 1, i, none⟩ (.pointer (some ⟨bl, 0, none⟩))).setCell ⟨N + 2 + 1 + 1, i, none⟩ (.pointer (some ⟨w.heap.size, 0, none⟩))) (N + 2)
  unfold laid
  simpa only [World.size_setCell] using this
theorem Se.laid' {W w w5 : World} {N n bl i : Nat} (h : Se W w N n) (u : Upd (fun _ => False) w w5) : Se W (laid w5 N bl i) N n := by
  obtain ⟨v0, c0⟩ := h.a0
  obtain ⟨v1, c1⟩ := h.a1
  obtain ⟨v2, c2⟩ := h.r0
  obtain ⟨v3, c3⟩ := h.r1
  have d0 := u.cell c0 (fun f => f)
  have d1 := u.cell c1 (fun f => f)
  have d2 := u.cell c2 (fun f => f)
  have d3 := u.cell c3 (fun f => f)
  have sz := h.sz
  have su := u.size
  have any : ∀ {b o : Nat} {v : Value}, (b = N + 2 + 1 ∨ b = N + 2 + 1 + 1) → w5.cell? ⟨b, o, none⟩ = some v → ∃ v', (laid w5 N bl i).cell? ⟨b, o, none⟩ = some v' := by
    intro b o v hb hv
    by_cases e : o = i
    · subst e
      rcases hb with rfl | rfl
      · exact ⟨_, laid_a hv⟩
      · exact ⟨_, laid_r hv⟩
    · exact ⟨v, laid_far hv (Or.inr e)⟩
  exact h.upd' ((u.wide (fun _ f => f.elim)).trans (laid_upd w5 N bl i) (fun _ _ e => e)) (fun k e => by omega) (any (Or.inl rfl) d0) (any (Or.inl rfl) d1) (any (Or.inr rfl) d2) (any (Or.inr rfl) d3)
    (laid_fz (by omega) (frozen_blk u (fun f => f) c0 h.fza)) (laid_fz (by omega) (frozen_blk u (fun f => f) c2 h.fzr))
/-- Behind the second round. -/
theorem Se.done {W w w5 : World} {N n bl bx bl1 : Nat} (h : Se W w N n) (hl0 : LvAt w bl (N + 1) mp0) (hx0 : RMap w bx (N + 2) mp0) (ca : w.cell? ⟨N + 2 + 1, 0, none⟩ = some (.pointer (some ⟨bl, 0, none⟩))) (cr : w.cell? ⟨N + 2 + 1 + 1, 0, none⟩ = some (.pointer (some ⟨bx, 0, none⟩)))
    (g1 : N + 5 ≤ bl) (g2 : bl < bx) (g3 : bx < w.heap.size) (u : Upd (fun _ => False) w w5) (hl1 : LvAt w5 bl1 (N + 1) mp0) (gl : w.heap.size ≤ bl1) :
    M2 W (laid w5 N bl1 1) (N + 1) N (N + 2) (N + 2 + 1) (N + 2 + 1 + 1) bl bl1 bx w5.heap.size n (pl0 n) mp0 mp0 := by
  have hS := h.laid' (bl := bl1) (i := 1) u
  have su := u.size
  have l1 := hl1.lt
  have ge := h.ge
  have uu := laid_upd w5 N bl1 1
  obtain ⟨v1, c1⟩ := h.a1
  obtain ⟨v3, c3⟩ := h.r1
  refine { pool := hS.pool, ref := hS.ref, lv0 := (hl0.upd u (fun f => f)).upd uu (by omega), lv1 := hl1.upd uu (by omega), rm0 := (hx0.upd u (fun f => f)).upd uu (by omega), rm1 := laid_rm w5 N bl1 1, a0 := laid_far (u.cell ca (fun f => f)) (Or.inr (by omega)), a1 := laid_a (u.cell c1 (fun f => f)), r0 := laid_far (u.cell cr (fun f => f)) (Or.inr (by omega)), r1 := laid_r (u.cell c3 (fun f => f)), fza := hS.fza, inv := Inv.start n, sn := rfl, upd := hS.upd, dis := ?_, ge := by omega }
  unfold Dis
  omega
end Go.Proofs.Ytfdppnnechdpeaa
