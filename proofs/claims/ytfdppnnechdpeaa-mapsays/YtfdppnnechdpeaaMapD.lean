/- What holds in each round of undercroftlaw.MapSays. -/
import Derived.Test.YtfdppnnechdpeaaMapB
namespace Go.Proofs.Ytfdppnnechdpeaa
open Go.ChangeShapes Go.WideShapes Go.ChangeAt Go.RowKit
set_option maxRecDepth 100000

/-- Nine blocks, pairwise apart: by the order in which they were made; the pool and its maps first, or, where they are copies, last. -/
def Dis (bp bf bm ba br bl0 bl1 bx0 bx1 : Nat) : Prop :=
  bm < ba ∧ ba < br ∧ br < bx0 ∧ bx0 < bx1 ∧ bp ≠ bf ∧ bl0 < bl1 ∧ ((bf < bm ∧ bp < bm ∧ br < bl0 ∧ bl0 < bx0 ∧ bx0 < bl1 ∧ bl1 < bx1) ∨ (bx1 < bp ∧ bx1 < bf ∧ bp < bl0 ∧ bf < bl0))
/-- Two maps on one pool, and their models, in one state. -/
structure M2 (W w : World) (bp bf bm ba br bl0 bl1 bx0 bx1 n : Nat) (s : Pl) (m0 m1 : Mp) : Prop where
  pool : PoolAt w bp bf s
  ref : RefAt w bm s
  lv0 : LvAt w bl0 bp m0
  lv1 : LvAt w bl1 bp m1
  rm0 : RMap w bx0 bm m0
  rm1 : RMap w bx1 bm m1
  a0 : w.cell? ⟨ba, 0, none⟩ = some (.pointer (some ⟨bl0, 0, none⟩))
  a1 : w.cell? ⟨ba, 1, none⟩ = some (.pointer (some ⟨bl1, 0, none⟩))
  r0 : w.cell? ⟨br, 0, none⟩ = some (.pointer (some ⟨bx0, 0, none⟩))
  r1 : w.cell? ⟨br, 1, none⟩ = some (.pointer (some ⟨bx1, 0, none⟩))
  fza : ∀ o, w.frozen? ⟨ba, o, none⟩ = false
  inv : Inv s m0 m1
  sn : s.n = n
  upd : Upd (fun _ => False) W w
  dis : Dis bp bf bm ba br bl0 bl1 bx0 bx1
  ge : W.heap.size ≤ bp ∧ W.heap.size ≤ bf ∧ W.heap.size ≤ bm ∧ W.heap.size ≤ ba ∧ W.heap.size ≤ bl0 ∧ W.heap.size ≤ bl1 ∧ W.heap.size ≤ bx0 ∧ W.heap.size ≤ bx1
theorem M2.apart0 {W w : World} {bp bf bm ba br bl0 bl1 bx0 bx1 n : Nat} {s : Pl} {m0 m1 : Mp} (h : M2 W w bp bf bm ba br bl0 bl1 bx0 bx1 n s m0 m1) : Apart bp bf bm bl0 bx0 := by
  have d := h.dis
  unfold Dis at d
  unfold Apart
  omega
theorem M2.apart1 {W w : World} {bp bf bm ba br bl0 bl1 bx0 bx1 n : Nat} {s : Pl} {m0 m1 : Mp} (h : M2 W w bp bf bm ba br bl0 bl1 bx0 bx1 n s m0 m1) : Apart bp bf bm bl1 bx1 := by
  have d := h.dis
  unfold Dis at d
  unfold Apart
  omega
theorem frozen_blk {S : Nat → Prop} {w w' : World} {b : Nat} {v : Value} (u : Upd S w w') (hb : ¬ S b) (hv : w.cell? ⟨b, 0, none⟩ = some v) (h : ∀ o, w.frozen? ⟨b, o, none⟩ = false) : ∀ o, w'.frozen? ⟨b, o, none⟩ = false := fun o => by
  rw [World.frozen?_of_block (w := w) (u.block b (World.block_lt_of_cell? w _ hv) hb)]; exact h o
theorem M2.keep {W w w' : World} {bp bf bm ba br bl0 bl1 bx0 bx1 n : Nat} {s : Pl} {m0 m1 : Mp} (h : M2 W w bp bf bm ba br bl0 bl1 bx0 bx1 n s m0 m1) (hn : 0 < n) (u : Upd (fun _ => False) w w') : M2 W w' bp bf bm ba br bl0 bl1 bx0 bx1 n s m0 m1 :=
  { h with pool := h.pool.upd u (fun f => f) (fun f => f) (h.pool.lt (by rw [h.sn]; exact hn)), ref := h.ref.upd u (fun f => f), lv0 := h.lv0.upd u (fun f => f), lv1 := h.lv1.upd u (fun f => f), rm0 := h.rm0.upd u (fun f => f), rm1 := h.rm1.upd u (fun f => f), a0 := u.cell h.a0 (fun f => f), a1 := u.cell h.a1 (fun f => f), r0 := u.cell h.r0 (fun f => f), r1 := u.cell h.r1 (fun f => f), fza := frozen_blk u (fun f => f) h.a0 h.fza, upd := h.upd.trans u (fun _ _ f => f) }
/-- An act of the first map. -/
theorem M2.act0 {W w w' : World} {bp bf bm ba br bl0 bl1 bx0 bx1 n : Nat} {s s2 : Pl} {m0 m1 m2 : Mp} (h : M2 W w bp bf bm ba br bl0 bl1 bx0 bx1 n s m0 m1) (hI : MI w' bp bf bm bl0 bx0 s2 m2) (hi : Inv s2 m2 m1) (hs : s2.n = s.n) (u : Upd (Foot bf bm bl0 bx0) w w') :
    M2 W w' bp bf bm ba br bl0 bl1 bx0 bx1 n s2 m2 m1 := by
  have d := h.dis
  unfold Dis at d
  have n1 : ¬ Foot bf bm bl0 bx0 bl1 := by unfold Foot; omega
  have n2 : ¬ Foot bf bm bl0 bx0 bx1 := by unfold Foot; omega
  have n3 : ¬ Foot bf bm bl0 bx0 ba := by unfold Foot; omega
  have n4 : ¬ Foot bf bm bl0 bx0 br := by unfold Foot; omega
  exact { h with pool := hI.pool, ref := hI.ref, lv0 := hI.lv, rm0 := hI.rm, lv1 := h.lv1.upd u n1, rm1 := h.rm1.upd u n2, a0 := u.cell h.a0 n3, a1 := u.cell h.a1 n3, r0 := u.cell h.r0 n4, r1 := u.cell h.r1 n4, fza := frozen_blk u n3 h.a0 h.fza, inv := hi, sn := (by rw [hs]; exact h.sn), upd := h.upd.trans u (fun k hk e => by have := h.ge; unfold Foot at e; omega) }
theorem M2.act1 {W w w' : World} {bp bf bm ba br bl0 bl1 bx0 bx1 n : Nat} {s s2 : Pl} {m0 m1 m2 : Mp} (h : M2 W w bp bf bm ba br bl0 bl1 bx0 bx1 n s m0 m1) (hI : MI w' bp bf bm bl1 bx1 s2 m2) (hi : Inv s2 m2 m0) (hs : s2.n = s.n) (u : Upd (Foot bf bm bl1 bx1) w w') :
    M2 W w' bp bf bm ba br bl0 bl1 bx0 bx1 n s2 m0 m2 := by
  have d := h.dis
  unfold Dis at d
  have n1 : ¬ Foot bf bm bl1 bx1 bl0 := by unfold Foot; omega
  have n2 : ¬ Foot bf bm bl1 bx1 bx0 := by unfold Foot; omega
  have n3 : ¬ Foot bf bm bl1 bx1 ba := by unfold Foot; omega
  have n4 : ¬ Foot bf bm bl1 bx1 br := by unfold Foot; omega
  exact { h with pool := hI.pool, ref := hI.ref, lv1 := hI.lv, rm1 := hI.rm, lv0 := h.lv0.upd u n1, rm0 := h.rm0.upd u n2, a0 := u.cell h.a0 n3, a1 := u.cell h.a1 n3, r0 := u.cell h.r0 n4, r1 := u.cell h.r1 n4, fza := frozen_blk u n3 h.a0 h.fza, inv := hi.swap, sn := (by rw [hs]; exact h.sn), upd := h.upd.trans u (fun k hk e => by have := h.ge; unfold Foot at e; omega) }
/-- The blocks lie below the heap's end. -/
theorem M2.lts {W w : World} {bp bf bm ba br bl0 bl1 bx0 bx1 n : Nat} {s : Pl} {m0 m1 : Mp} (h : M2 W w bp bf bm ba br bl0 bl1 bx0 bx1 n s m0 m1) (hn : 0 < n) :
    bp < w.heap.size ∧ bf < w.heap.size ∧ bm < w.heap.size ∧ ba < w.heap.size ∧ br < w.heap.size ∧ bl0 < w.heap.size ∧ bl1 < w.heap.size ∧ bx0 < w.heap.size ∧ bx1 < w.heap.size :=
  ⟨h.pool.ltp, h.pool.lt (by rw [h.sn]; exact hn), World.block_lt_of_cell? _ _ h.ref.num, World.block_lt_of_cell? _ _ h.a0, World.block_lt_of_cell? _ _ h.r0, h.lv0.lt, h.lv1.lt, h.rm0.lt, h.rm1.lt⟩
/-- Copies go on: the array of maps is written. -/
theorem M2.moved {W w w1 w2 : World} {bp bf bm ba br bl0 bl1 bx0 bx1 n cp cf c0 c1 : Nat} {s : Pl} {m0 m1 : Mp} (h : M2 W w bp bf bm ba br bl0 bl1 bx0 bx1 n s m0 m1) (hn : 0 < n) (u1 : Upd (fun _ => False) w w1) (u2 : Upd (fun k => k = bf ∨ k = bl0 ∨ k = bl1) w1 w2)
    (hp : PoolAt w1 cp cf s) (h0 : LvAt w1 c0 cp m0) (h1 : LvAt w1 c1 cp m1) (g : w.heap.size ≤ cp ∧ w.heap.size ≤ cf ∧ w.heap.size ≤ c0 ∧ w.heap.size ≤ c1) (dn : cp < c0 ∧ cf < c0 ∧ c0 < c1) (lf : cf < w1.heap.size) :
    M2 W ((w2.setCell ⟨ba, 0, none⟩ (.pointer (some ⟨c0, 0, none⟩))).setCell ⟨ba, 1, none⟩ (.pointer (some ⟨c1, 0, none⟩))) cp cf bm ba br c0 c1 bx0 bx1 n s m0 m1 := by
  have l := h.lts hn
  have hg := h.ge
  have hd := h.dis
  unfold Dis at hd
  have sz := h.upd.size
  have ne := hp.ne
  have uu : Upd (fun k => k = bf ∨ k = bl0 ∨ k = bl1 ∨ k = ba) w1 ((w2.setCell ⟨ba, 0, none⟩ (.pointer (some ⟨c0, 0, none⟩))).setCell ⟨ba, 1, none⟩ (.pointer (some ⟨c1, 0, none⟩))) :=
    ((u2.wide (fun _ e => by omega)).trans (Upd.one _ ba 0 _) (fun _ _ e => by omega)).trans (Upd.one _ ba 1 _) (fun _ _ e => by omega)
  have nb : ¬ (ba = bf ∨ ba = bl0 ∨ ba = bl1) := by omega
  have nr : ¬ (br = bf ∨ br = bl0 ∨ br = bl1 ∨ br = ba) := by omega
  have ka0 := u2.cell (u1.cell h.a0 (fun f => f)) nb
  have ka1 := u2.cell (u1.cell h.a1 (fun f => f)) nb
  have kf := frozen_blk u2 nb (u1.cell h.a0 (fun f => f)) (frozen_blk u1 (fun f => f) h.a0 h.fza)
  refine { pool := hp.upd uu (by omega) (by omega) lf, ref := (h.ref.upd u1 (fun f => f)).upd uu (by omega), lv0 := h0.upd uu (by omega), lv1 := h1.upd uu (by omega), rm0 := (h.rm0.upd u1 (fun f => f)).upd uu (by omega), rm1 := (h.rm1.upd u1 (fun f => f)).upd uu (by omega), a0 := ?_, a1 := ?_, r0 := uu.cell (u1.cell h.r0 (fun f => f)) nr, r1 := uu.cell (u1.cell h.r1 (fun f => f)) nr, fza := fun o => by simp only [World.frozen?_setCell]; exact kf o, inv := h.inv, sn := h.sn, upd := (h.upd.trans u1 (fun _ _ f => f)).trans uu (fun k hk e => by omega), dis := ?_, ge := ?_ }
  · rw [World.cell?_setCell_other _ _ _ _ (addr_ne (Or.inr (by omega)))]; exact World.cell?_setCell_same _ _ _ ka0
  · exact World.cell?_setCell_same _ _ _ (by rw [World.cell?_setCell_other _ _ _ _ (addr_ne (Or.inr (by omega)))]; exact ka1)
  · unfold Dis; omega
  · omega
end Go.Proofs.Ytfdppnnechdpeaa
