/- What holds in each round of undercroftlaw.PoolSays. -/
import Derived.Test.YtehdddmpjimfhaaBuild
import Derived.Test.YtehdddmpjimfhaaTopA
namespace Go.Proofs.Ytehdddmpjimfhaa
open Go.ChangeShapes Go.WideShapes Go.ChangeAt Go.RowKit
set_option maxRecDepth 100000

theorem PoolAt.drew {w : World} {bp bf : Nat} {s : Pl} (h : PoolAt w bp bf s) : PoolAt w.drew bp bf s := ⟨h.hd, h.refs, h.byt, h.fz, h.ne, h.le, h.nn⟩
theorem RefAt.drew {w : World} {bm : Nat} {s : Pl} (h : RefAt w bm s) : RefAt w.drew bm s := ⟨h.num, h.byt, h.refs, h.fz, h.le, h.nn⟩
theorem PoolAt.lt {w : World} {bp bf : Nat} {s : Pl} (h : PoolAt w bp bf s) (hn : 0 < s.n) : bf < w.heap.size := World.block_lt_of_cell? w _ (h.refs 0 hn)
theorem PoolAt.ltp {w : World} {bp bf : Nat} {s : Pl} (h : PoolAt w bp bf s) : bp < w.heap.size := by
  obtain ⟨cap, hc⟩ := h.hd
  exact World.block_lt_of_cell? w _ hc

/-- The pool and its model have one state. -/
structure PI (W w : World) (bp bf bm n B : Nat) (s : Pl) : Prop where
  pool : PoolAt w bp bf s
  ref : RefAt w bm s
  sn : s.n = n
  bd : ∀ f, f < n → s.refs f ≤ 1 + B
  upd : Upd (fun _ => False) W w
  gp : W.heap.size ≤ bp
  gf : W.heap.size ≤ bf
  gm : W.heap.size ≤ bm
  mp : bm ≠ bp
  mf : bm ≠ bf
theorem PI.keep {W w w' : World} {bp bf bm n B : Nat} {s : Pl} (h : PI W w bp bf bm n B s) (hn : 0 < n) (u : Upd (fun _ => False) w w') : PI W w' bp bf bm n B s :=
  { h with pool := h.pool.upd u (fun f => f) (fun f => f) (h.pool.lt (by rw [h.sn]; exact hn)), ref := h.ref.upd u (fun f => f), upd := h.upd.trans u (fun _ _ f => f) }
theorem PI.more {W w : World} {bp bf bm n B B' : Nat} {s : Pl} (h : PI W w bp bf bm n B s) (hb : B ≤ B') : PI W w bp bf bm n B' s := { h with bd := fun f hf => by have := h.bd f hf; omega }
/-- Both have turned, one behind the other. -/
theorem PI.both {W w w1 w2 : World} {bp bf bm n B B' : Nat} {s s' : Pl} (h : PI W w bp bf bm n B s) (u1 : Upd (fun k => k = bf) w w1) (u2 : Upd (fun k => k = bm) w1 w2)
    (hp : PoolAt w2 bp bf s') (hr : RefAt w2 bm s') (hn : s'.n = n) (hb : ∀ f, f < n → s'.refs f ≤ 1 + B') : PI W w2 bp bf bm n B' s' :=
  { h with pool := hp, ref := hr, sn := hn, bd := hb, upd := (h.upd.trans u1 (fun i hi e => by have := h.gf; omega)).trans u2 (fun i hi e => by have := h.gm; omega) }

theorem PI.drew {W w : World} {bp bf bm n B : Nat} {s : Pl} (h : PI W w bp bf bm n B s) : PI W w.drew bp bf bm n B s :=
  { h with pool := h.pool.drew, ref := h.ref.drew, upd := h.upd.drew }
theorem PI.drewN {W w : World} {bp bf bm n B : Nat} {s : Pl} (h : PI W w bp bf bm n B s) (m : Nat) : PI W (w.drewN m) bp bf bm n B s :=
  { h with pool := h.pool.drewN m, ref := h.ref.drewN m, upd := h.upd.drewN m }
/-- Both calls of one act, the pool's and then the model's. -/
theorem PI.two {W w w1 w2 : World} {bp bf bm n B B' : Nat} {s s' : Pl} (h : PI W w bp bf bm n B s) (hn : 0 < n) (hp : PoolAt w1 bp bf s') (u1 : Upd (fun k => k = bf) w w1) (hr : RefAt w2 bm s') (u2 : Upd (fun k => k = bm) w1 w2)
    (hs : s'.n = n) (hb : ∀ f, f < n → s'.refs f ≤ 1 + B') : PI W w2 bp bf bm n B' s' :=
  h.both u1 u2 (hp.upd u2 (Ne.symm h.mp) (Ne.symm h.mf) (hp.lt (by rw [hs]; exact hn))) hr hs hb
/-- A copy goes on; what the old one does is not seen. -/
theorem PI.moved {W w w1 w2 : World} {bp bf bm n B cp cf : Nat} {s : Pl} (h : PI W w bp bf bm n B s) (hn : 0 < n) (hp : PoolAt w1 cp cf s) (u1 : Upd (fun _ => False) w w1) (gp : w.heap.size ≤ cp) (gf : w.heap.size ≤ cf) (lf : cf < w1.heap.size)
    (u2 : Upd (fun k => k = bf) w1 w2) : PI W w2 cp cf bm n (B + 1) s := by
  have hf : bf < w.heap.size := h.pool.lt (by rw [h.sn]; exact hn)
  have hm : bm < w.heap.size := World.block_lt_of_cell? _ _ h.ref.num
  have hz := h.upd.size
  refine ⟨hp.upd u2 (by omega) (by omega) lf, (h.ref.upd u1 (fun f => f)).upd u2 h.mf, h.sn, fun f hk => by have := h.bd f hk; omega, (h.upd.trans u1 (fun _ _ f => f)).trans u2 (fun i hi e => by have := h.gf; omega), by omega, by omega, h.gm, by omega, by omega⟩
theorem share_n (s : Pl) (f d : Int) : (s.share f d).2.n = s.n := by unfold Pl.share; split <;> rfl
theorem set_n (s : Pl) (f i v : Int) : (s.set f i v).2.n = s.n := by
  unfold Pl.set
  split
  · rfl
  · split
    · split <;> rfl
    · rfl
theorem fill_n (s : Pl) (f g : Int) : (s.fill f g).2.n = s.n := by
  unfold Pl.fill
  split
  · split <;> rfl
  · rfl
theorem take_n (s : Pl) : s.take.2.2.n = s.n := by unfold Pl.take; split <;> rfl
theorem setAt_le {refs : Nat → Int} {j : Nat} {v : Int} {n : Nat} {B : Int} (h : ∀ f, f < n → refs f ≤ B) (hv : v ≤ B) : ∀ f, f < n → setAt refs j v f ≤ B := by
  intro f hf
  by_cases e : f = j
  · subst e; simpa [setAt] using hv
  · simpa [setAt, e] using h f hf
theorem share_bd {s : Pl} {f d : Int} {n B : Nat} (hn : s.n = n) (h : ∀ f, f < n → s.refs f ≤ 1 + B) (hd : d ≤ 1) : ∀ k, k < n → (s.share f d).2.refs k ≤ 1 + ((B + 1 : Nat) : Int) := by
  unfold Pl.share
  split
  · rename_i hu
    obtain ⟨h0, h1, _⟩ := (s.used_iff f).1 hu
    exact setAt_le (fun k hk => by have := h k hk; omega) (by have := h f.toNat (by omega); omega)
  · intro k hk; have := h k hk; simp only; omega
theorem set_bd {s : Pl} {f i v : Int} {n B : Nat} (h : ∀ f, f < n → s.refs f ≤ 1 + B) : ∀ k, k < n → (s.set f i v).2.refs k ≤ 1 + ((B + 1 : Nat) : Int) := by
  have e : (s.set f i v).2.refs = s.refs := by
    unfold Pl.set
    split
    · rfl
    · split
      · split <;> rfl
      · rfl
  intro k hk
  rw [e]; have := h k hk; omega
theorem fill_bd {s : Pl} {f g : Int} {n B : Nat} (h : ∀ f, f < n → s.refs f ≤ 1 + B) : ∀ k, k < n → (s.fill f g).2.refs k ≤ 1 + ((B + 1 : Nat) : Int) := by
  have e : (s.fill f g).2.refs = s.refs := by
    unfold Pl.fill
    split
    · split <;> rfl
    · rfl
  intro k hk
  rw [e]; have := h k hk; omega
theorem take_bd {s : Pl} {n B : Nat} (h : ∀ f, f < n → s.refs f ≤ 1 + B) : ∀ k, k < n → s.take.2.2.refs k ≤ 1 + ((B + 1 : Nat) : Int) := by
  unfold Pl.take
  split
  · exact setAt_le (fun k hk => by have := h k hk; omega) (by omega)
  · intro k hk; have := h k hk; simp only; omega
theorem share_code (s : Pl) (f d : Int) : 0 ≤ (s.share f d).1 := by unfold Pl.share; split <;> simp
theorem set_code (s : Pl) (f i v : Int) : 0 ≤ (s.set f i v).1 := by
  unfold Pl.set
  split
  · simp
  · split
    · split <;> simp
    · simp
theorem fill_code (s : Pl) (f g : Int) : 0 ≤ (s.fill f g).1 := by
  unfold Pl.fill
  split
  · split <;> simp
  · simp
theorem take_code (s : Pl) : 0 ≤ s.take.2.1 := by unfold Pl.take; split <;> simp
end Go.Proofs.Ytehdddmpjimfhaa
