/- What holds in each round of undercrofttop.TopMap, and how it sets its maps up. -/
import Derived.Test.YtfdppnnechdpeaaTmC
namespace Go.Proofs.Ytfdppnnechdpeaa
open Go.ChangeShapes Go.WideShapes Go.ChangeAt Go.RowKit
set_option maxRecDepth 100000
attribute [local go_sem ↓] Go.wp_at_zero Go.wp_at_succ

/-- A map whose first k pages are plugged. -/
def mpk (k : Nat) : Mp := ⟨fun i => if i < k then 1 else 0, fun _ => lf0⟩
theorem mpk_zero : mpk 0 = mp0 := by
  unfold mpk mp0
  simp
theorem mpk_inv (n i j : Nat) : Inv (pl0 n) (mpk i) (mpk j) where
  pa := fun k _ => ⟨by unfold mpk; simp only; split <;> omega, fun _ => rfl⟩
  pb := fun k _ => ⟨by unfold mpk; simp only; split <;> omega, fun _ => rfl⟩
  cnt := fun f hf => (Inv.start n).cnt f hf
  ina := fun k _ ht => by simp [mpk, lf0] at ht
  inb := fun k _ ht => by simp [mpk, lf0] at ht
theorem mpk_turn (n i : Nat) (hi : i < 16) : plugR (pl0 n) (mpk i) i = (0, pl0 n, mpk (i + 1)) := by
  have ho : onB (i : Int) = true := (onB_iff _).2 ⟨by omega, by omega⟩
  have e : turnM (mpk i) i 1 = mpk (i + 1) := by
    unfold turnM mpk
    simp only [lf0, Bool.false_and, Bool.false_eq_true, if_false, Mp.mk.injEq, and_true]
    funext k
    unfold setAt
    by_cases e : k = i
    · subst e; simp
    · simp only [e, if_false]
      by_cases g : k < i
      · rw [if_pos g, if_pos (by omega)]
      · rw [if_neg g, if_neg (by omega)]
  unfold plugR
  simp only [ho, if_true, Int.toNat_natCast]
  rw [if_pos (by simp [mpk]), e]
  simp [turnP, mpk, lf0]
theorem lvPlug_at (w : World) (bl bp bf n i j : Nat) (h : LvAt w bl bp (mpk i)) (hp : PoolAt w bp bf (pl0 n)) (h1 : bl ≠ bp) (h2 : bl ≠ bf) (hn : 0 < n) (hi : i < 16) :
    Calls Try.prog 35 #[.pointer (some ⟨bl, 0, none⟩), .int .i64 i] w fun e w' => e = .returned .nilIface ∧ PoolAt w' bp bf (pl0 n) ∧ LvAt w' bl bp (mpk (i + 1)) ∧ Upd (fun k => k = bf ∨ k = bl) w w' := by
  have := lvPlug w bl bp bf i (mpk i) (mpk j) (pl0 n) h hp h1 h2 hn (mpk_inv n i j)
  rw [mpk_turn n i hi] at this
  simpa only [errV_zero] using this
theorem mpk_r (n : Nat) : RInv (pl0 n) (both (mpk 16) (mpk 16)) fun _ _ => 0 where
  one := fun k _ ht => by
    have e : both (mpk 16) (mpk 16) k = lf0 := by unfold both mpk; simp
    rw [e] at ht; simp [lf0] at ht
  out := fun _ _ _ _ _ => rfl
  byt := fun k _ ht => by
    have e : both (mpk 16) (mpk 16) k = lf0 := by unfold both mpk; simp
    rw [e] at ht; simp [lf0] at ht

/-- What holds in each round. -/
structure T2 (W w : World) (bl0 bl1 qb n : Nat) (s : Pl) (a b : Mp) (t : Nat → Nat → Int) : Prop where
  two : Two w (W.heap.size + 1) W.heap.size bl0 bl1 s a b t
  m0 : w.cell? ⟨W.heap.size + 2, 0, none⟩ = some (.pointer (some ⟨bl0, 0, none⟩))
  m1 : w.cell? ⟨W.heap.size + 2, 1, none⟩ = some (.pointer (some ⟨bl1, 0, none⟩))
  row : ∀ p i, p < 32 → i < 16 → w.cell? ⟨qb, p * 16 + i, none⟩ = some (.int .u8 (t p i))
  fz : ∀ o, w.frozen? ⟨qb, o, none⟩ = false
  sn : s.n = n
  upd : Upd (fun _ => False) W w
  ne : W.heap.size + 2 < bl0 ∧ bl0 < bl1 ∧ bl1 < qb
theorem frozen_any {S : Nat → Prop} {w w' : World} {b o : Nat} {v : Value} (u : Upd S w w') (hb : ¬ S b) (hv : w.cell? ⟨b, o, none⟩ = some v) (h : ∀ o, w.frozen? ⟨b, o, none⟩ = false) : ∀ o, w'.frozen? ⟨b, o, none⟩ = false := fun o => by
  rw [World.frozen?_of_block (w := w) (u.block b (World.block_lt_of_cell? w _ hv) hb)]; exact h o
theorem T2.ap {W w : World} {bl0 bl1 qb n : Nat} {s : Pl} {a b : Mp} {t : Nat → Nat → Int} (h : T2 W w bl0 bl1 qb n s a b t) : Ap (W.heap.size + 1) W.heap.size bl0 bl1 := by
  have := h.ne
  unfold Ap
  omega
theorem T2.keep {W w w' : World} {bl0 bl1 qb n : Nat} {s : Pl} {a b : Mp} {t : Nat → Nat → Int} (h : T2 W w bl0 bl1 qb n s a b t) (hn : 0 < n) (u : Upd (fun _ => False) w w') : T2 W w' bl0 bl1 qb n s a b t :=
  { two := h.two.keep (by rw [h.sn]; exact hn) u, m0 := u.cell h.m0 (fun f => f), m1 := u.cell h.m1 (fun f => f), row := fun p i hp hi => u.cell (h.row p i hp hi) (fun f => f), fz := frozen_any u (fun f => f) (h.row 0 0 (by omega) (by omega)) h.fz, sn := h.sn, upd := h.upd.trans u (fun _ _ f => f), ne := h.ne }
/-- An act of the maps. -/
theorem T2.act {W w w' : World} {bl0 bl1 qb n : Nat} {s s' : Pl} {a b a' b' : Mp} {t : Nat → Nat → Int} (h : T2 W w bl0 bl1 qb n s a b t) (h2 : Two w' (W.heap.size + 1) W.heap.size bl0 bl1 s' a' b' t) (hs : s'.n = s.n) (u : Upd (fun x => x = W.heap.size ∨ x = bl0 ∨ x = bl1) w w') : T2 W w' bl0 bl1 qb n s' a' b' t := by
  have ne := h.ne
  have n1 : ¬ (W.heap.size + 2 = W.heap.size ∨ W.heap.size + 2 = bl0 ∨ W.heap.size + 2 = bl1) := by omega
  have n2 : ¬ (qb = W.heap.size ∨ qb = bl0 ∨ qb = bl1) := by omega
  exact { two := h2, m0 := u.cell h.m0 n1, m1 := u.cell h.m1 n1, row := fun p i hp hi => u.cell (h.row p i hp hi) n2, fz := frozen_any u (by omega) (h.row 0 0 (by omega) (by omega)) h.fz, sn := hs.trans h.sn, upd := h.upd.trans u (fun i hi e => by omega), ne := ne }
/-- Ahead of the maps: the pool, and the array for them. -/
structure Sa (W w : World) (n : Nat) : Prop where
  pool : PoolAt w (W.heap.size + 1) W.heap.size (pl0 n)
  a0 : ∃ v, w.cell? ⟨W.heap.size + 2, 0, none⟩ = some v
  a1 : ∃ v, w.cell? ⟨W.heap.size + 2, 1, none⟩ = some v
  fz : ∀ o, w.frozen? ⟨W.heap.size + 2, o, none⟩ = false
  upd : Upd (fun _ => False) W w
  sz : W.heap.size + 3 ≤ w.heap.size
theorem Sa.start {W w : World} {n : Nat} (hp : PoolAt w (W.heap.size + 1) W.heap.size (pl0 n)) (hu : Upd (fun _ => False) W w) (hz : w.heap.size = W.heap.size + 2) : Sa W (w.alloc (.cells #[.pointer none, .pointer none] 64)) n where
  pool := hp.upd ((Upd.refl (fun _ => False) w).alloc _) (fun f => f) (fun f => f) (by omega)
  a0 := ⟨.pointer none, by have := World.cell?_alloc_new w #[.pointer none, .pointer none] 64 0; rw [hz] at this; rw [this]; rfl⟩
  a1 := ⟨.pointer none, by have := World.cell?_alloc_new w #[.pointer none, .pointer none] 64 1; rw [hz] at this; rw [this]; rfl⟩
  fz := fun o => by have := World.frozen?_alloc_new w #[.pointer none, .pointer none] 64 o; rw [hz] at this; exact this
  upd := hu.alloc _
  sz := by simp [hz]
def zeroT : Array Value := Array.replicate 512 (.int .u8 0)
theorem zero78 (w : World) : (zeroValue 78).run Try.prog w = .ok (.agg zeroT) w := by kernel_rfl
theorem zeroT_get (i : Nat) (h : i < 512) : zeroT[i]? = some (.int .u8 0) := by simp [zeroT, h]
/-- Behind the maps: the first round's state. -/
theorem T2.start {W w : World} {bl0 bl1 n : Nat} (hn : 0 < n) (hp : PoolAt w (W.heap.size + 1) W.heap.size (pl0 n)) (h0 : LvAt w bl0 (W.heap.size + 1) (mpk 16)) (h1 : LvAt w bl1 (W.heap.size + 1) (mpk 16)) (c0 : w.cell? ⟨W.heap.size + 2, 0, none⟩ = some (.pointer (some ⟨bl0, 0, none⟩))) (c1 : w.cell? ⟨W.heap.size + 2, 1, none⟩ = some (.pointer (some ⟨bl1, 0, none⟩)))
    (hu : Upd (fun _ => False) W w) (g : W.heap.size + 2 < bl0 ∧ bl0 < bl1) : T2 W (w.alloc (.cells zeroT 78)) bl0 bl1 w.heap.size n (pl0 n) (mpk 16) (mpk 16) (fun _ _ => 0) := by
  have u := (Upd.refl (fun _ => False) w).alloc (.cells zeroT 78)
  have l1 := h1.lt
  exact { two := ⟨hp.upd u (fun f => f) (fun f => f) (World.block_lt_of_cell? w _ (hp.refs 0 hn)), h0.upd u (fun f => f), h1.upd u (fun f => f), mpk_inv n 16 16, fun k hk => by simp [mpk, hk], fun k hk => by simp [mpk, hk], mpk_r n⟩,
          m0 := u.cell c0 (fun f => f), m1 := u.cell c1 (fun f => f), row := fun p i hp hi => by rw [World.cell?_alloc_new, zeroT_get _ (by omega)], fz := fun o => World.frozen?_alloc_new _ _ _ _, sn := rfl, upd := hu.alloc _, ne := by omega }
end Go.Proofs.Ytfdppnnechdpeaa
