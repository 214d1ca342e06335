/- The walk of undercrofttop.TopPool. -/
import Derived.Test.YtehdddmpjimfhaaFramesD
import Derived.Deep.DeepCutAuto
import Derived.Deep.LoopGhost
import Derived.Deep.CutBlock
namespace Go.Proofs.Ytehdddmpjimfhaa
open Go.ChangeShapes Go.WideShapes Go.ChangeAt Go.RowKit
set_option maxRecDepth 100000

theorem light_yes (w : World) (a : Option Addr) (len cap : Nat) (h : len ≤ 80) :
    Calls Try.prog 10 #[.slice a len cap, .int .i64 80] w fun e w' => e = .returned (.bool true) ∧ w' = w := by
  have hd : decide ((len : Int) ≤ 80) = true := by simp; omega
  go_enter Try.func10, Try.ntmps10
  go_wp2
  go_ret
  exact ⟨rfl, rfl⟩
theorem light_no (w : World) (a : Option Addr) (len cap : Nat) (h : 80 < len) :
    Calls Try.prog 10 #[.slice a len cap, .int .i64 80] w fun e w' => e = .returned (.bool false) ∧ w' = w := by
  have hd : decide ((len : Int) ≤ 80) = false := by simp; omega
  go_enter Try.func10, Try.ntmps10
  go_wp2
  go_ret
  exact ⟨rfl, rfl⟩

def zeroB : Array Value := Array.replicate 1024 (.int .u8 0)
def zeroR : Array Value := Array.replicate 64 (.int .i64 0)
theorem zero33 (w : World) : (zeroValue 33).run Try.prog w = .ok (.agg zeroB) w := by kernel_rfl
theorem zero34 (w : World) : (zeroValue 34).run Try.prog w = .ok (.agg zeroR) w := by kernel_rfl


/-- An act of a statement's input, and where it lies. -/
structure Ac where
  kind : ByteArray
  n : Int
  a : Int
  b : Int
  v : Int
  on : Bool
structure ActAt (w : World) (b o : Nat) (x : Ac) : Prop where
  c0 : w.cell? ⟨b, o, none⟩ = some (.string x.kind)
  c1 : w.cell? ⟨b, o + 1, none⟩ = some (.int .i64 x.n)
  c2 : w.cell? ⟨b, o + 2, none⟩ = some (.int .i64 x.a)
  c3 : w.cell? ⟨b, o + 3, none⟩ = some (.int .i64 x.b)
  c4 : w.cell? ⟨b, o + 4, none⟩ = some (.int .u8 x.v)
  c5 : w.cell? ⟨b, o + 5, none⟩ = some (.bool x.on)
def ActsAt (w : World) (a : Option Addr) (len : Nat) (acts : Nat → Ac) : Prop := ∀ k, k < len → ∃ b o, a = some ⟨b, o, none⟩ ∧ ActAt w b (o + k * 6) (acts k)
theorem ActAt.upd {S : Nat → Prop} {w w' : World} {b o : Nat} {x : Ac} (h : ActAt w b o x) (u : Upd S w w') (hb : ¬ S b) : ActAt w' b o x :=
  ⟨u.cell h.c0 hb, u.cell h.c1 hb, u.cell h.c2 hb, u.cell h.c3 hb, u.cell h.c4 hb, u.cell h.c5 hb⟩

/-- What holds in each round of TopPool: the pool is s, the law's own arrays say t. -/
structure TopI (W w : World) (n B : Nat) (s t : Pl) : Prop where
  pool : PoolAt w (W.heap.size + 1) W.heap.size s
  sn : s.n = n
  refs : ∀ f, f < n → w.cell? ⟨W.heap.size + 2 + 1, f, none⟩ = some (.int .i64 (t.refs f))
  byt : ∀ f i, f < n → i < 16 → w.cell? ⟨W.heap.size + 2, f * 16 + i, none⟩ = some (.int .u8 (t.byt f i))
  fz7 : ∀ o, w.frozen? ⟨W.heap.size + 2, o, none⟩ = false
  fz8 : ∀ o, w.frozen? ⟨W.heap.size + 2 + 1, o, none⟩ = false
  bd : ∀ f, f < n → s.refs f ≤ 1 + B
  upd : Upd (fun _ => False) W w
  sz : W.heap.size + 4 ≤ w.heap.size

theorem zeroB_get (i : Nat) (h : i < 1024) : zeroB[i]? = some (.int .u8 0) := by simp [zeroB, h]
theorem zeroR_get (i : Nat) (h : i < 64) : zeroR[i]? = some (.int .i64 0) := by simp [zeroR, h]
theorem TopI.start (W w : World) (n : Nat) (hn : n ≤ 64) (hp : PoolAt w (W.heap.size + 1) W.heap.size (pl0 n)) (hu : Upd (fun _ => False) W w) (hz : w.heap.size = W.heap.size + 2) :
    TopI W ((w.alloc (.cells zeroB 33)).alloc (.cells zeroR 34)) n 0 (pl0 n) (pl0 n) where
  pool := hp.upd (((Upd.refl (fun _ => False) w).alloc _).alloc _) (fun f => f) (fun f => f) (by omega)
  sn := rfl
  refs := fun f hf => by
    have := World.cell?_alloc_new (w.alloc (.cells zeroB 33)) zeroR 34 f
    simp only [World.size_alloc, hz] at this
    rw [this, zeroR_get f (by omega)]; rfl
  byt := fun f i hf hi => by
    rw [World.cell?_alloc_old _ _ _ (by simp [hz])]
    have := World.cell?_alloc_new w zeroB 33 (f * 16 + i)
    rw [hz] at this
    rw [this, zeroB_get _ (by omega)]; rfl
  fz7 := fun o => by
    rw [World.frozen?_alloc_old _ _ _ (by simp [hz])]
    have := World.frozen?_alloc_new w zeroB 33 o
    rw [hz] at this
    exact this
  fz8 := fun o => by
    have := World.frozen?_alloc_new (w.alloc (.cells zeroB 33)) zeroR 34 o
    simp only [World.size_alloc, hz] at this
    exact this
  bd := fun f _ => by simp [pl0]
  upd := (hu.alloc _).alloc _
  sz := by simp [hz]

/-- A call on the pool. -/
theorem TopI.call {W w w' : World} {n B B' : Nat} {s s' t : Pl} (h : TopI W w n B s t) (hp : PoolAt w' (W.heap.size + 1) W.heap.size s') (u : Upd (fun k => k = W.heap.size) w w') (hs : s'.n = n) (hb : ∀ f, f < n → s'.refs f ≤ 1 + B') :
    TopI W w' n B' s' t where
  pool := hp
  sn := hs
  refs := fun f hf => u.cell (h.refs f hf) (by show ¬ (W.heap.size + 2 + 1 = W.heap.size); omega)
  byt := fun f i hf hi => u.cell (h.byt f i hf hi) (by show ¬ (W.heap.size + 2 = W.heap.size); omega)
  fz7 := fun o => by rw [World.frozen?_of_block (w := w) (u.block (W.heap.size + 2) (by have := h.sz; omega) (by omega))]; exact h.fz7 o
  fz8 := fun o => by rw [World.frozen?_of_block (w := w) (u.block (W.heap.size + 2 + 1) (by have := h.sz; omega) (by omega))]; exact h.fz8 o
  bd := hb
  upd := h.upd.trans u (fun i hi e => by omega)
  sz := by have := h.sz; have := u.size; omega

/-- What turns nothing that was there. -/
theorem TopI.keep {W w w' : World} {n B : Nat} {s t : Pl} (h : TopI W w n B s t) (u : Upd (fun _ => False) w w') : TopI W w' n B s t :=
  h.call (h.pool.upd u (fun f => f) (fun f => f) (by have := h.sz; omega)) ⟨u.os, u.tape, u.output, u.size, fun k hk _ => u.block k hk (fun f => f)⟩ h.sn h.bd

theorem TopI.more {W w : World} {n B B' : Nat} {s t : Pl} (h : TopI W w n B s t) (hb : B ≤ B') : TopI W w n B' s t := { h with bd := fun f hf => by have := h.bd f hf; omega }

/-- A store into the law's own arrays. -/
theorem TopI.own {W w w' : World} {n B : Nat} {s t t' : Pl} (h : TopI W w n B s t) (u : Upd (fun k => k = W.heap.size + 2 ∨ k = W.heap.size + 2 + 1) w w')
    (hr : ∀ f, f < n → w'.cell? ⟨W.heap.size + 2 + 1, f, none⟩ = some (.int .i64 (t'.refs f))) (hb : ∀ f i, f < n → i < 16 → w'.cell? ⟨W.heap.size + 2, f * 16 + i, none⟩ = some (.int .u8 (t'.byt f i)))
    (hf : ∀ a, w'.frozen? a = w.frozen? a) : TopI W w' n B s t' where
  pool := h.pool.upd u (by omega) (by omega) (by have := h.sz; omega)
  sn := h.sn
  refs := hr
  byt := hb
  fz7 := fun o => by rw [hf]; exact h.fz7 o
  fz8 := fun o => by rw [hf]; exact h.fz8 o
  bd := h.bd
  upd := h.upd.trans u (fun i hi e => by omega)
  sz := by have := h.sz; have := u.size; omega

theorem TopI.setRef {W w : World} {n B : Nat} {s t : Pl} (h : TopI W w n B s t) {f : Nat} (hf : f < n) (v : Int) :
    TopI W (w.setCell ⟨W.heap.size + 2 + 1, f, none⟩ (.int .i64 v)) n B s { t with refs := setAt t.refs f v } := by
  refine h.own (Upd.setCell (Upd.refl _ _) _ (fun _ => Or.inr rfl) _) ?_ ?_ (fun a => by rw [World.frozen?_setCell])
  · intro g hg
    by_cases e : g = f
    · subst e; rw [World.cell?_setCell_same _ _ _ (h.refs g hg)]; simp [setAt]
    · rw [World.cell?_setCell_other _ _ _ _ (addr_ne (Or.inr (Ne.symm e))), h.refs g hg]; simp [setAt, e]
  · intro g i hg hi
    rw [World.cell?_setCell_other _ _ _ _ (addr_ne (Or.inl (by omega)))]; exact h.byt g i hg hi
theorem TopI.setByte {W w : World} {n B : Nat} {s t : Pl} (h : TopI W w n B s t) {f i : Nat} (hf : f < n) (hi : i < 16) (v : Int) :
    TopI W (w.setCell ⟨W.heap.size + 2, f * 16 + i, none⟩ (.int .u8 v)) n B s { t with byt := setAt t.byt f (setAt (t.byt f) i v) } := by
  refine h.own (Upd.setCell (Upd.refl _ _) _ (fun _ => Or.inl rfl) _) ?_ ?_ (fun a => by rw [World.frozen?_setCell])
  · intro g hg
    rw [World.cell?_setCell_other _ _ _ _ (addr_ne (Or.inl (by omega)))]; exact h.refs g hg
  · intro g j hg hj
    by_cases e : g = f
    · subst e
      by_cases e2 : j = i
      · subst e2; rw [World.cell?_setCell_same _ _ _ (h.byt g j hg hj)]; simp [setAt]
      · rw [World.cell?_setCell_other _ _ _ _ (addr_ne (Or.inr (by omega))), h.byt g j hg hj]; simp [setAt, e2]
    · rw [World.cell?_setCell_other _ _ _ _ (addr_ne (Or.inr (by omega))), h.byt g j hg hj]; simp [setAt, e]
theorem TopI.there {W w : World} {n B : Nat} {s t : Pl} (h : TopI W w n B s t) {f : Nat} (hf : f < n) : w.there (W.heap.size + 2) (f * 16) 16 := fun j hj =>
  ⟨by rw [h.byt f j hf hj]; rfl, h.fz7 _⟩
theorem TopI.setRow {W w : World} {n B : Nat} {s t : Pl} (h : TopI W w n B s t) {f : Nat} (hf : f < n) (g : Nat → Int) :
    TopI W (w.setCells (W.heap.size + 2) (f * 16) (rowOf g)) n B s { t with byt := setAt t.byt f g } := by
  refine h.own (Upd.setCells _ (fun _ => Or.inl rfl) _ _ (Upd.refl _ _)) ?_ ?_ (fun a => by rw [World.frozen?_setCells])
  · intro k hk
    rw [World.cell?_setCells_out _ _ _ _ _ (fun e _ => by simp only at e; omega)]; exact h.refs k hk
  · intro k j hk hj
    by_cases e : k = f
    · subst e
      have := World.rangeAt_setCells_same w (W.heap.size + 2) (k * 16) (rowOf g) (by rw [rowOf_length]; exact h.there hf) j _ (rowOf_get g j hj)
      rw [this]; simp [setAt]
    · rw [World.cell?_setCells_out _ _ _ _ _ (fun _ _ => by simp only [rowOf_length]; omega), h.byt k j hk hj]; simp [setAt, e]

/-- The box of an act. -/
structure BoxAt (w : World) (q : Nat) (x : Ac) : Prop where
  c0 : w.cell? ⟨q, 0, none⟩ = some (.string x.kind)
  c1 : w.cell? ⟨q, 1, none⟩ = some (.int .i64 x.n)
  c2 : w.cell? ⟨q, 2, none⟩ = some (.int .i64 x.a)
  c3 : w.cell? ⟨q, 3, none⟩ = some (.int .i64 x.b)
  c4 : w.cell? ⟨q, 4, none⟩ = some (.int .u8 x.v)
  c5 : w.cell? ⟨q, 5, none⟩ = some (.bool x.on)
theorem BoxAt.upd {S : Nat → Prop} {w w' : World} {q : Nat} {x : Ac} (h : BoxAt w q x) (u : Upd S w w') (hb : ¬ S q) : BoxAt w' q x :=
  ⟨u.cell h.c0 hb, u.cell h.c1 hb, u.cell h.c2 hb, u.cell h.c3 hb, u.cell h.c4 hb, u.cell h.c5 hb⟩
theorem BoxAt.new (w : World) (x : Ac) : BoxAt (w.alloc (.cells #[.string x.kind, .int .i64 x.n, .int .i64 x.a, .int .i64 x.b, .int .u8 x.v, .bool x.on] 38)) w.heap.size x :=
  ⟨by rw [World.cell?_alloc_new]; rfl, by rw [World.cell?_alloc_new]; rfl, by rw [World.cell?_alloc_new]; rfl, by rw [World.cell?_alloc_new]; rfl, by rw [World.cell?_alloc_new]; rfl, by rw [World.cell?_alloc_new]; rfl⟩

end Go.Proofs.Ytehdddmpjimfhaa
