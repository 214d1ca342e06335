/- The law's own helpers: same. -/
import Derived.Test.YtadpibcgjgcjhaaPart02
import Derived.Deep.DeepCutAuto
import Derived.Deep.LoopGhost
import Derived.Deep.CutBlock
import Derived.Test.YtadpibcgjgcjhaaPart01
namespace Go.Proofs.Ytadpibcgjgcjhaa
open Go.ChangeShapes Go.WideShapes Go.ChangeAt Go.RowKit
set_option maxRecDepth 100000

theorem assert61 (w : World) (v : Value) : (Instr.typeAssert (.iface 110 v) 27 110 true).run Try.prog w = .ok (.tuple #[v, .bool true]) w := by kernel_rfl
theorem sameE (k : Int) (w : World) (hk : 0 ≤ k) :
    Calls Try.prog 13 #[errV k, .int .i64 k] w fun e w' => e = .returned (.bool true) ∧ w' = w := by
  by_cases h0 : k = 0
  · subst h0
    rw [errV_zero]
    go_enter Try.func13, Try.ntmps13
    go_wp2
    go_ret
    exact ⟨rfl, rfl⟩
  · have e : errV k = .iface 110 (.int .i64 k) := by simp [errV, h0]
    rw [e]
    have h1 : 0 < k := by omega
    have h' : (k == k) = true := by simp
    have h2 := assert61 w (.int .i64 k)
    clear h0 e hk
    go_enter Try.func13, Try.ntmps13
    go_wp2
    go_ret
    exact ⟨rfl, rfl⟩
theorem PoolAt.drewN {w : World} {bp bf : Nat} {s : Pl} (h : PoolAt w bp bf s) (n : Nat) : PoolAt (w.drewN n) bp bf s := ⟨h.hd, h.refs, h.byt, h.fz, h.ne, h.le, h.nn⟩
theorem RefAt.drewN {w : World} {bm : Nat} {s : Pl} (h : RefAt w bm s) (n : Nat) : RefAt (w.drewN n) bm s := ⟨h.num, h.byt, h.refs, h.fz, h.le, h.nn⟩
theorem of_code (s : Pl) (f : Int) : 0 ≤ (s.of f).2.2 := by unfold Pl.of; split <;> simp
theorem sum_code (s : Pl) (f : Int) : 0 ≤ (s.sum f).2 := by unfold Pl.sum; split <;> simp
theorem get_code (s : Pl) (f i : Int) : 0 ≤ (s.get f i).2 := by
  unfold Pl.get
  split
  · simp
  · split <;> simp

theorem take3 (w : World) (bp bf : Nat) (h : PoolAt w bp bf (pl0 3)) :
    Calls Try.prog 14 #[.pointer (some ⟨bp, 0, none⟩)] w fun e w' => e = .returned (.tuple #[.int .i64 0, .nilIface]) ∧ PoolAt w' bp bf { pl0 3 with refs := setAt (pl0 3).refs 0 1, byt := setAt (pl0 3).byt 0 fun _ => 0 } ∧ Upd (fun k => k = bf) w w' := by
  refine (take_at w bp bf 0 (pl0 3) h (by decide) rfl (fun i hi => absurd hi (by omega))).mono ?_
  rintro e w' ⟨rfl, rfl⟩
  refine ⟨rfl, ?_, (Upd.row _ _ _ _).trans (Upd.one _ _ _ _) (fun _ _ e => e)⟩
  exact (h.setRow (f := 0) (by decide) (fun _ => 0)).setRef (f := 0) (by decide) (by omega)
theorem new3 (w : World) : Calls Try.prog 12 #[.int .i64 3] w fun e w' => e = .returned (.tuple #[.pointer (some ⟨w.heap.size + 1, 0, none⟩), .nilIface]) ∧ PoolAt w' (w.heap.size + 1) w.heap.size (pl0 3) ∧ Upd (fun _ => False) w w' ∧ w'.heap.size = w.heap.size + 2 :=
  new_any w 3 (by omega) (by omega)
theorem left2 (w : World) (bp bf : Nat) (h : PoolAt w bp bf { pl0 3 with refs := setAt (pl0 3).refs 0 1, byt := setAt (pl0 3).byt 0 fun _ => 0 }) :
    Calls Try.prog 29 #[.pointer (some ⟨bp, 0, none⟩)] w fun e w' => e = .returned (.int .i64 2) ∧ w' = w := left_any w bp bf _ h
theorem size3 (w : World) (bp bf : Nat) (h : PoolAt w bp bf { pl0 3 with refs := setAt (pl0 3).refs 0 1, byt := setAt (pl0 3).byt 0 fun _ => 0 }) :
    Calls Try.prog 60 #[.pointer (some ⟨bp, 0, none⟩)] w fun e w' => e = .returned (.int .i64 3) ∧ w' = w := size_any w bp bf _ h
theorem same0 (w : World) : Calls Try.prog 13 #[.nilIface, .int .i64 0] w fun e w' => e = .returned (.bool true) ∧ w' = w := by
  have := sameE 0 w (by omega)
  rwa [errV_zero] at this
end Go.Proofs.Ytadpibcgjgcjhaa
/- The law's asPool: a pool has what its model has. -/
namespace Go.Proofs.Ytadpibcgjgcjhaa
open Go.ChangeShapes Go.WideShapes Go.ChangeAt Go.RowKit
set_option maxRecDepth 100000

/-- The box of a frame's description. -/
structure FrAt (w : World) (q : Nat) (c r : Int) : Prop where
  c0 : w.cell? ⟨q, 0, none⟩ = some (.int .i64 c)
  c1 : w.cell? ⟨q, 1, none⟩ = some (.int .i64 r)
theorem FrAt.upd {S : Nat → Prop} {w w' : World} {q : Nat} {c r : Int} (h : FrAt w q c r) (u : Upd S w w') (hq : ¬ S q) : FrAt w' q c r := ⟨u.cell h.c0 hq, u.cell h.c1 hq⟩
theorem FrAt.new (w : World) (c r : Int) : FrAt (w.alloc (.cells #[.int .i64 c, .int .i64 r] 58)) w.heap.size c r := ⟨by rw [World.cell?_alloc_new]; rfl, by rw [World.cell?_alloc_new]; rfl⟩

end Go.Proofs.Ytadpibcgjgcjhaa
/- The model's pool as it is made: a literal of 1,089 cells, by a law. -/
namespace Go.Proofs.Ytadpibcgjgcjhaa
open Go.ChangeShapes Go.WideShapes Go.ChangeAt Go.RowKit
set_option maxRecDepth 100000

def refTail (a b : Nat) : List Value := List.replicate a (.int .u8 0) ++ List.replicate b (.int .i64 0)
theorem refTail_byt (a b i : Nat) (h : i < a) : (refTail a b)[i]? = some (.int .u8 0) := by
  unfold refTail
  rw [List.getElem?_append_left (by rw [List.length_replicate]; exact h), List.getElem?_replicate, if_pos h]
theorem refTail_refs (a b i : Nat) (h : i < b) : (refTail a b)[a + i]? = some (.int .i64 0) := by
  unfold refTail
  rw [List.getElem?_append_right (by rw [List.length_replicate]; omega), List.length_replicate, List.getElem?_replicate, if_pos (by omega)]
def refZero (n : Int) : Array Value := (.int .i64 n :: refTail 1024 64).toArray
theorem zero36 (w : World) : (zeroValue 36).run Try.prog w = .ok (.agg (refZero 0)) w := by kernel_rfl
theorem refZero_ne : ¬ refZero 0 = #[] := by
  unfold refZero
  simp
theorem refZero_set (v : Int) : (refZero 0).setIfInBounds 0 (.int .i64 v) = refZero v := by
  unfold refZero
  simp
theorem refZero_num (n : Int) : (refZero n)[0]? = some (.int .i64 n) := by
  unfold refZero
  simp
theorem refZero_byt (n : Int) (i : Nat) (h : i < 1024) : (refZero n)[1 + i]? = some (.int .u8 0) := by
  unfold refZero
  rw [Nat.add_comm, List.getElem?_toArray, List.getElem?_cons_succ]
  exact refTail_byt 1024 64 i h
theorem refZero_refs (n : Int) (i : Nat) (h : i < 64) : (refZero n)[1025 + i]? = some (.int .i64 0) := by
  unfold refZero
  rw [show 1025 + i = (1024 + i) + 1 by omega, List.getElem?_toArray, List.getElem?_cons_succ]
  exact refTail_refs 1024 64 i h
theorem RefAt.new (w : World) (n : Nat) (hn : n ≤ 64) : RefAt (w.alloc (.cells (refZero n) 36)) w.heap.size (pl0 n) where
  num := by rw [World.cell?_alloc_new, refZero_num]; rfl
  byt := fun f i hf hi => by
    have hf : f < n := hf
    rw [World.cell?_alloc_new, show 1 + f * 16 + i = 1 + (f * 16 + i) by omega, refZero_byt _ _ (by omega)]; rfl
  refs := fun f hf => by
    have hf : f < n := hf
    rw [World.cell?_alloc_new, refZero_refs _ _ (by omega)]; rfl
  fz := fun o => World.frozen?_alloc_new _ _ _ _
  le := hn
  nn := fun f _ => Int.le_refl _
end Go.Proofs.Ytadpibcgjgcjhaa
/- The walk of undercrofttop.TopPool. -/
namespace Go.Proofs.Ytadpibcgjgcjhaa
open Go.ChangeShapes Go.WideShapes Go.ChangeAt Go.RowKit
set_option maxRecDepth 100000

theorem light_yes (w : World) (a : Option Addr) (len cap : Nat) (h : len ≤ 80) :
    Calls Try.prog 11 #[.slice a len cap, .int .i64 80] w fun e w' => e = .returned (.bool true) ∧ w' = w := by
  have hd : decide ((len : Int) ≤ 80) = true := by simp; omega
  go_enter Try.func11, Try.ntmps11
  go_wp2
  go_ret
  exact ⟨rfl, rfl⟩
theorem light_no (w : World) (a : Option Addr) (len cap : Nat) (h : 80 < len) :
    Calls Try.prog 11 #[.slice a len cap, .int .i64 80] w fun e w' => e = .returned (.bool false) ∧ w' = w := by
  have hd : decide ((len : Int) ≤ 80) = false := by simp; omega
  go_enter Try.func11, Try.ntmps11
  go_wp2
  go_ret
  exact ⟨rfl, rfl⟩

def zeroB : Array Value := Array.replicate 1024 (.int .u8 0)
def zeroR : Array Value := Array.replicate 64 (.int .i64 0)
theorem zero33 (w : World) : (zeroValue 33).run Try.prog w = .ok (.agg zeroB) w := by kernel_rfl
theorem zero34 (w : World) : (zeroValue 34).run Try.prog w = .ok (.agg zeroR) w := by kernel_rfl


/-- An act of a statement's input, and where it lies. -/
structure Ac where
  kind : ByteArray
  n : Int
  a : Int
  b : Int
  v : Int
  on : Bool
structure ActAt (w : World) (b o : Nat) (x : Ac) : Prop where
  c0 : w.cell? ⟨b, o, none⟩ = some (.string x.kind)
  c1 : w.cell? ⟨b, o + 1, none⟩ = some (.int .i64 x.n)
  c2 : w.cell? ⟨b, o + 2, none⟩ = some (.int .i64 x.a)
  c3 : w.cell? ⟨b, o + 3, none⟩ = some (.int .i64 x.b)
  c4 : w.cell? ⟨b, o + 4, none⟩ = some (.int .u8 x.v)
  c5 : w.cell? ⟨b, o + 5, none⟩ = some (.bool x.on)
def ActsAt (w : World) (a : Option Addr) (len : Nat) (acts : Nat → Ac) : Prop := ∀ k, k < len → ∃ b o, a = some ⟨b, o, none⟩ ∧ ActAt w b (o + k * 6) (acts k)
theorem ActAt.upd {S : Nat → Prop} {w w' : World} {b o : Nat} {x : Ac} (h : ActAt w b o x) (u : Upd S w w') (hb : ¬ S b) : ActAt w' b o x :=
  ⟨u.cell h.c0 hb, u.cell h.c1 hb, u.cell h.c2 hb, u.cell h.c3 hb, u.cell h.c4 hb, u.cell h.c5 hb⟩

/-- What holds in each round of TopPool: the pool is s, the law's own arrays say t. -/
structure TopI (W w : World) (n B : Nat) (s t : Pl) : Prop where
  pool : PoolAt w (W.heap.size + 1) W.heap.size s
  sn : s.n = n
  refs : ∀ f, f < n → w.cell? ⟨W.heap.size + 2 + 1, f, none⟩ = some (.int .i64 (t.refs f))
  byt : ∀ f i, f < n → i < 16 → w.cell? ⟨W.heap.size + 2, f * 16 + i, none⟩ = some (.int .u8 (t.byt f i))
  fz7 : ∀ o, w.frozen? ⟨W.heap.size + 2, o, none⟩ = false
  fz8 : ∀ o, w.frozen? ⟨W.heap.size + 2 + 1, o, none⟩ = false
  bd : ∀ f, f < n → s.refs f ≤ 1 + B
  upd : Upd (fun _ => False) W w
  sz : W.heap.size + 4 ≤ w.heap.size

theorem zeroB_get (i : Nat) (h : i < 1024) : zeroB[i]? = some (.int .u8 0) := by simp [zeroB, h]
theorem zeroR_get (i : Nat) (h : i < 64) : zeroR[i]? = some (.int .i64 0) := by simp [zeroR, h]
theorem TopI.start (W w : World) (n : Nat) (hn : n ≤ 64) (hp : PoolAt w (W.heap.size + 1) W.heap.size (pl0 n)) (hu : Upd (fun _ => False) W w) (hz : w.heap.size = W.heap.size + 2) :
    TopI W ((w.alloc (.cells zeroB 33)).alloc (.cells zeroR 34)) n 0 (pl0 n) (pl0 n) where
  pool := hp.upd (((Upd.refl (fun _ => False) w).alloc _).alloc _) (fun f => f) (fun f => f) (by omega)
  sn := rfl
  refs := fun f hf => by
    have := World.cell?_alloc_new (w.alloc (.cells zeroB 33)) zeroR 34 f
    simp only [World.size_alloc, hz] at this
    rw [this, zeroR_get f (by omega)]; rfl
  byt := fun f i hf hi => by
    rw [World.cell?_alloc_old _ _ _ (by simp [hz])]
    have := World.cell?_alloc_new w zeroB 33 (f * 16 + i)
    rw [hz] at this
    rw [this, zeroB_get _ (by omega)]; rfl
  fz7 := fun o => by
    rw [World.frozen?_alloc_old _ _ _ (by simp [hz])]
    have := World.frozen?_alloc_new w zeroB 33 o
    rw [hz] at this
    exact this
  fz8 := fun o => by
    have := World.frozen?_alloc_new (w.alloc (.cells zeroB 33)) zeroR 34 o
    simp only [World.size_alloc, hz] at this
    exact this
  bd := fun f _ => by simp [pl0]
  upd := (hu.alloc _).alloc _
  sz := by simp [hz]

/-- A call on the pool. -/
theorem TopI.call {W w w' : World} {n B B' : Nat} {s s' t : Pl} (h : TopI W w n B s t) (hp : PoolAt w' (W.heap.size + 1) W.heap.size s') (u : Upd (fun k => k = W.heap.size) w w') (hs : s'.n = n) (hb : ∀ f, f < n → s'.refs f ≤ 1 + B') :
    TopI W w' n B' s' t where
  pool := hp
  sn := hs
  refs := fun f hf => u.cell (h.refs f hf) (by show ¬ (W.heap.size + 2 + 1 = W.heap.size); omega)
  byt := fun f i hf hi => u.cell (h.byt f i hf hi) (by show ¬ (W.heap.size + 2 = W.heap.size); omega)
  fz7 := fun o => by rw [World.frozen?_of_block (w := w) (u.block (W.heap.size + 2) (by have := h.sz; omega) (by omega))]; exact h.fz7 o
  fz8 := fun o => by rw [World.frozen?_of_block (w := w) (u.block (W.heap.size + 2 + 1) (by have := h.sz; omega) (by omega))]; exact h.fz8 o
  bd := hb
  upd := h.upd.trans u (fun i hi e => by omega)
  sz := by have := h.sz; have := u.size; omega

/-- What turns nothing that was there. -/
theorem TopI.keep {W w w' : World} {n B : Nat} {s t : Pl} (h : TopI W w n B s t) (u : Upd (fun _ => False) w w') : TopI W w' n B s t :=
  h.call (h.pool.upd u (fun f => f) (fun f => f) (by have := h.sz; omega)) ⟨u.os, u.tape, u.output, u.size, fun k hk _ => u.block k hk (fun f => f)⟩ h.sn h.bd

theorem TopI.more {W w : World} {n B B' : Nat} {s t : Pl} (h : TopI W w n B s t) (hb : B ≤ B') : TopI W w n B' s t := { h with bd := fun f hf => by have := h.bd f hf; omega }

/-- A store into the law's own arrays. -/
theorem TopI.own {W w w' : World} {n B : Nat} {s t t' : Pl} (h : TopI W w n B s t) (u : Upd (fun k => k = W.heap.size + 2 ∨ k = W.heap.size + 2 + 1) w w')
    (hr : ∀ f, f < n → w'.cell? ⟨W.heap.size + 2 + 1, f, none⟩ = some (.int .i64 (t'.refs f))) (hb : ∀ f i, f < n → i < 16 → w'.cell? ⟨W.heap.size + 2, f * 16 + i, none⟩ = some (.int .u8 (t'.byt f i)))
    (hf : ∀ a, w'.frozen? a = w.frozen? a) : TopI W w' n B s t' where
  pool := h.pool.upd u (by omega) (by omega) (by have := h.sz; omega)
  sn := h.sn
  refs := hr
  byt := hb
  fz7 := fun o => by rw [hf]; exact h.fz7 o
  fz8 := fun o => by rw [hf]; exact h.fz8 o
  bd := h.bd
  upd := h.upd.trans u (fun i hi e => by omega)
  sz := by have := h.sz; have := u.size; omega

theorem TopI.setRef {W w : World} {n B : Nat} {s t : Pl} (h : TopI W w n B s t) {f : Nat} (hf : f < n) (v : Int) :
    TopI W (w.setCell ⟨W.heap.size + 2 + 1, f, none⟩ (.int .i64 v)) n B s { t with refs := setAt t.refs f v } := by
  refine h.own (Upd.setCell (Upd.refl _ _) _ (fun _ => Or.inr rfl) _) ?_ ?_ (fun a => by rw [World.frozen?_setCell])
  · intro g hg
    by_cases e : g = f
    · subst e; rw [World.cell?_setCell_same _ _ _ (h.refs g hg)]; simp [setAt]
    · rw [World.cell?_setCell_other _ _ _ _ (addr_ne (Or.inr (Ne.symm e))), h.refs g hg]; simp [setAt, e]
  · intro g i hg hi
    rw [World.cell?_setCell_other _ _ _ _ (addr_ne (Or.inl (by omega)))]; exact h.byt g i hg hi
theorem TopI.setByte {W w : World} {n B : Nat} {s t : Pl} (h : TopI W w n B s t) {f i : Nat} (hf : f < n) (hi : i < 16) (v : Int) :
    TopI W (w.setCell ⟨W.heap.size + 2, f * 16 + i, none⟩ (.int .u8 v)) n B s { t with byt := setAt t.byt f (setAt (t.byt f) i v) } := by
  refine h.own (Upd.setCell (Upd.refl _ _) _ (fun _ => Or.inl rfl) _) ?_ ?_ (fun a => by rw [World.frozen?_setCell])
  · intro g hg
    rw [World.cell?_setCell_other _ _ _ _ (addr_ne (Or.inl (by omega)))]; exact h.refs g hg
  · intro g j hg hj
    by_cases e : g = f
    · subst e
      by_cases e2 : j = i
      · subst e2; rw [World.cell?_setCell_same _ _ _ (h.byt g j hg hj)]; simp [setAt]
      · rw [World.cell?_setCell_other _ _ _ _ (addr_ne (Or.inr (by omega))), h.byt g j hg hj]; simp [setAt, e2]
    · rw [World.cell?_setCell_other _ _ _ _ (addr_ne (Or.inr (by omega))), h.byt g j hg hj]; simp [setAt, e]
theorem TopI.there {W w : World} {n B : Nat} {s t : Pl} (h : TopI W w n B s t) {f : Nat} (hf : f < n) : w.there (W.heap.size + 2) (f * 16) 16 := fun j hj =>
  ⟨by rw [h.byt f j hf hj]; rfl, h.fz7 _⟩
theorem TopI.setRow {W w : World} {n B : Nat} {s t : Pl} (h : TopI W w n B s t) {f : Nat} (hf : f < n) (g : Nat → Int) :
    TopI W (w.setCells (W.heap.size + 2) (f * 16) (rowOf g)) n B s { t with byt := setAt t.byt f g } := by
  refine h.own (Upd.setCells _ (fun _ => Or.inl rfl) _ _ (Upd.refl _ _)) ?_ ?_ (fun a => by rw [World.frozen?_setCells])
  · intro k hk
    rw [World.cell?_setCells_out _ _ _ _ _ (fun e _ => by simp only at e; omega)]; exact h.refs k hk
  · intro k j hk hj
    by_cases e : k = f
    · subst e
      have := World.rangeAt_setCells_same w (W.heap.size + 2) (k * 16) (rowOf g) (by rw [rowOf_length]; exact h.there hf) j _ (rowOf_get g j hj)
      rw [this]; simp [setAt]
    · rw [World.cell?_setCells_out _ _ _ _ _ (fun _ _ => by simp only [rowOf_length]; omega), h.byt k j hk hj]; simp [setAt, e]

/-- The box of an act. -/
structure BoxAt (w : World) (q : Nat) (x : Ac) : Prop where
  c0 : w.cell? ⟨q, 0, none⟩ = some (.string x.kind)
  c1 : w.cell? ⟨q, 1, none⟩ = some (.int .i64 x.n)
  c2 : w.cell? ⟨q, 2, none⟩ = some (.int .i64 x.a)
  c3 : w.cell? ⟨q, 3, none⟩ = some (.int .i64 x.b)
  c4 : w.cell? ⟨q, 4, none⟩ = some (.int .u8 x.v)
  c5 : w.cell? ⟨q, 5, none⟩ = some (.bool x.on)
theorem BoxAt.upd {S : Nat → Prop} {w w' : World} {q : Nat} {x : Ac} (h : BoxAt w q x) (u : Upd S w w') (hb : ¬ S q) : BoxAt w' q x :=
  ⟨u.cell h.c0 hb, u.cell h.c1 hb, u.cell h.c2 hb, u.cell h.c3 hb, u.cell h.c4 hb, u.cell h.c5 hb⟩
theorem BoxAt.new (w : World) (x : Ac) : BoxAt (w.alloc (.cells #[.string x.kind, .int .i64 x.n, .int .i64 x.a, .int .i64 x.b, .int .u8 x.v, .bool x.on] 38)) w.heap.size x :=
  ⟨by rw [World.cell?_alloc_new]; rfl, by rw [World.cell?_alloc_new]; rfl, by rw [World.cell?_alloc_new]; rfl, by rw [World.cell?_alloc_new]; rfl, by rw [World.cell?_alloc_new]; rfl, by rw [World.cell?_alloc_new]; rfl⟩

end Go.Proofs.Ytadpibcgjgcjhaa
/- What holds in each round of undercroftlaw.PoolSays. -/
namespace Go.Proofs.Ytadpibcgjgcjhaa
open Go.ChangeShapes Go.WideShapes Go.ChangeAt Go.RowKit
set_option maxRecDepth 100000

theorem PoolAt.drew {w : World} {bp bf : Nat} {s : Pl} (h : PoolAt w bp bf s) : PoolAt w.drew bp bf s := ⟨h.hd, h.refs, h.byt, h.fz, h.ne, h.le, h.nn⟩
theorem RefAt.drew {w : World} {bm : Nat} {s : Pl} (h : RefAt w bm s) : RefAt w.drew bm s := ⟨h.num, h.byt, h.refs, h.fz, h.le, h.nn⟩
theorem PoolAt.lt {w : World} {bp bf : Nat} {s : Pl} (h : PoolAt w bp bf s) (hn : 0 < s.n) : bf < w.heap.size := World.block_lt_of_cell? w _ (h.refs 0 hn)
theorem PoolAt.ltp {w : World} {bp bf : Nat} {s : Pl} (h : PoolAt w bp bf s) : bp < w.heap.size := by
  obtain ⟨cap, hc⟩ := h.hd
  exact World.block_lt_of_cell? w _ hc

/-- The pool and its model have one state. -/
structure PI (W w : World) (bp bf bm n B : Nat) (s : Pl) : Prop where
  pool : PoolAt w bp bf s
  ref : RefAt w bm s
  sn : s.n = n
  bd : ∀ f, f < n → s.refs f ≤ 1 + B
  upd : Upd (fun _ => False) W w
  gp : W.heap.size ≤ bp
  gf : W.heap.size ≤ bf
  gm : W.heap.size ≤ bm
  mp : bm ≠ bp
  mf : bm ≠ bf
theorem PI.keep {W w w' : World} {bp bf bm n B : Nat} {s : Pl} (h : PI W w bp bf bm n B s) (hn : 0 < n) (u : Upd (fun _ => False) w w') : PI W w' bp bf bm n B s :=
  { h with pool := h.pool.upd u (fun f => f) (fun f => f) (h.pool.lt (by rw [h.sn]; exact hn)), ref := h.ref.upd u (fun f => f), upd := h.upd.trans u (fun _ _ f => f) }
theorem PI.more {W w : World} {bp bf bm n B B' : Nat} {s : Pl} (h : PI W w bp bf bm n B s) (hb : B ≤ B') : PI W w bp bf bm n B' s := { h with bd := fun f hf => by have := h.bd f hf; omega }
/-- Both have turned, one behind the other. -/
theorem PI.both {W w w1 w2 : World} {bp bf bm n B B' : Nat} {s s' : Pl} (h : PI W w bp bf bm n B s) (u1 : Upd (fun k => k = bf) w w1) (u2 : Upd (fun k => k = bm) w1 w2)
    (hp : PoolAt w2 bp bf s') (hr : RefAt w2 bm s') (hn : s'.n = n) (hb : ∀ f, f < n → s'.refs f ≤ 1 + B') : PI W w2 bp bf bm n B' s' :=
  { h with pool := hp, ref := hr, sn := hn, bd := hb, upd := (h.upd.trans u1 (fun i hi e => by have := h.gf; omega)).trans u2 (fun i hi e => by have := h.gm; omega) }

theorem PI.drew {W w : World} {bp bf bm n B : Nat} {s : Pl} (h : PI W w bp bf bm n B s) : PI W w.drew bp bf bm n B s :=
  { h with pool := h.pool.drew, ref := h.ref.drew, upd := h.upd.drew }
theorem PI.drewN {W w : World} {bp bf bm n B : Nat} {s : Pl} (h : PI W w bp bf bm n B s) (m : Nat) : PI W (w.drewN m) bp bf bm n B s :=
  { h with pool := h.pool.drewN m, ref := h.ref.drewN m, upd := h.upd.drewN m }
/-- Both calls of one act, the pool's and then the model's. -/
theorem PI.two {W w w1 w2 : World} {bp bf bm n B B' : Nat} {s s' : Pl} (h : PI W w bp bf bm n B s) (hn : 0 < n) (hp : PoolAt w1 bp bf s') (u1 : Upd (fun k => k = bf) w w1) (hr : RefAt w2 bm s') (u2 : Upd (fun k => k = bm) w1 w2)
    (hs : s'.n = n) (hb : ∀ f, f < n → s'.refs f ≤ 1 + B') : PI W w2 bp bf bm n B' s' :=
  h.both u1 u2 (hp.upd u2 (Ne.symm h.mp) (Ne.symm h.mf) (hp.lt (by rw [hs]; exact hn))) hr hs hb
/-- A copy goes on; what the old one does is not seen. -/
theorem PI.moved {W w w1 w2 : World} {bp bf bm n B cp cf : Nat} {s : Pl} (h : PI W w bp bf bm n B s) (hn : 0 < n) (hp : PoolAt w1 cp cf s) (u1 : Upd (fun _ => False) w w1) (gp : w.heap.size ≤ cp) (gf : w.heap.size ≤ cf) (lf : cf < w1.heap.size)
    (u2 : Upd (fun k => k = bf) w1 w2) : PI W w2 cp cf bm n (B + 1) s := by
  have hf : bf < w.heap.size := h.pool.lt (by rw [h.sn]; exact hn)
  have hm : bm < w.heap.size := World.block_lt_of_cell? _ _ h.ref.num
  have hz := h.upd.size
  refine ⟨hp.upd u2 (by omega) (by omega) lf, (h.ref.upd u1 (fun f => f)).upd u2 h.mf, h.sn, fun f hk => by have := h.bd f hk; omega, (h.upd.trans u1 (fun _ _ f => f)).trans u2 (fun i hi e => by have := h.gf; omega), by omega, by omega, h.gm, by omega, by omega⟩
theorem share_n (s : Pl) (f d : Int) : (s.share f d).2.n = s.n := by unfold Pl.share; split <;> rfl
theorem set_n (s : Pl) (f i v : Int) : (s.set f i v).2.n = s.n := by
  unfold Pl.set
  split
  · rfl
  · split
    · split <;> rfl
    · rfl
theorem fill_n (s : Pl) (f g : Int) : (s.fill f g).2.n = s.n := by
  unfold Pl.fill
  split
  · split <;> rfl
  · rfl
theorem take_n (s : Pl) : s.take.2.2.n = s.n := by unfold Pl.take; split <;> rfl
theorem setAt_le {refs : Nat → Int} {j : Nat} {v : Int} {n : Nat} {B : Int} (h : ∀ f, f < n → refs f ≤ B) (hv : v ≤ B) : ∀ f, f < n → setAt refs j v f ≤ B := by
  intro f hf
  by_cases e : f = j
  · subst e; simpa [setAt] using hv
  · simpa [setAt, e] using h f hf
theorem share_bd {s : Pl} {f d : Int} {n B : Nat} (hn : s.n = n) (h : ∀ f, f < n → s.refs f ≤ 1 + B) (hd : d ≤ 1) : ∀ k, k < n → (s.share f d).2.refs k ≤ 1 + ((B + 1 : Nat) : Int) := by
  unfold Pl.share
  split
  · rename_i hu
    obtain ⟨h0, h1, _⟩ := (s.used_iff f).1 hu
    exact setAt_le (fun k hk => by have := h k hk; omega) (by have := h f.toNat (by omega); omega)
  · intro k hk; have := h k hk; simp only; omega
theorem set_bd {s : Pl} {f i v : Int} {n B : Nat} (h : ∀ f, f < n → s.refs f ≤ 1 + B) : ∀ k, k < n → (s.set f i v).2.refs k ≤ 1 + ((B + 1 : Nat) : Int) := by
  have e : (s.set f i v).2.refs = s.refs := by
    unfold Pl.set
    split
    · rfl
    · split
      · split <;> rfl
      · rfl
  intro k hk
  rw [e]; have := h k hk; omega
theorem fill_bd {s : Pl} {f g : Int} {n B : Nat} (h : ∀ f, f < n → s.refs f ≤ 1 + B) : ∀ k, k < n → (s.fill f g).2.refs k ≤ 1 + ((B + 1 : Nat) : Int) := by
  have e : (s.fill f g).2.refs = s.refs := by
    unfold Pl.fill
    split
    · split <;> rfl
    · rfl
  intro k hk
  rw [e]; have := h k hk; omega
theorem take_bd {s : Pl} {n B : Nat} (h : ∀ f, f < n → s.refs f ≤ 1 + B) : ∀ k, k < n → s.take.2.2.refs k ≤ 1 + ((B + 1 : Nat) : Int) := by
  unfold Pl.take
  split
  · exact setAt_le (fun k hk => by have := h k hk; omega) (by omega)
  · intro k hk; have := h k hk; simp only; omega
theorem share_code (s : Pl) (f d : Int) : 0 ≤ (s.share f d).1 := by unfold Pl.share; split <;> simp
theorem set_code (s : Pl) (f i v : Int) : 0 ≤ (s.set f i v).1 := by
  unfold Pl.set
  split
  · simp
  · split
    · split <;> simp
    · simp
theorem fill_code (s : Pl) (f g : Int) : 0 ≤ (s.fill f g).1 := by
  unfold Pl.fill
  split
  · split <;> simp
  · simp
theorem take_code (s : Pl) : 0 ≤ s.take.2.1 := by unfold Pl.take; split <;> simp
end Go.Proofs.Ytadpibcgjgcjhaa
/- What a map of pages is, plainly, and the document's answer for chapter 2 in memory. -/
namespace Go.Proofs.Ytadpibcgjgcjhaa
open Go.ChangeShapes Go.WideShapes Go.ChangeAt Go.RowKit
set_option maxRecDepth 100000

/-- Where a page is. -/
structure Lf where
  there : Bool
  wr : Bool
  fr : Int
def lf0 : Lf := ⟨false, false, 0⟩
/-- The pages of a guest: their states, their leaves. -/
structure Mp where
  st : Nat → Int
  lf : Nat → Lf
  /-- What lies behind a map's own cells, where it is part of something greater. -/
  rest : Nat → Option Value := fun _ => none
def mp0 : Mp := { st := fun _ => 0, lf := fun _ => lf0 }
def onB (n : Int) : Bool := decide (0 ≤ n) && decide (n < 16)
theorem onB_iff (n : Int) : onB n = true ↔ 0 ≤ n ∧ n < 16 := by simp [onB]
theorem onB_no (n : Int) : onB n = false ↔ n < 0 ∨ 16 ≤ n := by simp [onB]; omega
/-- A page turns to another state: where it is Plain no more its frame is dropped. -/
def turnP (s : Pl) (m : Mp) (n : Nat) (z : Int) : Pl := if (m.lf n).there && !(z == 1) then (s.share (m.lf n).fr (-1)).2 else s
def turnM (m : Mp) (n : Nat) (z : Int) : Mp := { m with st := setAt m.st n z, lf := if (m.lf n).there && !(z == 1) then setAt m.lf n lf0 else m.lf }
def plugR (s : Pl) (m : Mp) (n : Int) : Int × Pl × Mp := if onB n then (if m.st n.toNat = 0 then (0, turnP s m n.toNat 1, turnM m n.toNat 1) else (4, s, m)) else (1, s, m)
def unplugR (s : Pl) (m : Mp) (n : Int) : Int × Pl × Mp := if onB n then (if m.st n.toNat = 0 then (2, s, m) else (0, turnP s m n.toNat 0, turnM m n.toNat 0)) else (1, s, m)
def giveR (s : Pl) (m : Mp) (n : Int) (back : Bool) : Int × Pl × Mp :=
  if onB n then
    (if back then (if m.st n.toNat = 2 then (0, turnP s m n.toNat 1, turnM m n.toNat 1) else (8, s, m))
     else (if m.st n.toNat = 1 then (0, turnP s m n.toNat 2, turnM m n.toNat 2) else (8, s, m)))
  else (1, s, m)
def sealR (m : Mp) (n : Int) : Int × Mp := if onB n then (if (m.lf n.toNat).there then (0, { m with lf := setAt m.lf n.toNat { m.lf n.toNat with wr := false } }) else (8, m)) else (1, m)
/-- What Touch answers: the frame, whether it moved, the error; the pool, the pages. -/
def touchR (s : Pl) (m : Mp) (n : Int) (write : Bool) : (Int × Bool × Int) × Pl × Mp :=
  if onB n then
    if m.st n.toNat = 0 then ((0, false, 2), s, m)
    else if m.st n.toNat = 2 then ((0, false, 6), s, m)
    else if (m.lf n.toNat).there && (!write || (m.lf n.toNat).wr) then (((m.lf n.toNat).fr, false, 0), s, m)
    else if (m.lf n.toNat).there && (s.refs (m.lf n.toNat).fr.toNat == 1) then (((m.lf n.toNat).fr, false, 0), s, { m with lf := setAt m.lf n.toNat { m.lf n.toNat with wr := true } })
    else if s.take.2.1 = 0 then
      ((s.take.1, (m.lf n.toNat).there, 0),
        (if (m.lf n.toNat).there then (({ s.take.2.2 with byt := setAt s.take.2.2.byt s.take.1.toNat (s.take.2.2.byt (m.lf n.toNat).fr.toNat) } : Pl).share (m.lf n.toNat).fr (-1)).2 else s.take.2.2),
        { m with lf := setAt m.lf n.toNat ⟨true, true, s.take.1⟩ })
    else ((0, false, s.take.2.1), s, m)
  else ((0, false, 1), s, m)
def joinR (s : Pl) (m : Mp) (n f : Int) : Int × Pl × Mp :=
  if onB n then
    if (m.lf n.toNat).there && !((m.lf n.toNat).fr == f) && s.same (m.lf n.toNat).fr f then
      (0, ((s.share f 1).2.share (m.lf n.toNat).fr (-1)).2, { m with lf := setAt m.lf n.toNat ⟨true, false, f⟩ })
    else (8, s, m)
  else (1, s, m)

/-- The model's map in memory: its block bx, its pool's block bm. -/
structure RMap (w : World) (bx bm : Nat) (m : Mp) : Prop where
  pool : w.cell? ⟨bx, 0, none⟩ = some (.pointer (some ⟨bm, 0, none⟩))
  st : ∀ n, n < 16 → w.cell? ⟨bx, 1 + n, none⟩ = some (.int .i64 (m.st n))
  th : ∀ n, n < 16 → w.cell? ⟨bx, 17 + n * 3, none⟩ = some (.bool (m.lf n).there)
  wr : ∀ n, n < 16 → w.cell? ⟨bx, 17 + n * 3 + 1, none⟩ = some (.bool (m.lf n).wr)
  fr : ∀ n, n < 16 → w.cell? ⟨bx, 17 + n * 3 + 2, none⟩ = some (.int .i64 (m.lf n).fr)
  fz : ∀ o, w.frozen? ⟨bx, o, none⟩ = false
  rs : ∀ o v, 65 ≤ o → m.rest o = some v → w.cell? ⟨bx, o, none⟩ = some v
theorem RMap.lt {w : World} {bx bm : Nat} {m : Mp} (h : RMap w bx bm m) : bx < w.heap.size := World.block_lt_of_cell? w _ h.pool
theorem RMap.upd {S : Nat → Prop} {w w' : World} {bx bm : Nat} {m : Mp} (h : RMap w bx bm m) (u : Upd S w w') (hx : ¬ S bx) : RMap w' bx bm m where
  pool := u.cell h.pool hx
  st := fun n hn => u.cell (h.st n hn) hx
  th := fun n hn => u.cell (h.th n hn) hx
  wr := fun n hn => u.cell (h.wr n hn) hx
  fr := fun n hn => u.cell (h.fr n hn) hx
  fz := fun o => by rw [World.frozen?_of_block (w := w) (u.block bx h.lt hx)]; exact h.fz o
  rs := fun o v ho hv => u.cell (h.rs o v ho hv) hx
theorem RMap.drew {w : World} {bx bm : Nat} {m : Mp} (h : RMap w bx bm m) : RMap w.drew bx bm m := ⟨h.pool, h.st, h.th, h.wr, h.fr, h.fz, h.rs⟩
theorem RMap.drewN {w : World} {bx bm : Nat} {m : Mp} (h : RMap w bx bm m) (n : Nat) : RMap (w.drewN n) bx bm m := ⟨h.pool, h.st, h.th, h.wr, h.fr, h.fz, h.rs⟩
theorem RMap.setSt {w : World} {bx bm : Nat} {m : Mp} (h : RMap w bx bm m) {n : Nat} (hn : n < 16) (v : Int) : RMap (w.setCell ⟨bx, 1 + n, none⟩ (.int .i64 v)) bx bm { m with st := setAt m.st n v } where
  pool := by rw [World.cell?_setCell_other _ _ _ _ (addr_ne (Or.inr (by omega)))]; exact h.pool
  st := fun k hk => by
    by_cases e : k = n
    · subst e; rw [World.cell?_setCell_same _ _ _ (h.st k hk)]; simp [setAt]
    · rw [World.cell?_setCell_other _ _ _ _ (addr_ne (Or.inr (by omega))), h.st k hk]; simp [setAt, e]
  th := fun k hk => by rw [World.cell?_setCell_other _ _ _ _ (addr_ne (Or.inr (by omega)))]; exact h.th k hk
  wr := fun k hk => by rw [World.cell?_setCell_other _ _ _ _ (addr_ne (Or.inr (by omega)))]; exact h.wr k hk
  fr := fun k hk => by rw [World.cell?_setCell_other _ _ _ _ (addr_ne (Or.inr (by omega)))]; exact h.fr k hk
  fz := fun o => by rw [World.frozen?_setCell]; exact h.fz o
  rs := fun o v ho hv => by rw [World.cell?_setCell_other _ _ _ _ (addr_ne (Or.inr (by omega)))]; exact h.rs o v ho hv
theorem RMap.setWr {w : World} {bx bm : Nat} {m : Mp} (h : RMap w bx bm m) {n : Nat} (hn : n < 16) (v : Bool) : RMap (w.setCell ⟨bx, 17 + n * 3 + 1, none⟩ (.bool v)) bx bm { m with lf := setAt m.lf n { m.lf n with wr := v } } where
  pool := by rw [World.cell?_setCell_other _ _ _ _ (addr_ne (Or.inr (by omega)))]; exact h.pool
  st := fun k hk => by rw [World.cell?_setCell_other _ _ _ _ (addr_ne (Or.inr (by omega)))]; exact h.st k hk
  th := fun k hk => by
    rw [World.cell?_setCell_other _ _ _ _ (addr_ne (Or.inr (by omega))), h.th k hk]
    by_cases e : k = n
    · subst e; simp [setAt]
    · simp [setAt, e]
  wr := fun k hk => by
    by_cases e : k = n
    · subst e; rw [World.cell?_setCell_same _ _ _ (h.wr k hk)]; simp [setAt]
    · rw [World.cell?_setCell_other _ _ _ _ (addr_ne (Or.inr (by omega))), h.wr k hk]; simp [setAt, e]
  fr := fun k hk => by
    rw [World.cell?_setCell_other _ _ _ _ (addr_ne (Or.inr (by omega))), h.fr k hk]
    by_cases e : k = n
    · subst e; simp [setAt]
    · simp [setAt, e]
  fz := fun o => by rw [World.frozen?_setCell]; exact h.fz o
  rs := fun o v ho hv => by rw [World.cell?_setCell_other _ _ _ _ (addr_ne (Or.inr (by omega)))]; exact h.rs o v ho hv
theorem RMap.setLf {w : World} {bx bm : Nat} {m : Mp} (h : RMap w bx bm m) {n : Nat} (hn : n < 16) (l : Lf) :
    RMap (((w.setCell ⟨bx, 17 + n * 3, none⟩ (.bool l.there)).setCell ⟨bx, 17 + n * 3 + 1, none⟩ (.bool l.wr)).setCell ⟨bx, 17 + n * 3 + 2, none⟩ (.int .i64 l.fr)) bx bm { m with lf := setAt m.lf n l } := by
  have hne : ∀ (o : Nat), o ≠ 17 + n * 3 → o ≠ 17 + n * 3 + 1 → o ≠ 17 + n * 3 + 2 →
      (((w.setCell ⟨bx, 17 + n * 3, none⟩ (.bool l.there)).setCell ⟨bx, 17 + n * 3 + 1, none⟩ (.bool l.wr)).setCell ⟨bx, 17 + n * 3 + 2, none⟩ (.int .i64 l.fr)).cell? ⟨bx, o, none⟩ = w.cell? ⟨bx, o, none⟩ := by
    intro o h1 h2 h3
    rw [World.cell?_setCell_other _ _ _ _ (addr_ne (Or.inr (Ne.symm h3))), World.cell?_setCell_other _ _ _ _ (addr_ne (Or.inr (Ne.symm h2))), World.cell?_setCell_other _ _ _ _ (addr_ne (Or.inr (Ne.symm h1)))]
  have e1 : (w.setCell ⟨bx, 17 + n * 3, none⟩ (.bool l.there)).cell? ⟨bx, 17 + n * 3 + 1, none⟩ = some (.bool (m.lf n).wr) := by
    rw [World.cell?_setCell_other _ _ _ _ (addr_ne (Or.inr (by omega)))]; exact h.wr n hn
  have e2 : ((w.setCell ⟨bx, 17 + n * 3, none⟩ (.bool l.there)).setCell ⟨bx, 17 + n * 3 + 1, none⟩ (.bool l.wr)).cell? ⟨bx, 17 + n * 3 + 2, none⟩ = some (.int .i64 (m.lf n).fr) := by
    rw [World.cell?_setCell_other _ _ _ _ (addr_ne (Or.inr (by omega))), World.cell?_setCell_other _ _ _ _ (addr_ne (Or.inr (by omega)))]; exact h.fr n hn
  refine ⟨by rw [hne 0 (by omega) (by omega) (by omega)]; exact h.pool, fun k hk => by rw [hne _ (by omega) (by omega) (by omega)]; exact h.st k hk, ?_, ?_, ?_, fun o => by simp only [World.frozen?_setCell]; exact h.fz o, fun o v ho hv => by rw [hne _ (by omega) (by omega) (by omega)]; exact h.rs o v ho hv⟩
  · intro k hk
    by_cases e : k = n
    · subst e
      rw [World.cell?_setCell_other _ _ _ _ (addr_ne (Or.inr (by omega))), World.cell?_setCell_other _ _ _ _ (addr_ne (Or.inr (by omega))), World.cell?_setCell_same _ _ _ (h.th k hk)]
      simp [setAt]
    · rw [hne _ (by omega) (by omega) (by omega), h.th k hk]; simp [setAt, e]
  · intro k hk
    by_cases e : k = n
    · subst e
      rw [World.cell?_setCell_other _ _ _ _ (addr_ne (Or.inr (by omega))), World.cell?_setCell_same _ _ _ e1]
      simp [setAt]
    · rw [hne _ (by omega) (by omega) (by omega), h.wr k hk]; simp [setAt, e]
  · intro k hk
    by_cases e : k = n
    · subst e
      rw [World.cell?_setCell_same _ _ _ e2]
      simp [setAt]
    · rw [hne _ (by omega) (by omega) (by omega), h.fr k hk]; simp [setAt, e]
theorem Upd.three (w : World) (b o1 o2 o3 : Nat) (v1 v2 v3 : Value) : Upd (fun k => k = b) w (((w.setCell ⟨b, o1, none⟩ v1).setCell ⟨b, o2, none⟩ v2).setCell ⟨b, o3, none⟩ v3) :=
  ((Upd.one w b o1 v1).trans (Upd.one _ b o2 v2) (fun _ _ e => e)).trans (Upd.one _ b o3 v3) (fun _ _ e => e)
theorem Upd.wide {S T : Nat → Prop} {w w' : World} (h : Upd S w w') (hT : ∀ k, S k → T k) : Upd T w w' := ⟨h.os, h.tape, h.output, h.size, fun k hk hn => h.block k hk (fun s => hn (hT k s))⟩
end Go.Proofs.Ytadpibcgjgcjhaa
/- The document's answer for chapter 2: what its functions answer, and what they turn: On, turn, Plug, Unplug, Give, Seal. -/
namespace Go.Proofs.Ytadpibcgjgcjhaa
open Go.ChangeShapes Go.WideShapes Go.ChangeAt Go.RowKit
set_option maxRecDepth 100000
attribute [local go_sem ↓] Go.wp_at_zero Go.wp_at_succ

theorem on_any (w : World) (n : Int) : Calls Try.prog 105 #[.int .i64 n] w fun e w' => e = .returned (.bool (onB n)) ∧ w' = w := by
  by_cases h : onB n = true
  · obtain ⟨h0, h1⟩ := (onB_iff n).1 h
    rw [h]
    clear h
    go_enter Try.func105, Try.ntmps105
    go_wp2
    go_ret
    exact ⟨rfl, rfl⟩
  · have h' : onB n = false := by simpa using h
    rw [h']
    rcases (onB_no n).1 h' with h0 | h0
    · have hd : decide (0 ≤ n) = false := by simp; omega
      clear h h'
      go_enter Try.func105, Try.ntmps105
      go_wp2
      go_ret
      exact ⟨rfl, rfl⟩
    · have hd : decide (n < 16) = false := by simp; omega
      have h1 : 0 ≤ n := by omega
      clear h h'
      go_enter Try.func105, Try.ntmps105
      go_wp2
      go_ret
      exact ⟨rfl, rfl⟩
theorem on_is (w : World) (n : Int) {u : Bool} (h : onB n = u) : Calls Try.prog 105 #[.int .i64 n] w fun e w' => e = .returned (.bool u) ∧ w' = w := by
  subst h; exact on_any w n

/-- No leaf to give up: the state alone turns. -/
theorem turn_plain (w : World) (bx bm n : Nat) (z : Int) (m : Mp) (h : RMap w bx bm m) (hn : n < 16) (ht : ((m.lf n).there && !(z == 1)) = false) :
    Calls Try.prog 106 #[.pointer (some ⟨bx, 0, none⟩), .int .i64 n, .int .i64 z] w fun e w' => e = .returned (.tuple #[]) ∧ w' = w.setCell ⟨bx, 1 + n, none⟩ (.int .i64 z) := by
  have c1 := h.th n hn
  have c2 := h.st n hn
  have c3 := h.fz (1 + n)
  have n1 : (n : Int) < 16 := by omega
  cases hth : (m.lf n).there with
  | false =>
    rw [hth] at c1
    clear hth ht
    go_enter Try.func106, Try.ntmps106
    go_wp2
    go_end0
    exact ⟨rfl, rfl⟩
  | true =>
    rw [hth] at c1 ht
    have hz : z = 1 := by simpa using ht
    subst hz
    clear hth ht
    go_enter Try.func106, Try.ntmps106
    go_wp2
    go_end0
    exact ⟨rfl, rfl⟩
theorem turn_drop (w : World) (bx bm n : Nat) (z : Int) (m : Mp) (s : Pl) (h : RMap w bx bm m) (hr : RefAt w bm s) (hne : bx ≠ bm) (hn : n < 16) (hm : ∀ k, k < s.n → s.refs k ≤ 1000000) (ht : (m.lf n).there = true) (hz : (z != 1) = true) :
    Calls Try.prog 106 #[.pointer (some ⟨bx, 0, none⟩), .int .i64 n, .int .i64 z] w fun e w' => e = .returned (.tuple #[]) ∧ RefAt w' bm (s.share (m.lf n).fr (-1)).2 ∧ RMap w' bx bm { m with st := setAt m.st n z, lf := setAt m.lf n lf0 } ∧ Upd (fun k => k = bm ∨ k = bx) w w' := by
  have c0 := h.pool
  have c1 := h.th n hn
  rw [ht] at c1
  have c2 := h.fr n hn
  have n0 : (0 : Int) ≤ (n : Int) := by omega
  have n1 : (n : Int) < 16 := by omega
  have HNE : Hid _ := hne
  clear ht hne
  go_enter Try.func106, Try.ntmps106
  go_wp2_with fail
  go_region_held3 (fun w' => w'.cell? ⟨bx, 0, none⟩ = some (.pointer (some ⟨bm, 0, none⟩)) ∧ w'.cell? ⟨bx, 17 + n * 3 + 2, none⟩ = some (.int .i64 (m.lf n).fr)) (first | exact ⟨c0, c2⟩ | exact h1c)
    ((go_at_call 17; refine (rShare_any _ _ _ _ s (by first | exact hr | exact hr.drew) hm (by omega) (by omega)).mono ?_; rintro e w1 ⟨rfl, hr1, hu1⟩; have h1c : w1.cell? ⟨bx, 0, none⟩ = some (.pointer (some ⟨bm, 0, none⟩)) ∧ w1.cell? ⟨bx, 17 + n * 3 + 2, none⟩ = some (.int .i64 (m.lf n).fr) := ⟨hu1.cell (by exact c0) HNE.out, hu1.cell (by exact c2) HNE.out⟩))
  have hu1' : Upd (fun k => k = bm) w w1 := (Upd.refl (fun k => k = bm) w).drew.trans hu1 (fun _ _ e => e)
  have h1 := h.upd hu1' HNE.out
  have d1 := h1.th n hn
  have d2 := h1.wr n hn
  have d3 := h1.fr n hn
  have d4 := h1.fz
  have h2 := h1.setLf hn lf0
  have d5 := h2.st n hn
  have d6 := h2.fz (1 + n)
  have h3 := h2.setSt hn z
  have hr2 := (hr1.upd (Upd.three w1 bx (17 + n * 3) (17 + n * 3 + 1) (17 + n * 3 + 2) (.bool lf0.there) (.bool lf0.wr) (.int .i64 lf0.fr)) (Ne.symm HNE.out)).upd (Upd.one _ bx (1 + n) (.int .i64 z)) (Ne.symm HNE.out)
  have H3 : Hid _ := h3
  have HR2 : Hid _ := hr2
  have hu3 := (hu1'.wide (T := fun k => k = bm ∨ k = bx) (fun _ e => Or.inl e)).trans ((Upd.three w1 bx (17 + n * 3) (17 + n * 3 + 1) (17 + n * 3 + 2) (.bool lf0.there) (.bool lf0.wr) (.int .i64 lf0.fr)).trans (Upd.one _ bx (1 + n) (.int .i64 z)) (fun _ _ e => e)) (fun _ _ e => Or.inr e)
  have HU3 : Hid _ := hu3
  have d7 := d4 (17 + n * 3)
  have d8 := d4 (17 + n * 3 + 1)
  have d9 := d4 (17 + n * 3 + 2)
  have H1 : Hid _ := h1
  clear h3 hr2 hu3 d4 h2 h1 hu1 hu1' hr1 h1c c0 c1 c2
  simp only [lf0] at d5 d6
  go_wp2_with fail
  go_end0
  exact ⟨rfl, HR2.out, H3.out, HU3.out⟩

theorem turn_any (w : World) (bx bm n : Nat) (z : Int) (m : Mp) (s : Pl) (h : RMap w bx bm m) (hr : RefAt w bm s) (hne : bx ≠ bm) (hn : n < 16) (hm : ∀ k, k < s.n → s.refs k ≤ 1000000) :
    Calls Try.prog 106 #[.pointer (some ⟨bx, 0, none⟩), .int .i64 n, .int .i64 z] w fun e w' => e = .returned (.tuple #[]) ∧ RefAt w' bm (turnP s m n z) ∧ RMap w' bx bm (turnM m n z) ∧ Upd (fun k => k = bm ∨ k = bx) w w' := by
  cases ht : ((m.lf n).there && !(z == 1)) with
  | false =>
    refine (turn_plain w bx bm n z m h hn ht).mono ?_
    rintro e w' ⟨rfl, rfl⟩
    simp only [turnP, turnM, ht, Bool.false_eq_true, if_false]
    exact ⟨trivial, hr.upd (Upd.one _ _ _ _) (Ne.symm hne), h.setSt hn z, (Upd.one _ _ _ _).wide (fun _ e => Or.inr e)⟩
  | true =>
    have ht' := ht
    simp only [Bool.and_eq_true, Bool.not_eq_true', beq_eq_false_iff_ne, ne_eq] at ht'
    refine (turn_drop w bx bm n z m s h hr hne hn hm ht'.1 (by simp [ht'.2])).mono ?_
    rintro e w' ⟨rfl, h1, h2, h3⟩
    simp only [turnP, turnM, ht, if_true]
    exact ⟨trivial, h1, h2, h3⟩

theorem rPlug_any (w : World) (bx bm : Nat) (n : Int) (m : Mp) (s : Pl) (h : RMap w bx bm m) (hr : RefAt w bm s) (hne : bx ≠ bm) (hm : ∀ k, k < s.n → s.refs k ≤ 1000000) :
    Calls Try.prog 76 #[.pointer (some ⟨bx, 0, none⟩), .int .i64 n] w fun e w' => e = .returned (.int .i64 (plugR s m n).1) ∧ RefAt w' bm (plugR s m n).2.1 ∧ RMap w' bx bm (plugR s m n).2.2 ∧ Upd (fun k => k = bm ∨ k = bx) w w' := by
  cases ho : onB n with
  | false =>
    simp only [plugR, ho, Bool.false_eq_true, if_false]
    go_enter Try.func76, Try.ntmps76
    go_wp2_with (go_at_call 105; refine (on_is _ _ ho).mono ?_; rintro e w' ⟨rfl, rfl⟩)
    go_ret
    exact ⟨rfl, hr, h, Upd.refl _ _⟩
  | true =>
    obtain ⟨h0, h1⟩ := (onB_iff n).1 ho
    obtain ⟨k, rfl⟩ := Int.eq_ofNat_of_zero_le h0
    have hk : k < 16 := by omega
    have c1 := h.st k hk
    by_cases hs : m.st k = 0
    · simp only [plugR, ho, if_true, Int.toNat_natCast, hs]
      have b1 : (m.st k != 0) = false := by simp [hs]
      clear hs
      go_enter Try.func76, Try.ntmps76
      go_wp2_with (go_at_call 105; refine (on_is _ _ ho).mono ?_; rintro e w' ⟨rfl, rfl⟩)
      refine (turn_any _ _ _ k _ _ s h hr hne hk hm).mono ?_
      rintro e w1 ⟨rfl, a1, a2, a3⟩
      go_wp2_with fail
      go_ret
      exact ⟨rfl, a1, a2, a3⟩
    · simp only [plugR, ho, if_true, Int.toNat_natCast, hs, if_false]
      have b1 : (m.st k != 0) = true := by simp [hs]
      clear hs
      go_enter Try.func76, Try.ntmps76
      go_wp2_with (go_at_call 105; refine (on_is _ _ ho).mono ?_; rintro e w' ⟨rfl, rfl⟩)
      go_ret
      exact ⟨rfl, hr, h, Upd.refl _ _⟩
end Go.Proofs.Ytadpibcgjgcjhaa
/- The document's answer for chapter 2: Unplug, Give, Seal, Join. -/
namespace Go.Proofs.Ytadpibcgjgcjhaa
open Go.ChangeShapes Go.WideShapes Go.ChangeAt Go.RowKit
set_option maxRecDepth 100000
attribute [local go_sem ↓] Go.wp_at_zero Go.wp_at_succ

theorem rUnplug_any (w : World) (bx bm : Nat) (n : Int) (m : Mp) (s : Pl) (h : RMap w bx bm m) (hr : RefAt w bm s) (hne : bx ≠ bm) (hm : ∀ k, k < s.n → s.refs k ≤ 1000000) :
    Calls Try.prog 77 #[.pointer (some ⟨bx, 0, none⟩), .int .i64 n] w fun e w' => e = .returned (.int .i64 (unplugR s m n).1) ∧ RefAt w' bm (unplugR s m n).2.1 ∧ RMap w' bx bm (unplugR s m n).2.2 ∧ Upd (fun k => k = bm ∨ k = bx) w w' := by
  cases ho : onB n with
  | false =>
    simp only [unplugR, ho, Bool.false_eq_true, if_false]
    go_enter Try.func77, Try.ntmps77
    go_wp2_with (go_at_call 105; refine (on_is _ _ ho).mono ?_; rintro e w' ⟨rfl, rfl⟩)
    go_ret
    exact ⟨rfl, hr, h, Upd.refl _ _⟩
  | true =>
    obtain ⟨h0, h1⟩ := (onB_iff n).1 ho
    obtain ⟨k, rfl⟩ := Int.eq_ofNat_of_zero_le h0
    have hk : k < 16 := by omega
    have c1 := h.st k hk
    by_cases hs : m.st k = 0
    · simp only [unplugR, ho, if_true, Int.toNat_natCast, hs]
      have b1 : (m.st k == 0) = true := by simp [hs]
      clear hs
      go_enter Try.func77, Try.ntmps77
      go_wp2_with (go_at_call 105; refine (on_is _ _ ho).mono ?_; rintro e w' ⟨rfl, rfl⟩)
      go_ret
      exact ⟨rfl, hr, h, Upd.refl _ _⟩
    · simp only [unplugR, ho, if_true, Int.toNat_natCast, hs, if_false]
      have b1 : (m.st k == 0) = false := by simp [hs]
      clear hs
      go_enter Try.func77, Try.ntmps77
      go_wp2_with (go_at_call 105; refine (on_is _ _ ho).mono ?_; rintro e w' ⟨rfl, rfl⟩)
      refine (turn_any _ _ _ k _ _ s h hr hne hk hm).mono ?_
      rintro e w1 ⟨rfl, a1, a2, a3⟩
      go_wp2_with fail
      go_ret
      exact ⟨rfl, a1, a2, a3⟩
theorem rGive_any (w : World) (bx bm : Nat) (n : Int) (back : Bool) (m : Mp) (s : Pl) (h : RMap w bx bm m) (hr : RefAt w bm s) (hne : bx ≠ bm) (hm : ∀ k, k < s.n → s.refs k ≤ 1000000) :
    Calls Try.prog 79 #[.pointer (some ⟨bx, 0, none⟩), .int .i64 n, .bool back] w fun e w' => e = .returned (.int .i64 (giveR s m n back).1) ∧ RefAt w' bm (giveR s m n back).2.1 ∧ RMap w' bx bm (giveR s m n back).2.2 ∧ Upd (fun k => k = bm ∨ k = bx) w w' := by
  cases ho : onB n with
  | false =>
    simp only [giveR, ho, Bool.false_eq_true, if_false]
    go_enter Try.func79, Try.ntmps79
    go_wp2_with (go_at_call 105; refine (on_is _ _ ho).mono ?_; rintro e w' ⟨rfl, rfl⟩)
    go_ret
    exact ⟨rfl, hr, h, Upd.refl _ _⟩
  | true =>
    obtain ⟨h0, h1⟩ := (onB_iff n).1 ho
    obtain ⟨k, rfl⟩ := Int.eq_ofNat_of_zero_le h0
    have hk : k < 16 := by omega
    have c1 := h.st k hk
    cases back with
    | true =>
      by_cases hs : m.st k = 2
      · simp only [giveR, ho, if_true, Int.toNat_natCast, hs]
        have b1 : (m.st k == 2) = true := by simp [hs]
        clear hs
        go_enter Try.func79, Try.ntmps79
        go_wp2_with (go_at_call 105; refine (on_is _ _ ho).mono ?_; rintro e w' ⟨rfl, rfl⟩)
        refine (turn_any _ _ _ k _ _ s h hr hne hk hm).mono ?_
        rintro e w1 ⟨rfl, a1, a2, a3⟩
        go_wp2_with fail
        go_ret
        exact ⟨rfl, a1, a2, a3⟩
      · simp only [giveR, ho, if_true, Int.toNat_natCast, hs, if_false]
        have b1 : (m.st k == 2) = false := by simp [hs]
        clear hs
        go_enter Try.func79, Try.ntmps79
        go_wp2_with (go_at_call 105; refine (on_is _ _ ho).mono ?_; rintro e w' ⟨rfl, rfl⟩)
        go_ret
        exact ⟨rfl, hr, h, Upd.refl _ _⟩
    | false =>
      by_cases hs : m.st k = 1
      · simp only [giveR, ho, if_true, Int.toNat_natCast, hs, Bool.false_eq_true, if_false]
        have b1 : (m.st k == 1) = true := by simp [hs]
        clear hs
        go_enter Try.func79, Try.ntmps79
        go_wp2_with (go_at_call 105; refine (on_is _ _ ho).mono ?_; rintro e w' ⟨rfl, rfl⟩)
        refine (turn_any _ _ _ k _ _ s h hr hne hk hm).mono ?_
        rintro e w1 ⟨rfl, a1, a2, a3⟩
        go_wp2_with fail
        go_ret
        exact ⟨rfl, a1, a2, a3⟩
      · simp only [giveR, ho, if_true, Int.toNat_natCast, hs, if_false, Bool.false_eq_true]
        have b1 : (m.st k == 1) = false := by simp [hs]
        clear hs
        go_enter Try.func79, Try.ntmps79
        go_wp2_with (go_at_call 105; refine (on_is _ _ ho).mono ?_; rintro e w' ⟨rfl, rfl⟩)
        go_ret
        exact ⟨rfl, hr, h, Upd.refl _ _⟩
theorem rSeal_any (w : World) (bx bm : Nat) (n : Int) (m : Mp) (h : RMap w bx bm m) :
    Calls Try.prog 81 #[.pointer (some ⟨bx, 0, none⟩), .int .i64 n] w fun e w' => e = .returned (.int .i64 (sealR m n).1) ∧ RMap w' bx bm (sealR m n).2 ∧ Upd (fun k => k = bx) w w' := by
  cases ho : onB n with
  | false =>
    simp only [sealR, ho, Bool.false_eq_true, if_false]
    go_enter Try.func81, Try.ntmps81
    go_wp2_with (go_at_call 105; refine (on_is _ _ ho).mono ?_; rintro e w' ⟨rfl, rfl⟩)
    go_ret
    exact ⟨rfl, h, Upd.refl _ _⟩
  | true =>
    obtain ⟨h0, h1⟩ := (onB_iff n).1 ho
    obtain ⟨k, rfl⟩ := Int.eq_ofNat_of_zero_le h0
    have hk : k < 16 := by omega
    have c1 := h.th k hk
    have c2 := h.wr k hk
    have c3 := h.fz (17 + k * 3 + 1)
    cases ht : (m.lf k).there with
    | false =>
      simp only [sealR, ho, if_true, Int.toNat_natCast, ht, Bool.false_eq_true, if_false]
      rw [ht] at c1
      clear ht
      go_enter Try.func81, Try.ntmps81
      go_wp2_with (go_at_call 105; refine (on_is _ _ ho).mono ?_; rintro e w' ⟨rfl, rfl⟩)
      go_ret
      exact ⟨rfl, h, Upd.refl _ _⟩
    | true =>
      simp only [sealR, ho, if_true, Int.toNat_natCast, ht]
      rw [ht] at c1
      have h2 := h.setWr hk false
      simp only [ht] at h2
      have H2 : Hid _ := h2
      clear ht h2
      go_enter Try.func81, Try.ntmps81
      go_wp2_with (go_at_call 105; refine (on_is _ _ ho).mono ?_; rintro e w' ⟨rfl, rfl⟩)
      go_ret
      exact ⟨rfl, H2.out, Upd.one _ _ _ _⟩
end Go.Proofs.Ytadpibcgjgcjhaa
