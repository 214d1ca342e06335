/- The walk of undercrofttop.TopPool. -/
import Derived.Test.YtadpibcgjgcjhaaPart01
import Derived.Deep.DeepCutAuto
import Derived.Deep.LoopGhost
import Derived.Deep.CutBlock
import Derived.Deep.Slices
import Derived.ShutString
import Derived.ChangeOld
import Derived.Below
namespace Go.Proofs.Ytadpibcgjgcjhaa
open Go.ChangeShapes Go.WideShapes Go.ChangeAt Go.RowKit
set_option maxRecDepth 100000

theorem light_yes (w : World) (a : Option Addr) (len cap : Nat) (h : len ≤ 80) :
    Calls Try.prog 11 #[.slice a len cap, .int .i64 80] w fun e w' => e = .returned (.bool true) ∧ w' = w := by
  have hd : decide ((len : Int) ≤ 80) = true := by simp; omega
  go_enter Try.func11, Try.ntmps11
  go_wp2
  go_ret
  exact ⟨rfl, rfl⟩
theorem light_no (w : World) (a : Option Addr) (len cap : Nat) (h : 80 < len) :
    Calls Try.prog 11 #[.slice a len cap, .int .i64 80] w fun e w' => e = .returned (.bool false) ∧ w' = w := by
  have hd : decide ((len : Int) ≤ 80) = false := by simp; omega
  go_enter Try.func11, Try.ntmps11
  go_wp2
  go_ret
  exact ⟨rfl, rfl⟩

def zeroB : Array Value := Array.replicate 1024 (.int .u8 0)
def zeroR : Array Value := Array.replicate 64 (.int .i64 0)
theorem zero33 (w : World) : (zeroValue 33).run Try.prog w = .ok (.agg zeroB) w := by kernel_rfl
theorem zero34 (w : World) : (zeroValue 34).run Try.prog w = .ok (.agg zeroR) w := by kernel_rfl


/-- An act of a statement's input, and where it lies. -/
structure Ac where
  kind : ByteArray
  n : Int
  a : Int
  b : Int
  v : Int
  on : Bool
structure ActAt (w : World) (b o : Nat) (x : Ac) : Prop where
  c0 : w.cell? ⟨b, o, none⟩ = some (.string x.kind)
  c1 : w.cell? ⟨b, o + 1, none⟩ = some (.int .i64 x.n)
  c2 : w.cell? ⟨b, o + 2, none⟩ = some (.int .i64 x.a)
  c3 : w.cell? ⟨b, o + 3, none⟩ = some (.int .i64 x.b)
  c4 : w.cell? ⟨b, o + 4, none⟩ = some (.int .u8 x.v)
  c5 : w.cell? ⟨b, o + 5, none⟩ = some (.bool x.on)
def ActsAt (w : World) (a : Option Addr) (len : Nat) (acts : Nat → Ac) : Prop := ∀ k, k < len → ∃ b o, a = some ⟨b, o, none⟩ ∧ ActAt w b (o + k * 6) (acts k)
theorem ActAt.upd {S : Nat → Prop} {w w' : World} {b o : Nat} {x : Ac} (h : ActAt w b o x) (u : Upd S w w') (hb : ¬ S b) : ActAt w' b o x :=
  ⟨u.cell h.c0 hb, u.cell h.c1 hb, u.cell h.c2 hb, u.cell h.c3 hb, u.cell h.c4 hb, u.cell h.c5 hb⟩

/-- What holds in each round of TopPool: the pool is s, the law's own arrays say t. -/
structure TopI (W w : World) (n B : Nat) (s t : Pl) : Prop where
  pool : PoolAt w (W.heap.size + 1) W.heap.size s
  sn : s.n = n
  refs : ∀ f, f < n → w.cell? ⟨W.heap.size + 2 + 1, f, none⟩ = some (.int .i64 (t.refs f))
  byt : ∀ f i, f < n → i < 16 → w.cell? ⟨W.heap.size + 2, f * 16 + i, none⟩ = some (.int .u8 (t.byt f i))
  fz7 : ∀ o, w.frozen? ⟨W.heap.size + 2, o, none⟩ = false
  fz8 : ∀ o, w.frozen? ⟨W.heap.size + 2 + 1, o, none⟩ = false
  bd : ∀ f, f < n → s.refs f ≤ 1 + B
  upd : Upd (fun _ => False) W w
  sz : W.heap.size + 4 ≤ w.heap.size

theorem zeroB_get (i : Nat) (h : i < 1024) : zeroB[i]? = some (.int .u8 0) := by simp [zeroB, h]
theorem zeroR_get (i : Nat) (h : i < 64) : zeroR[i]? = some (.int .i64 0) := by simp [zeroR, h]
theorem TopI.start (W w : World) (n : Nat) (hn : n ≤ 64) (hp : PoolAt w (W.heap.size + 1) W.heap.size (pl0 n)) (hu : Upd (fun _ => False) W w) (hz : w.heap.size = W.heap.size + 2) :
    TopI W ((w.alloc (.cells zeroB 33)).alloc (.cells zeroR 34)) n 0 (pl0 n) (pl0 n) where
  pool := hp.upd (((Upd.refl (fun _ => False) w).alloc _).alloc _) (fun f => f) (fun f => f) (by omega)
  sn := rfl
  refs := fun f hf => by
    have := World.cell?_alloc_new (w.alloc (.cells zeroB 33)) zeroR 34 f
    simp only [World.size_alloc, hz] at this
    rw [this, zeroR_get f (by omega)]; rfl
  byt := fun f i hf hi => by
    rw [World.cell?_alloc_old _ _ _ (by simp [hz])]
    have := World.cell?_alloc_new w zeroB 33 (f * 16 + i)
    rw [hz] at this
    rw [this, zeroB_get _ (by omega)]; rfl
  fz7 := fun o => by
    rw [World.frozen?_alloc_old _ _ _ (by simp [hz])]
    have := World.frozen?_alloc_new w zeroB 33 o
    rw [hz] at this
    exact this
  fz8 := fun o => by
    have := World.frozen?_alloc_new (w.alloc (.cells zeroB 33)) zeroR 34 o
    simp only [World.size_alloc, hz] at this
    exact this
  bd := fun f _ => by simp [pl0]
  upd := (hu.alloc _).alloc _
  sz := by simp [hz]

/-- A call on the pool. -/
theorem TopI.call {W w w' : World} {n B B' : Nat} {s s' t : Pl} (h : TopI W w n B s t) (hp : PoolAt w' (W.heap.size + 1) W.heap.size s') (u : Upd (fun k => k = W.heap.size) w w') (hs : s'.n = n) (hb : ∀ f, f < n → s'.refs f ≤ 1 + B') :
    TopI W w' n B' s' t where
  pool := hp
  sn := hs
  refs := fun f hf => u.cell (h.refs f hf) (by show ¬ (W.heap.size + 2 + 1 = W.heap.size); omega)
  byt := fun f i hf hi => u.cell (h.byt f i hf hi) (by show ¬ (W.heap.size + 2 = W.heap.size); omega)
  fz7 := fun o => by rw [World.frozen?_of_block (w := w) (u.block (W.heap.size + 2) (by have := h.sz; omega) (by omega))]; exact h.fz7 o
  fz8 := fun o => by rw [World.frozen?_of_block (w := w) (u.block (W.heap.size + 2 + 1) (by have := h.sz; omega) (by omega))]; exact h.fz8 o
  bd := hb
  upd := h.upd.trans u (fun i hi e => by omega)
  sz := by have := h.sz; have := u.size; omega

/-- What turns nothing that was there. -/
theorem TopI.keep {W w w' : World} {n B : Nat} {s t : Pl} (h : TopI W w n B s t) (u : Upd (fun _ => False) w w') : TopI W w' n B s t :=
  h.call (h.pool.upd u (fun f => f) (fun f => f) (by have := h.sz; omega)) ⟨u.os, u.tape, u.output, u.size, fun k hk _ => u.block k hk (fun f => f)⟩ h.sn h.bd

theorem TopI.more {W w : World} {n B B' : Nat} {s t : Pl} (h : TopI W w n B s t) (hb : B ≤ B') : TopI W w n B' s t := { h with bd := fun f hf => by have := h.bd f hf; omega }

/-- A store into the law's own arrays. -/
theorem TopI.own {W w w' : World} {n B : Nat} {s t t' : Pl} (h : TopI W w n B s t) (u : Upd (fun k => k = W.heap.size + 2 ∨ k = W.heap.size + 2 + 1) w w')
    (hr : ∀ f, f < n → w'.cell? ⟨W.heap.size + 2 + 1, f, none⟩ = some (.int .i64 (t'.refs f))) (hb : ∀ f i, f < n → i < 16 → w'.cell? ⟨W.heap.size + 2, f * 16 + i, none⟩ = some (.int .u8 (t'.byt f i)))
    (hf : ∀ a, w'.frozen? a = w.frozen? a) : TopI W w' n B s t' where
  pool := h.pool.upd u (by omega) (by omega) (by have := h.sz; omega)
  sn := h.sn
  refs := hr
  byt := hb
  fz7 := fun o => by rw [hf]; exact h.fz7 o
  fz8 := fun o => by rw [hf]; exact h.fz8 o
  bd := h.bd
  upd := h.upd.trans u (fun i hi e => by omega)
  sz := by have := h.sz; have := u.size; omega

theorem TopI.setRef {W w : World} {n B : Nat} {s t : Pl} (h : TopI W w n B s t) {f : Nat} (hf : f < n) (v : Int) :
    TopI W (w.setCell ⟨W.heap.size + 2 + 1, f, none⟩ (.int .i64 v)) n B s { t with refs := setAt t.refs f v } := by
  refine h.own (Upd.setCell (Upd.refl _ _) _ (fun _ => Or.inr rfl) _) ?_ ?_ (fun a => by rw [World.frozen?_setCell])
  · intro g hg
    by_cases e : g = f
    · subst e; rw [World.cell?_setCell_same _ _ _ (h.refs g hg)]; simp [setAt]
    · rw [World.cell?_setCell_other _ _ _ _ (addr_ne (Or.inr (Ne.symm e))), h.refs g hg]; simp [setAt, e]
  · intro g i hg hi
    rw [World.cell?_setCell_other _ _ _ _ (addr_ne (Or.inl (by omega)))]; exact h.byt g i hg hi
theorem TopI.setByte {W w : World} {n B : Nat} {s t : Pl} (h : TopI W w n B s t) {f i : Nat} (hf : f < n) (hi : i < 16) (v : Int) :
    TopI W (w.setCell ⟨W.heap.size + 2, f * 16 + i, none⟩ (.int .u8 v)) n B s { t with byt := setAt t.byt f (setAt (t.byt f) i v) } := by
  refine h.own (Upd.setCell (Upd.refl _ _) _ (fun _ => Or.inl rfl) _) ?_ ?_ (fun a => by rw [World.frozen?_setCell])
  · intro g hg
    rw [World.cell?_setCell_other _ _ _ _ (addr_ne (Or.inl (by omega)))]; exact h.refs g hg
  · intro g j hg hj
    by_cases e : g = f
    · subst e
      by_cases e2 : j = i
      · subst e2; rw [World.cell?_setCell_same _ _ _ (h.byt g j hg hj)]; simp [setAt]
      · rw [World.cell?_setCell_other _ _ _ _ (addr_ne (Or.inr (by omega))), h.byt g j hg hj]; simp [setAt, e2]
    · rw [World.cell?_setCell_other _ _ _ _ (addr_ne (Or.inr (by omega))), h.byt g j hg hj]; simp [setAt, e]
theorem TopI.there {W w : World} {n B : Nat} {s t : Pl} (h : TopI W w n B s t) {f : Nat} (hf : f < n) : w.there (W.heap.size + 2) (f * 16) 16 := fun j hj =>
  ⟨by rw [h.byt f j hf hj]; rfl, h.fz7 _⟩
theorem TopI.setRow {W w : World} {n B : Nat} {s t : Pl} (h : TopI W w n B s t) {f : Nat} (hf : f < n) (g : Nat → Int) :
    TopI W (w.setCells (W.heap.size + 2) (f * 16) (rowOf g)) n B s { t with byt := setAt t.byt f g } := by
  refine h.own (Upd.setCells _ (fun _ => Or.inl rfl) _ _ (Upd.refl _ _)) ?_ ?_ (fun a => by rw [World.frozen?_setCells])
  · intro k hk
    rw [World.cell?_setCells_out _ _ _ _ _ (fun e _ => by simp only at e; omega)]; exact h.refs k hk
  · intro k j hk hj
    by_cases e : k = f
    · subst e
      have := World.rangeAt_setCells_same w (W.heap.size + 2) (k * 16) (rowOf g) (by rw [rowOf_length]; exact h.there hf) j _ (rowOf_get g j hj)
      rw [this]; simp [setAt]
    · rw [World.cell?_setCells_out _ _ _ _ _ (fun _ _ => by simp only [rowOf_length]; omega), h.byt k j hk hj]; simp [setAt, e]

/-- The box of an act. -/
structure BoxAt (w : World) (q : Nat) (x : Ac) : Prop where
  c0 : w.cell? ⟨q, 0, none⟩ = some (.string x.kind)
  c1 : w.cell? ⟨q, 1, none⟩ = some (.int .i64 x.n)
  c2 : w.cell? ⟨q, 2, none⟩ = some (.int .i64 x.a)
  c3 : w.cell? ⟨q, 3, none⟩ = some (.int .i64 x.b)
  c4 : w.cell? ⟨q, 4, none⟩ = some (.int .u8 x.v)
  c5 : w.cell? ⟨q, 5, none⟩ = some (.bool x.on)
theorem BoxAt.upd {S : Nat → Prop} {w w' : World} {q : Nat} {x : Ac} (h : BoxAt w q x) (u : Upd S w w') (hb : ¬ S q) : BoxAt w' q x :=
  ⟨u.cell h.c0 hb, u.cell h.c1 hb, u.cell h.c2 hb, u.cell h.c3 hb, u.cell h.c4 hb, u.cell h.c5 hb⟩
theorem BoxAt.new (w : World) (x : Ac) : BoxAt (w.alloc (.cells #[.string x.kind, .int .i64 x.n, .int .i64 x.a, .int .i64 x.b, .int .u8 x.v, .bool x.on] 38)) w.heap.size x :=
  ⟨by rw [World.cell?_alloc_new]; rfl, by rw [World.cell?_alloc_new]; rfl, by rw [World.cell?_alloc_new]; rfl, by rw [World.cell?_alloc_new]; rfl, by rw [World.cell?_alloc_new]; rfl, by rw [World.cell?_alloc_new]; rfl⟩

end Go.Proofs.Ytadpibcgjgcjhaa
/- The walk of undercrofttop.TopPool. -/
namespace Go.Proofs.Ytadpibcgjgcjhaa
open Go.ChangeShapes Go.WideShapes Go.ChangeAt Go.RowKit
set_option maxRecDepth 100000

theorem share_n (s : Pl) (f d : Int) : (s.share f d).2.n = s.n := by unfold Pl.share; split <;> rfl
theorem set_n (s : Pl) (f i v : Int) : (s.set f i v).2.n = s.n := by
  unfold Pl.set
  split
  · rfl
  · split
    · split <;> rfl
    · rfl
theorem get_ok (w : World) (bp bf : Nat) (f : Nat) (i : Int) (s : Pl) (h : PoolAt w bp bf s) (hu : s.used f = true) (h0 : 0 ≤ i) (h1 : i < 16) :
    Calls Try.prog 19 #[.pointer (some ⟨bp, 0, none⟩), .int .i64 f, .int .i64 i] w fun e w' => e = .returned (.tuple #[.int .u8 (s.byt f i.toNat), .nilIface]) ∧ w' = w := by
  have g := get_any w bp bf f i s h
  have e : s.get f i = (s.byt f i.toNat, 0) := by
    unfold Pl.get
    rw [if_neg (by omega), if_pos hu, Int.toNat_natCast]
  rw [e] at g
  simpa only [errV_zero] using g
theorem left_to (w : World) (bp bf m : Nat) (s : Pl) (h : PoolAt w bp bf s) (hm : s.n = m) :
    Calls Try.prog 29 #[.pointer (some ⟨bp, 0, none⟩)] w fun e w' => e = .returned (.int .i64 (freeTo s.refs m)) ∧ w' = w := by
  subst hm
  exact left_any w bp bf s h
theorem share_ok (w : World) (bp bf : Nat) (f : Int) (s : Pl) (h : PoolAt w bp bf s) (hm : ∀ k, k < s.n → s.refs k ≤ 1000000) (hu : s.used f = true) :
    Calls Try.prog 16 #[.pointer (some ⟨bp, 0, none⟩), .int .i64 f] w fun e w' => e = .returned .nilIface ∧ PoolAt w' bp bf { s with refs := setAt s.refs f.toNat (s.refs f.toNat + 1) } ∧ Upd (fun k => k = bf) w w' := by
  have g := share_any w bp bf f s h hm
  simpa only [Pl.share, hu, if_true, errV_zero] using g
theorem drop_ok (w : World) (bp bf : Nat) (f : Int) (s : Pl) (h : PoolAt w bp bf s) (hm : ∀ k, k < s.n → s.refs k ≤ 1000000) (hu : s.used f = true) :
    Calls Try.prog 18 #[.pointer (some ⟨bp, 0, none⟩), .int .i64 f] w fun e w' => e = .returned .nilIface ∧ PoolAt w' bp bf { s with refs := setAt s.refs f.toNat (s.refs f.toNat + -1) } ∧ Upd (fun k => k = bf) w w' := by
  have g := drop_any w bp bf f s h hm
  simpa only [Pl.share, hu, if_true, errV_zero] using g
theorem set_ok (w : World) (bp bf : Nat) (f i v : Int) (s : Pl) (h : PoolAt w bp bf s) (i0 : 0 ≤ i) (i1 : i ≤ 15) (hu : s.used f = true) (hr : s.refs f.toNat ≤ 1) :
    Calls Try.prog 21 #[.pointer (some ⟨bp, 0, none⟩), .int .i64 f, .int .i64 i, .int .u8 v] w fun e w' => e = .returned .nilIface ∧ PoolAt w' bp bf { s with byt := setAt s.byt f.toNat (setAt (s.byt f.toNat) i.toNat v) } ∧ Upd (fun k => k = bf) w w' := by
  have g := set_any w bp bf f i v s h
  have n1 : ¬ (i < 0 ∨ 15 < i) := by omega
  have n2 : ¬ 1 < s.refs f.toNat := by omega
  simpa only [Pl.set, hu, n1, n2, if_true, if_false, errV_zero] using g
theorem set_bad (w : World) (bp bf : Nat) (f i v : Int) (s : Pl) (h : PoolAt w bp bf s) (hb : ¬ (0 ≤ i ∧ i ≤ 15 ∧ s.used f = true ∧ s.refs f.toNat ≤ 1)) :
    Calls Try.prog 21 #[.pointer (some ⟨bp, 0, none⟩), .int .i64 f, .int .i64 i, .int .u8 v] w fun e w' => (∃ c, e = .returned (.iface 110 (.int .i64 c))) ∧ w' = w := by
  by_cases hi : i < 0 ∨ 15 < i
  · refine (set_bound w bp f i v hi).mono ?_
    rintro e w' ⟨rfl, rfl⟩
    exact ⟨⟨_, rfl⟩, rfl⟩
  · have i0 : 0 ≤ i := by omega
    have i1 : i ≤ 15 := by omega
    cases hu : s.used f with
    | false =>
      refine (set_none w bp bf f i v s h i0 i1 hu).mono ?_
      rintro e w' ⟨rfl, rfl⟩
      exact ⟨⟨_, rfl⟩, rfl⟩
    | true =>
      refine (set_held w bp bf f i v s h i0 i1 hu ?_).mono ?_
      · by_cases hr : s.refs f.toNat ≤ 1
        · exact absurd ⟨i0, i1, hu, hr⟩ hb
        · omega
      · rintro e w' ⟨rfl, rfl⟩
        exact ⟨⟨_, rfl⟩, rfl⟩
theorem take_ok (w : World) (bp bf j : Nat) (s : Pl) (h : PoolAt w bp bf s) (hj : j < s.n) (h0 : s.refs j = 0) (hr : ∀ i, i < j → s.refs i ≠ 0) :
    Calls Try.prog 14 #[.pointer (some ⟨bp, 0, none⟩)] w fun e w' => e = .returned (.tuple #[.int .i64 j, .nilIface]) ∧ PoolAt w' bp bf { s with refs := setAt s.refs j 1, byt := setAt s.byt j fun _ => 0 } ∧ Upd (fun k => k = bf) w w' := by
  refine (take_at w bp bf j s h hj h0 hr).mono ?_
  rintro e w' ⟨rfl, rfl⟩
  refine ⟨rfl, ?_, (Upd.row _ _ _ _).trans (Upd.one _ _ _ _) (fun _ _ e => e)⟩
  exact (h.setRow (f := j) hj (fun _ => 0)).setRef (f := j) hj (by omega)
theorem freeTo_zero (refs : Nat → Int) : ∀ m, (∀ i, i < m → refs i ≠ 0) → freeTo refs m = 0
  | 0, _ => rfl
  | m + 1, h => by
    simp only [freeTo]
    rw [freeTo_zero refs m (fun i hi => h i (by omega)), if_neg (h m (by omega))]
theorem setAt_le {refs : Nat → Int} {j : Nat} {v : Int} {n : Nat} {B : Int} (h : ∀ f, f < n → refs f ≤ B) (hv : v ≤ B) : ∀ f, f < n → setAt refs j v f ≤ B := by
  intro f hf
  by_cases e : f = j
  · subst e; simpa [setAt] using hv
  · simpa [setAt, e] using h f hf
theorem left_none (w : World) (bp bf : Nat) (s : Pl) (h : PoolAt w bp bf s) (hr : ∀ i, i < s.n → s.refs i ≠ 0) :
    Calls Try.prog 29 #[.pointer (some ⟨bp, 0, none⟩)] w fun e w' => e = .returned (.int .i64 0) ∧ w' = w := by
  have g := left_any w bp bf s h
  unfold Pl.left at g
  rw [freeTo_zero _ _ hr] at g
  exact g
theorem zeroRow_eq : (rowOf fun _ => 0).toArray = #[.int .u8 0, .int .u8 0, .int .u8 0, .int .u8 0, .int .u8 0, .int .u8 0, .int .u8 0, .int .u8 0, .int .u8 0, .int .u8 0, .int .u8 0, .int .u8 0, .int .u8 0, .int .u8 0, .int .u8 0, .int .u8 0] := rfl
theorem info32 : (Try.prog.info? 32).map (·.size) = some 16 := by kernel_rfl
theorem wpList_zeroRow {ops : Array Oper} {rest : List Oper} {op : Oper} {a : Act} {w : World} {Q : Exit → Act → World → Prop} (hgd : op.guard = none) (x y : Operand) (ho : op.op = .store 32 x y)
    (b o : Nat) (hx : a.eval x = .pointer (some ⟨b, o, none⟩)) (hy : a.eval y = .agg #[.int .u8 0, .int .u8 0, .int .u8 0, .int .u8 0, .int .u8 0, .int .u8 0, .int .u8 0, .int .u8 0, .int .u8 0, .int .u8 0, .int .u8 0, .int .u8 0, .int .u8 0, .int .u8 0, .int .u8 0, .int .u8 0])
    (ht : w.there b o 16) (h : wpList Try.prog ops Q rest (a.put op.dst undef) (w.setCells b o (rowOf fun _ => 0))) : wpList Try.prog ops Q (op :: rest) a w :=
  wpList_store_mid hgd 32 x y ho b o (rowOf fun _ => 0).toArray hx (by rw [zeroRow_eq]; exact hy) ht info32 (all_oneCell_toArray (rowOf_one _)) h
theorem take_n (s : Pl) : s.take.2.2.n = s.n := by unfold Pl.take; split <;> rfl

set_option maxRecDepth 100000 in
set_option maxHeartbeats 2000000 in
theorem top_walk (W : World) (n : Nat) (a : Option Addr) (len cap : Nat) (acts : Nat → Ac) (hn : 1 ≤ n) (hn2 : n ≤ 64) (hl : len ≤ 80) (hacts : ActsAt W a len acts) :
    Calls Try.prog 4 #[.int .i64 n, .slice a len cap] W fun e w' => e = .returned (.bool true) ∧ Upd (fun _ => False) W w' := by
  have z1 := zero33
  have z2 := zero34
  have HA : Hid _ := hacts
  clear hacts
  go_enter Try.func4, Try.ntmps4
  go_wp2_with fail
  refine (new_any _ n hn hn2).mono ?_
  rintro e w1 ⟨rfl, hp, hu, hz⟩
  go_wp2_with fail
  refine (light_yes _ _ _ _ hl).mono ?_
  rintro e w2 ⟨rfl, rfl⟩
  go_wp2_with fail
  go_loopg [9] len (fun g i w => ∃ k s, k + g = len ∧ i = .int .i64 (k : Nat) ∧ TopI W w n k s s)
  case atStart => exact ⟨0, pl0 n, by omega, rfl, TopI.start W w2 n hn2 hp hu hz⟩
  case round =>
    obtain ⟨k, s, hk, rfl, hI⟩ := hrel
    clear hp hu hz z1 z2
    have HK : Hid _ := hk
    by_cases hlt : k < len
    · clear hk
      obtain ⟨b, o, rfl, hx⟩ := HA.out k hlt
      clear HA
      generalize acts k = x at hx
      have hx' := hx.upd hI.upd (fun f => f)
      obtain ⟨x1, x2, x3, x4, x5, x6⟩ := hx'
      clear hx
      go_upto_block 2 with fail
      clear x1 x2 x3 x4 x5 x6
      have hB := BoxAt.new wr x
      have hJ := hI.keep ((Upd.refl _ _).alloc (.cells #[.string x.kind, .int .i64 x.n, .int .i64 x.a, .int .i64 x.b, .int .u8 x.v, .bool x.on] 38))
      have hq := hI.sz
      revert hB hJ hq
      generalize wr.alloc (.cells #[.string x.kind, .int .i64 x.n, .int .i64 x.a, .int .i64 x.b, .int .u8 x.v, .bool x.on] 38) = W1
      generalize wr.heap.size = q
      intro hB hJ hq
      clear hI
      go_cut [10] (fun s10 wc => ∃ s', TopI W wc n (k + 1) s' s')
      case first =>
        have hm : ∀ f, f < s.n → s.refs f ≤ 1000000 := fun f hf => by have := hJ.bd f (by rw [← hJ.sn]; exact hf); omega
        have hbd : ∀ f, f < n → s.refs f ≤ 1 + ((k + 1 : Nat) : Int) := fun f hf => by have := hJ.bd f hf; omega
        by_cases k1 : (x.kind.toList == [116, 97, 107, 101]) = true
        · have hs := firstFrom_spec s.refs s.n 0
          revert hs
          cases firstFrom s.refs 0 s.n with
          | none =>
            intro hs
            have HS : Hid _ := hs
            clear hs
            go_wp2_with fail
            refine (take_full _ _ _ s hJ.pool (fun i hi => HS.out i (by omega) (by omega))).mono ?_
            rintro e w3 ⟨rfl, rfl⟩
            go_wp2_with fail
            refine (left_none _ _ _ s hJ.pool (fun i hi => HS.out i (by omega) (by omega))).mono ?_
            rintro e w3 ⟨rfl, rfl⟩
            go_wp2_with fail
            go_roundg (len - (k + 1))
            case rel => exact ⟨k + 1, s, by omega, by go_num, hJ.more (by omega)⟩
            case measure => have := HK.out; omega
          | some j =>
            rintro ⟨_, h2, h3, h4⟩
            have hjn : j < n := by rw [← hJ.sn]; omega
            have jn : (j : Int) < 64 := by omega
            have b1 : (s.refs j != 0) = false := by simp [h3]
            have HS : Hid _ := h4
            have H3 : Hid _ := h3
            clear h4 h3
            go_wp2_with fail
            refine (take_ok _ _ _ j s hJ.pool (by omega) H3.out (fun i hi => HS.out i (by omega) hi)).mono ?_
            rintro e w3 ⟨rfl, hp3, hu3⟩
            have h5 : TopI W w3 n (k + 1) _ s := hJ.call hp3 hu3 hJ.sn (setAt_le hbd (by omega))
            have c1 := h5.refs j hjn
            have c2 := h5.fz8 j
            have h6 := h5.setRef hjn 1
            have h7 := h6.setRow hjn (fun _ => 0)
            have ht := h6.there hjn
            clear hp3 hu3 h5 h6
            go_wp2_with (refine wpList_zeroRow (by rfl) _ _ (by rfl) (W.heap.size + 2) (j * 16) (by rfl) (by rfl) ht ?_)
            go_meet
            case rel => exact ⟨_, h7⟩
        · have k1' : (x.kind.toList == [116, 97, 107, 101]) = false := by simpa using k1
          clear k1
          by_cases k2 : (x.kind.toList == [115, 104, 97, 114, 101]) = true
          · have c2 := hB.c2
            cases hu : s.used x.a with
            | false =>
              go_wp2_with fail
              refine (share_no _ _ _ _ s hJ.pool hu).mono ?_
              rintro e w3 ⟨rfl, rfl⟩
              go_wp2_with fail
              go_meet
              case rel => exact ⟨s, hJ.more (by omega)⟩
            | true =>
              obtain ⟨u0, u1, _⟩ := (s.used_iff x.a).1 hu
              have hfn : x.a.toNat < n := by have := hJ.sn; omega
              have i1 : x.a < 64 := by omega
              have hb0 := hJ.bd x.a.toNat hfn
              have hn0 := hJ.pool.nn x.a.toNat (by rw [hJ.sn]; exact hfn)
              go_wp2_with fail
              refine (share_ok _ _ _ _ s hJ.pool hm hu).mono ?_
              rintro e w3 ⟨rfl, hp3, hu3⟩
              have h5 : TopI W w3 n (k + 1) _ s := hJ.call hp3 hu3 hJ.sn (setAt_le hbd (by omega))
              have c3 := (hB.upd hu3 (by omega)).c2
              have c4 := h5.refs x.a.toNat hfn
              have c5 := h5.fz8 x.a.toNat
              have h6 := h5.setRef hfn (s.refs x.a.toNat + 1)
              clear hp3 hu3 h5
              go_wp2_with fail
              go_meet
              case rel => exact ⟨_, h6⟩
          · have k2' : (x.kind.toList == [115, 104, 97, 114, 101]) = false := by simpa using k2
            clear k2
            by_cases k3 : (x.kind.toList == [100, 114, 111, 112]) = true
            · have c2 := hB.c2
              cases hu : s.used x.a with
              | false =>
                go_wp2_with fail
                refine (drop_no _ _ _ _ s hJ.pool hu).mono ?_
                rintro e w3 ⟨rfl, rfl⟩
                go_wp2_with fail
                go_meet
                case rel => exact ⟨s, hJ.more (by omega)⟩
              | true =>
                obtain ⟨u0, u1, _⟩ := (s.used_iff x.a).1 hu
                have hfn : x.a.toNat < n := by have := hJ.sn; omega
                have i1 : x.a < 64 := by omega
                have hb0 := hJ.bd x.a.toNat hfn
                have hn0 := hJ.pool.nn x.a.toNat (by rw [hJ.sn]; exact hfn)
                go_wp2_with fail
                refine (drop_ok _ _ _ _ s hJ.pool hm hu).mono ?_
                rintro e w3 ⟨rfl, hp3, hu3⟩
                have h5 : TopI W w3 n (k + 1) _ s := hJ.call hp3 hu3 hJ.sn (setAt_le hbd (by omega))
                have c3 := (hB.upd hu3 (by omega)).c2
                have c4 := h5.refs x.a.toNat hfn
                have c5 := h5.fz8 x.a.toNat
                have h6 := h5.setRef hfn (s.refs x.a.toNat + -1)
                clear hp3 hu3 h5
                go_wp2_with fail
                go_meet
                case rel => exact ⟨_, h6⟩
            · have k3' : (x.kind.toList == [100, 114, 111, 112]) = false := by simpa using k3
              clear k3
              have c2 := hB.c2
              have c3 := hB.c3
              have c4 := hB.c4
              by_cases hb : 0 ≤ x.b ∧ x.b ≤ 15 ∧ s.used x.a = true ∧ s.refs x.a.toNat ≤ 1
              · obtain ⟨i0, i1, hu, hr⟩ := hb
                obtain ⟨u0, u1, u2⟩ := (s.used_iff x.a).1 hu
                have hfn : x.a.toNat < n := by have := hJ.sn; omega
                have i1 : x.a < 64 := by omega
                have i2 : x.b < 16 := by omega
                have hn0 := hJ.pool.nn x.a.toNat (by rw [hJ.sn]; exact hfn)
                have hr1 : (s.refs x.a.toNat != 1) = false := by simp; omega
                clear u2
                go_wp2_with fail
                refine (set_ok _ _ _ _ _ _ s hJ.pool i0 (by omega) hu hr).mono ?_
                rintro e w3 ⟨rfl, hp3, hu3⟩
                have h5 : TopI W w3 n (k + 1) _ s := hJ.call hp3 hu3 hJ.sn hbd
                have hB3 := hB.upd hu3 (by omega)
                have d2 := hB3.c2
                have d3 := hB3.c3
                have d4 := hB3.c4
                have d5 := h5.refs x.a.toNat hfn
                have d6 := h5.byt x.a.toNat x.b.toNat hfn (by omega)
                have d7 := h5.fz7 (x.a.toNat * 16 + x.b.toNat)
                have h6 := h5.setByte (i := x.b.toNat) hfn (by omega) x.v
                clear hp3 hu3 h5 hB3 c2 c3 c4
                go_wp2_with fail
                have ne : ∀ o1 o2 : Nat, (⟨W.heap.size + 2, o1, none⟩ : Addr) ≠ ⟨q, o2, none⟩ := fun _ _ => addr_ne (Or.inl (by omega))
                have e2 : (w3.setCell ⟨W.heap.size + 2, x.a.toNat * 16 + x.b.toNat, none⟩ (.int .u8 x.v)).cell? ⟨q, 2, none⟩ = some (.int .i64 x.a) := by rw [World.cell?_setCell_other _ _ _ _ (ne _ _)]; exact d2
                have e3 : (w3.setCell ⟨W.heap.size + 2, x.a.toNat * 16 + x.b.toNat, none⟩ (.int .u8 x.v)).cell? ⟨q, 3, none⟩ = some (.int .i64 x.b) := by rw [World.cell?_setCell_other _ _ _ _ (ne _ _)]; exact d3
                have e4 : (w3.setCell ⟨W.heap.size + 2, x.a.toNat * 16 + x.b.toNat, none⟩ (.int .u8 x.v)).cell? ⟨q, 4, none⟩ = some (.int .u8 x.v) := by rw [World.cell?_setCell_other _ _ _ _ (ne _ _)]; exact d4
                go_region_held3 (fun w' => w'.cell? ⟨q, 2, none⟩ = some (.int .i64 x.a) ∧ w'.cell? ⟨q, 3, none⟩ = some (.int .i64 x.b) ∧ w'.cell? ⟨q, 4, none⟩ = some (.int .u8 x.v)) (first | go_keep | (exact ⟨e2, e3, e4⟩)) (fail)
                go_wp2_with fail
                go_meet
                case rel => exact ⟨_, h6.keep (Upd.refl _ _).drew⟩
              · go_wp2_with fail
                refine (set_bad _ _ _ _ _ _ s hJ.pool hb).mono ?_
                rintro e w3 ⟨⟨c, rfl⟩, rfl⟩
                go_wp2_with fail
                go_meet
                case rel => exact ⟨s, hJ.more (by omega)⟩
      case rest =>
        obtain ⟨s', hT⟩ := hcut
        clear hB hJ hq W1 q
        go_wp2_with fail
        go_loopg [13, 14] n (fun g free f wi => ∃ j : Nat, j + g = n ∧ f = .int .i64 j ∧ free = .int .i64 (freeTo s'.refs j) ∧ TopI W wi n (k + 1) s' s')
        case atStart => exact ⟨0, by omega, rfl, rfl, hT⟩
        case round =>
          obtain ⟨j, hj, rfl, rfl, hI⟩ := hrel
          clear hT
          have HJ : Hid _ := hj
          clear hj
          by_cases hjn : j < n
          · go_wp2_with fail
            refine (of_yes _ _ _ j s' hI.pool (by rw [hI.sn]; exact hjn)).mono ?_
            rintro e w3 ⟨rfl, hu3⟩
            have h3 := hI.keep hu3
            clear hI hu3
            go_wp2_with fail
            have d1 : (w3.alloc (.cells #[.int .i64 (classOf (s'.refs j)), .int .i64 (s'.refs j)] 58)).cell? ⟨w3.heap.size, 1, none⟩ = some (.int .i64 (s'.refs j)) := by rw [World.cell?_alloc_new]; rfl
            have h4 := h3.keep ((Upd.refl _ _).alloc (.cells #[.int .i64 (classOf (s'.refs j)), .int .i64 (s'.refs j)] 58))
            clear h3
            revert d1 h4
            generalize w3.alloc (.cells #[.int .i64 (classOf (s'.refs j)), .int .i64 (s'.refs j)] 58) = W3
            generalize w3.heap.size = q3
            intro d1 h4
            have c1 := h4.refs j hjn
            have b1 : (s'.refs j != s'.refs j) = false := by simp
            have jn : (j : Int) < 64 := by omega
            go_quiet (fail)
            have h5 : TopI W (W3.drewN nq) n (k + 1) s' s' := h4.keep ((Upd.refl _ _).drewN nq)
            have c2 := h5.refs j hjn
            clear d1 h4 c1
            generalize W3.drewN nq = W5 at h5 c2
            have hle := freeTo_le s'.refs j
            have hs : freeTo s'.refs (j + 1) = freeTo s'.refs j + if s'.refs j = 0 then 1 else 0 := rfl
            by_cases hr : s'.refs j = 0
            · rw [if_pos hr] at hs
              have HS : Hid _ := hs
              have hr' : (s'.refs j == 0) = true := by simp [hr]
              clear hs hr
              go_wp2_with fail
              go_roundg (n - (j + 1))
              case rel => exact ⟨j + 1, by omega, by go_num, by rw [HS.out]; go_num, h5⟩
              case measure => have := HJ.out; omega
            · rw [if_neg hr] at hs
              have HS : Hid _ := hs
              have hr' : (s'.refs j == 0) = false := by simp [hr]
              have hu : s'.used j = true := by simp [Pl.used, hr, h5.sn]; omega
              have c3 := h5.byt j (k % 16) hjn (by omega)
              have k0 : 0 ≤ (k : Int) % 16 := by omega
              have k1 : (k : Int) % 16 < 16 := by omega
              have b2 : (s'.byt j (k % 16) != s'.byt j (k % 16)) = false := by simp
              clear hs hr
              go_wp2_with fail
              refine (get_ok _ _ _ j _ s' h5.pool hu k0 k1).mono ?_
              rintro e w6 ⟨rfl, rfl⟩
              go_wp2_with fail
              go_roundg (n - (j + 1))
              case rel => exact ⟨j + 1, by omega, by go_num, by rw [HS.out]; go_num, h5⟩
              case measure => have := HJ.out; omega
          · have e : j = n := by have := HJ.out; omega
            subst e
            have b3 : ((freeTo s'.refs j : Int) != (freeTo s'.refs j : Int)) = false := by simp
            go_wp2_with fail
            refine (left_to _ _ _ j s' hI.pool hI.sn).mono ?_
            rintro e w6 ⟨rfl, rfl⟩
            go_wp2_with fail
            go_roundg (len - (k + 1))
            case rel => exact ⟨k + 1, s', by omega, by go_num, hI⟩
            case measure => have := HK.out; omega
    · go_wp2_with fail
      go_ret
      exact ⟨rfl, hI.upd⟩

set_option maxRecDepth 100000 in
theorem top_out (W : World) (n : Int) (a : Option Addr) (len cap : Nat) (hn : n < 1 ∨ 64 < n) :
    Calls Try.prog 4 #[.int .i64 n, .slice a len cap] W fun e w' => e = .returned (.bool true) ∧ Upd (fun _ => False) W w' := by
  rcases hn with h | h
  · have hd : decide (n < 1) = true := by simp; omega
    go_enter Try.func4, Try.ntmps4
    go_wp2_with (go_at_call 12; refine (new_no _ _ (Or.inl h)).mono ?_; rintro e w' ⟨rfl, rfl⟩)
    go_ret
    exact ⟨rfl, Upd.refl _ _⟩
  · have hd : decide (n < 1) = false := by simp; omega
    have hd2 : decide (64 < n) = true := by simp; omega
    go_enter Try.func4, Try.ntmps4
    go_wp2_with (go_at_call 12; refine (new_no _ _ (Or.inr h)).mono ?_; rintro e w' ⟨rfl, rfl⟩)
    go_ret
    exact ⟨rfl, Upd.refl _ _⟩
set_option maxRecDepth 100000 in
theorem top_long (W : World) (n : Nat) (a : Option Addr) (len cap : Nat) (hn : 1 ≤ n) (hn2 : n ≤ 64) (hl : 80 < len) (hm : len ≤ maxLen) :
    Calls Try.prog 4 #[.int .i64 n, .slice a len cap] W fun e w' => e = .returned (.bool true) ∧ Upd (fun _ => False) W w' := by
  unfold maxLen at hm
  have hd : decide ((n : Int) < 1) = false := by simp; omega
  have hd2 : decide (64 < (n : Int)) = false := by simp; omega
  have hd3 : decide (80 < (len : Int)) = true := by simp; omega
  go_enter Try.func4, Try.ntmps4
  go_wp2_with fail
  refine (new_any _ n hn hn2).mono ?_
  rintro e w1 ⟨rfl, hp, hu, hz⟩
  go_wp2_with fail
  refine (light_no _ _ _ _ hl).mono ?_
  rintro e w2 ⟨rfl, rfl⟩
  go_wp2_with fail
  go_ret
  exact ⟨rfl, hu⟩
end Go.Proofs.Ytadpibcgjgcjhaa
/- How a list of acts that came in lies in memory: what each statement over acts is told of its argument. -/
namespace Go.Proofs.Ytadpibcgjgcjhaa
open Go.ChangeShapes Go.WideShapes Go.ChangeAt Go.RowKit Go.Deep
set_option maxRecDepth 100000

theorem cells38 : Try.prog.cellsOf 38 = 6 := by kernel_rfl
theorem cells3 : Try.prog.cellsOf 3 = 1 := by kernel_rfl
theorem cells4 : Try.prog.cellsOf 4 = 1 := by kernel_rfl
theorem cells5 : Try.prog.cellsOf 5 = 1 := by kernel_rfl
theorem cells9 : Try.prog.cellsOf 9 = 1 := by kernel_rfl

theorem act_of {H : Type} {enc : TypeId × Value → H} {W : World} {base n : Nat} {sp : Nat → Bool} {held : Bool} {cs : List Value} {y : DataW H × List MemPlace}
    (h : DataW.trod enc Try.prog W base sp held n 38 cs = some y) :
    ∃ x : Ac, cs = [.string x.kind, .int .i64 x.n, .int .i64 x.a, .int .i64 x.b, .int .u8 x.v, .bool x.on] ∧ (Lit.int .u8 x.v).wf = true := by
  obtain ⟨xs, m, _, _, hl, hlen, hf⟩ := DataW.trod_struct Try.underlying38 h
  rw [cells38] at hl
  have hx : xs.length = 6 := hlen
  match cs, hl, xs, hx with
  | [c0, c1, c2, c3, c4, c5], _, [y0, y1, y2, y3, y4, y5], _ =>
    have g0 := hf 0 _ rfl
    have g1 := hf 1 _ rfl
    have g2 := hf 2 _ rfl
    have g3 := hf 3 _ rfl
    have g4 := hf 4 _ rfl
    have g5 := hf 5 _ rfl
    simp [cells3, cells4, cells5, cells9] at g0 g1 g2 g3 g4 g5
    obtain ⟨s, e0, _, _⟩ := DataW.trod_string Try.underlying9 g0
    obtain ⟨i1, e1, _, _⟩ := DataW.trod_int Try.underlying3 g1
    obtain ⟨i2, e2, _, _⟩ := DataW.trod_int Try.underlying3 g2
    obtain ⟨i3, e3, _, _⟩ := DataW.trod_int Try.underlying3 g3
    obtain ⟨i4, e4, _, w4⟩ := DataW.trod_int Try.underlying5 g4
    obtain ⟨b5, e5, _⟩ := DataW.trod_bool Try.underlying4 g5
    simp at e0 e1 e2 e3 e4 e5
    subst e0 e1 e2 e3 e4 e5
    exact ⟨⟨s, i1, i2, i3, i4, b5⟩, rfl, w4⟩

theorem acts_of {H : Type} {enc : TypeId × Value → H} {W : World} {a : Option Addr} {len cap : Nat} {d : DataW H} {ps : List MemPlace}
    (h : DataW.Trod enc Try.prog W 0 (fun _ => true) true 22 (.slice a len cap) d ps) : ∃ acts, ActsAt W a len acts ∧ (∀ k, k < len → (Lit.int .u8 (acts k).v).wf = true) ∧ len ≤ maxLen := by
  obtain ⟨fuel, hf⟩ := h
  rcases open_slice Try.underlying22 hf with ⟨hcs, _⟩ | ⟨x, l, c, m, n, D, Pl, hcs, _, hl, hm, hmm, _, hx⟩
  · simp [Value.cells] at hcs
    obtain ⟨rfl, rfl, rfl⟩ := hcs
    exact ⟨fun _ => ⟨⟨#[]⟩, 0, 0, 0, 0, false⟩, fun k hk => absurd hk (by omega), fun k hk => absurd hk (by omega), by omega⟩
  · simp [Value.cells] at hcs
    obtain ⟨rfl, rfl, rfl⟩ := hcs
    simp at hmm
    subst hmm
    rw [cells38] at hx
    obtain ⟨b, off, spot⟩ := x
    have hspot : 0 < len → spot = none := by
      intro h
      obtain ⟨cs', h1, h2⟩ := hx 0 (by omega)
      obtain ⟨y, rfl, hw⟩ := act_of h2
      obtain ⟨_, _, h3⟩ := World.cells?_some h1
      have h30 := h3 0 (by omega)
      simpa [Addr.add] using World.cell?_spot h30
    have each : ∀ i, i < len → ∃ y : Ac, ActAt W b (off + i * 6) y ∧ (Lit.int .u8 y.v).wf = true ∧ spot = none := by
      intro i hi
      obtain ⟨cs', h1, h2⟩ := hx i (by omega)
      obtain ⟨y, rfl, hw⟩ := act_of h2
      obtain ⟨_, _, h3⟩ := World.cells?_some h1
      obtain rfl := hspot (by omega)
      have e : ∀ j, (((⟨b, off, none⟩ : Addr).add (i * 6)).add j) = ⟨b, off + i * 6 + j, none⟩ := fun j => by rw [Addr.add_mid, Addr.add_mid]
      simp only [e] at h3
      exact ⟨y, ⟨by simpa using h3 0 (by omega), by simpa using h3 1 (by omega), by simpa using h3 2 (by omega), by simpa using h3 3 (by omega), by simpa using h3 4 (by omega), by simpa using h3 5 (by omega)⟩, hw, rfl⟩
    let acts : Nat → Ac := fun i => if h : i < len then (each i h).choose else ⟨⟨#[]⟩, 0, 0, 0, 0, false⟩
    have ha : ∀ i (h : i < len), acts i = (each i h).choose := fun i h => by simp [acts, h]
    refine ⟨acts, fun i hi => ?_, fun i hi => ?_, by omega⟩
    · obtain ⟨g1, g2, g3⟩ := (each i hi).choose_spec
      subst g3
      exact ⟨b, off, rfl, by rw [ha i hi]; exact g1⟩
    · rw [ha i hi]; exact (each i hi).choose_spec.2.1
end Go.Proofs.Ytadpibcgjgcjhaa
