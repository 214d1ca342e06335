/- What a pool of frames is in memory, and what a call may turn. -/
import Derived.Test.YtadpibcgjgcjhabGreatDoorRows
import Derived.WalkKit
import Derived.ProofKit
import Derived.OpenShut
import Derived.Deep.QuietTactic
import Derived.BigQuiet
import Derived.Deep.MidRow
import Derived.Deep.RegionHeld3
import Derived.Deep.DrawnRows
import Derived.Lib.SliceRun
namespace Go.Proofs.YtadpibcgjgcjhabGreatDoor
open Go.ChangeShapes Go.WideShapes Go.ChangeAt Go.RowKit
set_option maxRecDepth 100000

/-- The state of a pool: how many frames; of each how many pages are in it, and its bytes. -/
structure Pl where
  n : Nat
  refs : Nat → Int
  byt : Nat → Nat → Int

def setAt {α : Type} (g : Nat → α) (k : Nat) (v : α) : Nat → α := fun i => if i = k then v else g i
theorem setAt_same {α : Type} (g : Nat → α) (k : Nat) (v : α) : setAt g k v k = v := by simp [setAt]
theorem setAt_other {α : Type} (g : Nat → α) (k i : Nat) (v : α) (h : i ≠ k) : setAt g k v i = g i := by simp [setAt, h]

/-- Is it a frame in which is a page? -/
def Pl.used (s : Pl) (f : Int) : Bool := decide (0 ≤ f) && decide (f < s.n) && !(s.refs f.toNat == 0)
theorem Pl.used_iff (s : Pl) (f : Int) : s.used f = true ↔ 0 ≤ f ∧ f < s.n ∧ s.refs f.toNat ≠ 0 := by simp [Pl.used, and_assoc]
def Pl.share (s : Pl) (f by' : Int) : Int × Pl := if s.used f then (0, { s with refs := setAt s.refs f.toNat (s.refs f.toNat + by') }) else (2, s)
def Pl.get (s : Pl) (f at' : Int) : Int × Int := if at' < 0 ∨ 15 < at' then (0, 1) else if s.used f then (s.byt f.toNat at'.toNat, 0) else (0, 2)
def Pl.set (s : Pl) (f at' v : Int) : Int × Pl :=
  if at' < 0 ∨ 15 < at' then (1, s) else if s.used f then (if 1 < s.refs f.toNat then (4, s) else (0, { s with byt := setAt s.byt f.toNat (setAt (s.byt f.toNat) at'.toNat v) })) else (2, s)
def Pl.fill (s : Pl) (f g : Int) : Int × Pl :=
  if s.used f && s.used g then (if 1 < s.refs f.toNat then (4, s) else (0, { s with byt := setAt s.byt f.toNat (s.byt g.toNat) })) else (2, s)
def Pl.same (s : Pl) (f g : Int) : Bool := s.used f && s.used g && (List.range 16).all fun i => s.byt f.toNat i == s.byt g.toNat i
/-- Free frames among the first k. -/
def freeTo (refs : Nat → Int) : Nat → Nat
  | 0 => 0
  | k + 1 => freeTo refs k + if refs k = 0 then 1 else 0
theorem freeTo_le (refs : Nat → Int) : ∀ k, freeTo refs k ≤ k
  | 0 => Nat.le_refl _
  | k + 1 => by have := freeTo_le refs k; simp only [freeTo]; split <;> omega
def Pl.left (s : Pl) : Nat := freeTo s.refs s.n
/-- The lowest free frame from k on, of m places. -/
def firstFrom (refs : Nat → Int) : Nat → Nat → Option Nat
  | _, 0 => none
  | k, m + 1 => if refs k = 0 then some k else firstFrom refs (k + 1) m
def Pl.take (s : Pl) : Int × Int × Pl :=
  match firstFrom s.refs 0 s.n with
  | some k => (k, 0, { s with refs := setAt s.refs k 1, byt := setAt s.byt k fun _ => 0 })
  | none => (0, 3, s)
def errV (k : Int) : Value := if k = 0 then .nilIface else .iface 37 (.int .i64 k)
theorem errV_zero : errV 0 = .nilIface := by simp [errV]

/-- A pool of package frames in memory: the header's block bp, the frames' block bf. -/
structure PoolAt (w : World) (bp bf : Nat) (s : Pl) : Prop where
  hd : ∃ cap : Nat, w.cell? ⟨bp, 0, none⟩ = some (.slice (some ⟨bf, 0, none⟩) s.n cap)
  refs : ∀ f, f < s.n → w.cell? ⟨bf, f * 17, none⟩ = some (.int .i64 (s.refs f))
  byt : ∀ f i, f < s.n → i < 16 → w.cell? ⟨bf, f * 17 + 1 + i, none⟩ = some (.int .u8 (s.byt f i))
  fz : ∀ o, w.frozen? ⟨bf, o, none⟩ = false
  ne : bp ≠ bf
  le : s.n ≤ 64
  nn : ∀ f, f < s.n → 0 ≤ s.refs f

/-- What a call may turn: blocks of S, and new ones. -/
structure Upd (S : Nat → Prop) (w w' : World) : Prop where
  os : w'.os = w.os
  tape : w'.tape = w.tape
  output : w'.output = w.output
  size : w.heap.size ≤ w'.heap.size
  block : ∀ k, k < w.heap.size → ¬ S k → w'.heap[k]? = w.heap[k]?

theorem Upd.refl (S : Nat → Prop) (w : World) : Upd S w w := ⟨rfl, rfl, rfl, Nat.le_refl _, fun _ _ _ => rfl⟩
theorem Upd.trans {S T : Nat → Prop} {a b c : World} (h : Upd S a b) (k : Upd T b c) (hT : ∀ i, i < a.heap.size → T i → S i) : Upd S a c :=
  ⟨k.os.trans h.os, k.tape.trans h.tape, k.output.trans h.output, Nat.le_trans h.size k.size,
   fun i hi hn => (k.block i (Nat.lt_of_lt_of_le hi h.size) (fun t => hn (hT i hi t))).trans (h.block i hi hn)⟩
theorem Upd.cell {S : Nat → Prop} {w w' : World} (h : Upd S w w') {p : Addr} {v : Value} (hv : w.cell? p = some v) (hp : ¬ S p.block) : w'.cell? p = some v := by
  rw [← hv]; exact World.cell?_of_block (w := w) (h.block p.block (World.block_lt_of_cell? w _ hv) hp)
theorem Upd.frozen {S : Nat → Prop} {w w' : World} (h : Upd S w w') {p : Addr} {v : Value} (hv : w.cell? p = some v) (hp : ¬ S p.block) : w'.frozen? p = w.frozen? p :=
  World.frozen?_of_block (w := w) (h.block p.block (World.block_lt_of_cell? w _ hv) hp)
theorem Upd.drewN {S : Nat → Prop} {a w : World} (h : Upd S a w) (n : Nat) : Upd S a (w.drewN n) := ⟨h.os, h.tape, h.output, h.size, h.block⟩
theorem Upd.drew {S : Nat → Prop} {a w : World} (h : Upd S a w) : Upd S a w.drew := ⟨h.os, h.tape, h.output, h.size, h.block⟩
theorem Upd.alloc {S : Nat → Prop} {a w : World} (h : Upd S a w) (o : Obj) : Upd S a (w.alloc o) :=
  h.trans (T := fun _ => False) ⟨rfl, rfl, rfl, by simp, fun k hk _ => Below.heap_alloc _ _ _ hk⟩ (fun _ _ f => f.elim)
theorem Upd.setCell {S : Nat → Prop} {a w : World} (h : Upd S a w) (p : Addr) (hp : p.block < a.heap.size → S p.block) (u : Value) : Upd S a (w.setCell p u) :=
  h.trans (T := fun k => k = p.block) ⟨rfl, rfl, rfl, by simp [World.setCell], fun k _ hn => Below.heap_setCell _ _ _ _ hn⟩ (fun i hi e => by subst e; exact hp hi)
theorem Upd.setCells {S : Nat → Prop} {a : World} (b : Nat) (hb : b < a.heap.size → S b) : ∀ (vs : List Value) (o : Nat) {w : World}, Upd S a w → Upd S a (w.setCells b o vs)
  | [], _, _, h => h
  | v :: r, o, _, h => Upd.setCells b hb r (o + 1) (h.setCell ⟨b, o, none⟩ hb v)
theorem Upd.one (w : World) (b o : Nat) (v : Value) : Upd (fun k => k = b) w (w.setCell ⟨b, o, none⟩ v) := Upd.setCell (S := fun k => k = b) (Upd.refl _ w) ⟨b, o, none⟩ (fun _ => rfl) v
theorem Upd.row (w : World) (b o : Nat) (vs : List Value) : Upd (fun k => k = b) w (w.setCells b o vs) := Upd.setCells (S := fun k => k = b) b (fun _ => rfl) vs o (Upd.refl _ w)
theorem Upd.below {W w' : World} (h : Upd (fun _ => False) W w') : Below W.heap.size W w' := ⟨h.os, h.tape, h.output, h.size, fun k hk => h.block k hk (fun f => f)⟩


theorem addr_ne {b b' o o' : Nat} (h : b ≠ b' ∨ o ≠ o') : (⟨b, o, none⟩ : Addr) ≠ ⟨b', o', none⟩ := by
  intro e
  simp only [Addr.mk.injEq, and_true] at e
  omega

theorem PoolAt.setRef {w : World} {bp bf : Nat} {s : Pl} (h : PoolAt w bp bf s) {f : Nat} (hf : f < s.n) {v : Int} (hv : 0 ≤ v) :
    PoolAt (w.setCell ⟨bf, f * 17, none⟩ (.int .i64 v)) bp bf { s with refs := setAt s.refs f v } where
  hd := by obtain ⟨cap, hc⟩ := h.hd; exact ⟨cap, by rw [World.cell?_setCell_other _ _ _ _ (addr_ne (Or.inl (Ne.symm h.ne)))]; exact hc⟩
  refs := fun g hg => by
    by_cases e : g = f
    · subst e; rw [World.cell?_setCell_same _ _ _ (h.refs g hf)]; simp [setAt]
    · rw [World.cell?_setCell_other _ _ _ _ (addr_ne (Or.inr (by omega))), h.refs g hg]; simp [setAt, e]
  byt := fun g i hg hi => by
    rw [World.cell?_setCell_other _ _ _ _ (addr_ne (Or.inr (by omega)))]; exact h.byt g i hg hi
  fz := fun o => by rw [World.frozen?_setCell]; exact h.fz o
  ne := h.ne
  le := h.le
  nn := fun g hg => by
    by_cases e : g = f
    · subst e; simpa [setAt] using hv
    · simpa [setAt, e] using h.nn g hg

theorem PoolAt.setByte {w : World} {bp bf : Nat} {s : Pl} (h : PoolAt w bp bf s) {f i : Nat} (hf : f < s.n) (hi : i < 16) (v : Int) :
    PoolAt (w.setCell ⟨bf, f * 17 + 1 + i, none⟩ (.int .u8 v)) bp bf { s with byt := setAt s.byt f (setAt (s.byt f) i v) } where
  hd := by obtain ⟨cap, hc⟩ := h.hd; exact ⟨cap, by rw [World.cell?_setCell_other _ _ _ _ (addr_ne (Or.inl (Ne.symm h.ne)))]; exact hc⟩
  refs := fun g hg => by rw [World.cell?_setCell_other _ _ _ _ (addr_ne (Or.inr (by omega)))]; exact h.refs g hg
  byt := fun g j hg hj => by
    by_cases e : g = f
    · subst e
      by_cases e2 : j = i
      · subst e2; rw [World.cell?_setCell_same _ _ _ (h.byt g j hf hi)]; simp [setAt]
      · rw [World.cell?_setCell_other _ _ _ _ (addr_ne (Or.inr (by omega))), h.byt g j hg hj]; simp [setAt, e2]
    · rw [World.cell?_setCell_other _ _ _ _ (addr_ne (Or.inr (by omega))), h.byt g j hg hj]; simp [setAt, e]
  fz := fun o => by rw [World.frozen?_setCell]; exact h.fz o
  ne := h.ne
  le := h.le
  nn := h.nn

/-- The sixteen bytes of a frame, as cells. -/
def rowOf (g : Nat → Int) : List Value := (List.range 16).map fun i => .int .u8 (g i)
theorem rowOf_length (g : Nat → Int) : (rowOf g).length = 16 := by simp [rowOf]
theorem rowOf_get (g : Nat → Int) (i : Nat) (h : i < 16) : (rowOf g)[i]? = some (.int .u8 (g i)) := by simp [rowOf, h]
theorem rowOf_one (g : Nat → Int) : ∀ v ∈ rowOf g, v.oneCell' = true := by
  intro v hv
  simp only [rowOf, List.mem_map] at hv
  obtain ⟨i, _, rfl⟩ := hv
  rfl
theorem PoolAt.range {w : World} {bp bf : Nat} {s : Pl} (h : PoolAt w bp bf s) {f : Nat} (hf : f < s.n) : w.rangeAt bf (f * 17 + 1) (rowOf (s.byt f)) := by
  intro j v hv
  have hj : j < 16 := by have := (List.getElem?_eq_some_iff.1 hv).1; rw [rowOf_length] at this; exact this
  rw [rowOf_get _ _ hj] at hv
  rw [h.byt f j hf hj]; exact hv
theorem PoolAt.there {w : World} {bp bf : Nat} {s : Pl} (h : PoolAt w bp bf s) {f : Nat} (hf : f < s.n) : w.there bf (f * 17 + 1) 16 := fun j hj =>
  ⟨by rw [h.byt f j hf hj]; rfl, h.fz _⟩

theorem PoolAt.setRow {w : World} {bp bf : Nat} {s : Pl} (h : PoolAt w bp bf s) {f : Nat} (hf : f < s.n) (g : Nat → Int) :
    PoolAt (w.setCells bf (f * 17 + 1) (rowOf g)) bp bf { s with byt := setAt s.byt f g } where
  hd := by obtain ⟨cap, hc⟩ := h.hd; exact ⟨cap, by rw [World.cell?_setCells_out _ _ _ _ _ (fun e => absurd e h.ne)]; exact hc⟩
  refs := fun k hk => by
    rw [World.cell?_setCells_out _ _ _ _ _ (fun _ _ => by simp only [rowOf_length]; omega)]; exact h.refs k hk
  byt := fun k j hk hj => by
    by_cases e : k = f
    · subst e
      have := World.rangeAt_setCells_same w bf (k * 17 + 1) (rowOf g) (by rw [rowOf_length]; exact h.there hf) j _ (rowOf_get g j hj)
      rw [this]; simp [setAt]
    · rw [World.cell?_setCells_out _ _ _ _ _ (fun _ _ => by simp only [rowOf_length]; omega), h.byt k j hk hj]; simp [setAt, e]
  fz := fun o => by rw [World.frozen?_setCells]; exact h.fz o
  ne := h.ne
  le := h.le
  nn := h.nn

theorem PoolAt.upd {S : Nat → Prop} {w w' : World} {bp bf : Nat} {s : Pl} (h : PoolAt w bp bf s) (u : Upd S w w') (hp : ¬ S bp) (hf : ¬ S bf) (hlt : bf < w.heap.size) : PoolAt w' bp bf s where
  hd := by obtain ⟨cap, hc⟩ := h.hd; exact ⟨cap, u.cell hc hp⟩
  refs := fun f hk => u.cell (h.refs f hk) hf
  byt := fun f i hk hi => u.cell (h.byt f i hk hi) hf
  fz := fun o => by rw [World.frozen?_of_block (w := w) (u.block bf hlt hf)]; exact h.fz o
  ne := h.ne
  le := h.le
  nn := h.nn
end Go.Proofs.YtadpibcgjgcjhabGreatDoor
