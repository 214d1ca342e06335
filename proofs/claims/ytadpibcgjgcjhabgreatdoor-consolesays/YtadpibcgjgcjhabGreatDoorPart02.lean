/- What a pool of frames is in memory, and what a call may turn. -/
import Derived.Test.YtadpibcgjgcjhabGreatDoorRows
import Derived.WalkKit
import Derived.ProofKit
import Derived.OpenShut
import Derived.Deep.QuietTactic
import Derived.BigQuiet
import Derived.Deep.MidRow
import Derived.Deep.RegionHeld3
import Derived.Deep.DrawnRows
import Derived.Lib.SliceRun
namespace Go.Proofs.YtadpibcgjgcjhabGreatDoor
open Go.ChangeShapes Go.WideShapes Go.ChangeAt Go.RowKit
set_option maxRecDepth 100000

/-- The state of a pool: how many frames; of each how many pages are in it, and its bytes. -/
structure Pl where
  n : Nat
  refs : Nat → Int
  byt : Nat → Nat → Int

def setAt {α : Type} (g : Nat → α) (k : Nat) (v : α) : Nat → α := fun i => if i = k then v else g i
theorem setAt_same {α : Type} (g : Nat → α) (k : Nat) (v : α) : setAt g k v k = v := by simp [setAt]
theorem setAt_other {α : Type} (g : Nat → α) (k i : Nat) (v : α) (h : i ≠ k) : setAt g k v i = g i := by simp [setAt, h]

/-- Is it a frame in which is a page? -/
def Pl.used (s : Pl) (f : Int) : Bool := decide (0 ≤ f) && decide (f < s.n) && !(s.refs f.toNat == 0)
theorem Pl.used_iff (s : Pl) (f : Int) : s.used f = true ↔ 0 ≤ f ∧ f < s.n ∧ s.refs f.toNat ≠ 0 := by simp [Pl.used, and_assoc]
def Pl.share (s : Pl) (f by' : Int) : Int × Pl := if s.used f then (0, { s with refs := setAt s.refs f.toNat (s.refs f.toNat + by') }) else (2, s)
def Pl.get (s : Pl) (f at' : Int) : Int × Int := if at' < 0 ∨ 15 < at' then (0, 1) else if s.used f then (s.byt f.toNat at'.toNat, 0) else (0, 2)
def Pl.set (s : Pl) (f at' v : Int) : Int × Pl :=
  if at' < 0 ∨ 15 < at' then (1, s) else if s.used f then (if 1 < s.refs f.toNat then (4, s) else (0, { s with byt := setAt s.byt f.toNat (setAt (s.byt f.toNat) at'.toNat v) })) else (2, s)
def Pl.fill (s : Pl) (f g : Int) : Int × Pl :=
  if s.used f && s.used g then (if 1 < s.refs f.toNat then (4, s) else (0, { s with byt := setAt s.byt f.toNat (s.byt g.toNat) })) else (2, s)
def Pl.same (s : Pl) (f g : Int) : Bool := s.used f && s.used g && (List.range 16).all fun i => s.byt f.toNat i == s.byt g.toNat i
/-- Free frames among the first k. -/
def freeTo (refs : Nat → Int) : Nat → Nat
  | 0 => 0
  | k + 1 => freeTo refs k + if refs k = 0 then 1 else 0
theorem freeTo_le (refs : Nat → Int) : ∀ k, freeTo refs k ≤ k
  | 0 => Nat.le_refl _
  | k + 1 => by have := freeTo_le refs k; simp only [freeTo]; split <;> omega
def Pl.left (s : Pl) : Nat := freeTo s.refs s.n
/-- The lowest free frame from k on, of m places. -/
def firstFrom (refs : Nat → Int) : Nat → Nat → Option Nat
  | _, 0 => none
  | k, m + 1 => if refs k = 0 then some k else firstFrom refs (k + 1) m
def Pl.take (s : Pl) : Int × Int × Pl :=
  match firstFrom s.refs 0 s.n with
  | some k => (k, 0, { s with refs := setAt s.refs k 1, byt := setAt s.byt k fun _ => 0 })
  | none => (0, 3, s)
def errV (k : Int) : Value := if k = 0 then .nilIface else .iface 37 (.int .i64 k)
theorem errV_zero : errV 0 = .nilIface := by simp [errV]

/-- A pool of package frames in memory: the header's block bp, the frames' block bf. -/
structure PoolAt (w : World) (bp bf : Nat) (s : Pl) : Prop where
  hd : ∃ cap : Nat, w.cell? ⟨bp, 0, none⟩ = some (.slice (some ⟨bf, 0, none⟩) s.n cap)
  refs : ∀ f, f < s.n → w.cell? ⟨bf, f * 17, none⟩ = some (.int .i64 (s.refs f))
  byt : ∀ f i, f < s.n → i < 16 → w.cell? ⟨bf, f * 17 + 1 + i, none⟩ = some (.int .u8 (s.byt f i))
  fz : ∀ o, w.frozen? ⟨bf, o, none⟩ = false
  ne : bp ≠ bf
  le : s.n ≤ 64
  nn : ∀ f, f < s.n → 0 ≤ s.refs f

/-- What a call may turn: blocks of S, and new ones. -/
structure Upd (S : Nat → Prop) (w w' : World) : Prop where
  os : w'.os = w.os
  tape : w'.tape = w.tape
  output : w'.output = w.output
  size : w.heap.size ≤ w'.heap.size
  block : ∀ k, k < w.heap.size → ¬ S k → w'.heap[k]? = w.heap[k]?

theorem Upd.refl (S : Nat → Prop) (w : World) : Upd S w w := ⟨rfl, rfl, rfl, Nat.le_refl _, fun _ _ _ => rfl⟩
theorem Upd.trans {S T : Nat → Prop} {a b c : World} (h : Upd S a b) (k : Upd T b c) (hT : ∀ i, i < a.heap.size → T i → S i) : Upd S a c :=
  ⟨k.os.trans h.os, k.tape.trans h.tape, k.output.trans h.output, Nat.le_trans h.size k.size,
   fun i hi hn => (k.block i (Nat.lt_of_lt_of_le hi h.size) (fun t => hn (hT i hi t))).trans (h.block i hi hn)⟩
theorem Upd.cell {S : Nat → Prop} {w w' : World} (h : Upd S w w') {p : Addr} {v : Value} (hv : w.cell? p = some v) (hp : ¬ S p.block) : w'.cell? p = some v := by
  rw [← hv]; exact World.cell?_of_block (w := w) (h.block p.block (World.block_lt_of_cell? w _ hv) hp)
theorem Upd.frozen {S : Nat → Prop} {w w' : World} (h : Upd S w w') {p : Addr} {v : Value} (hv : w.cell? p = some v) (hp : ¬ S p.block) : w'.frozen? p = w.frozen? p :=
  World.frozen?_of_block (w := w) (h.block p.block (World.block_lt_of_cell? w _ hv) hp)
theorem Upd.drewN {S : Nat → Prop} {a w : World} (h : Upd S a w) (n : Nat) : Upd S a (w.drewN n) := ⟨h.os, h.tape, h.output, h.size, h.block⟩
theorem Upd.drew {S : Nat → Prop} {a w : World} (h : Upd S a w) : Upd S a w.drew := ⟨h.os, h.tape, h.output, h.size, h.block⟩
theorem Upd.alloc {S : Nat → Prop} {a w : World} (h : Upd S a w) (o : Obj) : Upd S a (w.alloc o) :=
  h.trans (T := fun _ => False) ⟨rfl, rfl, rfl, by simp, fun k hk _ => Below.heap_alloc _ _ _ hk⟩ (fun _ _ f => f.elim)
theorem Upd.setCell {S : Nat → Prop} {a w : World} (h : Upd S a w) (p : Addr) (hp : p.block < a.heap.size → S p.block) (u : Value) : Upd S a (w.setCell p u) :=
  h.trans (T := fun k => k = p.block) ⟨rfl, rfl, rfl, by simp [World.setCell], fun k _ hn => Below.heap_setCell _ _ _ _ hn⟩ (fun i hi e => by subst e; exact hp hi)
theorem Upd.setCells {S : Nat → Prop} {a : World} (b : Nat) (hb : b < a.heap.size → S b) : ∀ (vs : List Value) (o : Nat) {w : World}, Upd S a w → Upd S a (w.setCells b o vs)
  | [], _, _, h => h
  | v :: r, o, _, h => Upd.setCells b hb r (o + 1) (h.setCell ⟨b, o, none⟩ hb v)
theorem Upd.one (w : World) (b o : Nat) (v : Value) : Upd (fun k => k = b) w (w.setCell ⟨b, o, none⟩ v) := Upd.setCell (S := fun k => k = b) (Upd.refl _ w) ⟨b, o, none⟩ (fun _ => rfl) v
theorem Upd.row (w : World) (b o : Nat) (vs : List Value) : Upd (fun k => k = b) w (w.setCells b o vs) := Upd.setCells (S := fun k => k = b) b (fun _ => rfl) vs o (Upd.refl _ w)
theorem Upd.below {W w' : World} (h : Upd (fun _ => False) W w') : Below W.heap.size W w' := ⟨h.os, h.tape, h.output, h.size, fun k hk => h.block k hk (fun f => f)⟩


theorem addr_ne {b b' o o' : Nat} (h : b ≠ b' ∨ o ≠ o') : (⟨b, o, none⟩ : Addr) ≠ ⟨b', o', none⟩ := by
  intro e
  simp only [Addr.mk.injEq, and_true] at e
  omega

theorem PoolAt.setRef {w : World} {bp bf : Nat} {s : Pl} (h : PoolAt w bp bf s) {f : Nat} (hf : f < s.n) {v : Int} (hv : 0 ≤ v) :
    PoolAt (w.setCell ⟨bf, f * 17, none⟩ (.int .i64 v)) bp bf { s with refs := setAt s.refs f v } where
  hd := by obtain ⟨cap, hc⟩ := h.hd; exact ⟨cap, by rw [World.cell?_setCell_other _ _ _ _ (addr_ne (Or.inl (Ne.symm h.ne)))]; exact hc⟩
  refs := fun g hg => by
    by_cases e : g = f
    · subst e; rw [World.cell?_setCell_same _ _ _ (h.refs g hf)]; simp [setAt]
    · rw [World.cell?_setCell_other _ _ _ _ (addr_ne (Or.inr (by omega))), h.refs g hg]; simp [setAt, e]
  byt := fun g i hg hi => by
    rw [World.cell?_setCell_other _ _ _ _ (addr_ne (Or.inr (by omega)))]; exact h.byt g i hg hi
  fz := fun o => by rw [World.frozen?_setCell]; exact h.fz o
  ne := h.ne
  le := h.le
  nn := fun g hg => by
    by_cases e : g = f
    · subst e; simpa [setAt] using hv
    · simpa [setAt, e] using h.nn g hg

theorem PoolAt.setByte {w : World} {bp bf : Nat} {s : Pl} (h : PoolAt w bp bf s) {f i : Nat} (hf : f < s.n) (hi : i < 16) (v : Int) :
    PoolAt (w.setCell ⟨bf, f * 17 + 1 + i, none⟩ (.int .u8 v)) bp bf { s with byt := setAt s.byt f (setAt (s.byt f) i v) } where
  hd := by obtain ⟨cap, hc⟩ := h.hd; exact ⟨cap, by rw [World.cell?_setCell_other _ _ _ _ (addr_ne (Or.inl (Ne.symm h.ne)))]; exact hc⟩
  refs := fun g hg => by rw [World.cell?_setCell_other _ _ _ _ (addr_ne (Or.inr (by omega)))]; exact h.refs g hg
  byt := fun g j hg hj => by
    by_cases e : g = f
    · subst e
      by_cases e2 : j = i
      · subst e2; rw [World.cell?_setCell_same _ _ _ (h.byt g j hf hi)]; simp [setAt]
      · rw [World.cell?_setCell_other _ _ _ _ (addr_ne (Or.inr (by omega))), h.byt g j hg hj]; simp [setAt, e2]
    · rw [World.cell?_setCell_other _ _ _ _ (addr_ne (Or.inr (by omega))), h.byt g j hg hj]; simp [setAt, e]
  fz := fun o => by rw [World.frozen?_setCell]; exact h.fz o
  ne := h.ne
  le := h.le
  nn := h.nn

/-- The sixteen bytes of a frame, as cells. -/
def rowOf (g : Nat → Int) : List Value := (List.range 16).map fun i => .int .u8 (g i)
theorem rowOf_length (g : Nat → Int) : (rowOf g).length = 16 := by simp [rowOf]
theorem rowOf_get (g : Nat → Int) (i : Nat) (h : i < 16) : (rowOf g)[i]? = some (.int .u8 (g i)) := by simp [rowOf, h]
theorem rowOf_one (g : Nat → Int) : ∀ v ∈ rowOf g, v.oneCell' = true := by
  intro v hv
  simp only [rowOf, List.mem_map] at hv
  obtain ⟨i, _, rfl⟩ := hv
  rfl
theorem PoolAt.range {w : World} {bp bf : Nat} {s : Pl} (h : PoolAt w bp bf s) {f : Nat} (hf : f < s.n) : w.rangeAt bf (f * 17 + 1) (rowOf (s.byt f)) := by
  intro j v hv
  have hj : j < 16 := by have := (List.getElem?_eq_some_iff.1 hv).1; rw [rowOf_length] at this; exact this
  rw [rowOf_get _ _ hj] at hv
  rw [h.byt f j hf hj]; exact hv
theorem PoolAt.there {w : World} {bp bf : Nat} {s : Pl} (h : PoolAt w bp bf s) {f : Nat} (hf : f < s.n) : w.there bf (f * 17 + 1) 16 := fun j hj =>
  ⟨by rw [h.byt f j hf hj]; rfl, h.fz _⟩

theorem PoolAt.setRow {w : World} {bp bf : Nat} {s : Pl} (h : PoolAt w bp bf s) {f : Nat} (hf : f < s.n) (g : Nat → Int) :
    PoolAt (w.setCells bf (f * 17 + 1) (rowOf g)) bp bf { s with byt := setAt s.byt f g } where
  hd := by obtain ⟨cap, hc⟩ := h.hd; exact ⟨cap, by rw [World.cell?_setCells_out _ _ _ _ _ (fun e => absurd e h.ne)]; exact hc⟩
  refs := fun k hk => by
    rw [World.cell?_setCells_out _ _ _ _ _ (fun _ _ => by simp only [rowOf_length]; omega)]; exact h.refs k hk
  byt := fun k j hk hj => by
    by_cases e : k = f
    · subst e
      have := World.rangeAt_setCells_same w bf (k * 17 + 1) (rowOf g) (by rw [rowOf_length]; exact h.there hf) j _ (rowOf_get g j hj)
      rw [this]; simp [setAt]
    · rw [World.cell?_setCells_out _ _ _ _ _ (fun _ _ => by simp only [rowOf_length]; omega), h.byt k j hk hj]; simp [setAt, e]
  fz := fun o => by rw [World.frozen?_setCells]; exact h.fz o
  ne := h.ne
  le := h.le
  nn := h.nn

theorem PoolAt.upd {S : Nat → Prop} {w w' : World} {bp bf : Nat} {s : Pl} (h : PoolAt w bp bf s) (u : Upd S w w') (hp : ¬ S bp) (hf : ¬ S bf) (hlt : bf < w.heap.size) : PoolAt w' bp bf s where
  hd := by obtain ⟨cap, hc⟩ := h.hd; exact ⟨cap, u.cell hc hp⟩
  refs := fun f hk => u.cell (h.refs f hk) hf
  byt := fun f i hk hi => u.cell (h.byt f i hk hi) hf
  fz := fun o => by rw [World.frozen?_of_block (w := w) (u.block bf hlt hf)]; exact h.fz o
  ne := h.ne
  le := h.le
  nn := h.nn
end Go.Proofs.YtadpibcgjgcjhabGreatDoor
/- What the functions of package frames answer, and what they turn in memory. -/
namespace Go.Proofs.YtadpibcgjgcjhabGreatDoor
open Go.ChangeShapes Go.WideShapes Go.ChangeAt Go.RowKit
set_option maxRecDepth 100000

theorem has_yes (w : World) (bp bf f : Nat) (s : Pl) (h : PoolAt w bp bf s) (hf : f < s.n) :
    Calls Tryz.prog 150 #[.pointer (some ⟨bp, 0, none⟩), .int .i64 f] w fun e w' => e = .returned (.bool true) ∧ w' = w := by
  obtain ⟨cap, h1⟩ := h.hd
  have h2 := h.le
  go_enter Tryz.func150, Tryz.ntmps150
  go_wp2
  go_ret
  exact ⟨rfl, rfl⟩
theorem has_neg (w : World) (bp : Nat) (f : Int) (hf : f < 0) :
    Calls Tryz.prog 150 #[.pointer (some ⟨bp, 0, none⟩), .int .i64 f] w fun e w' => e = .returned (.bool false) ∧ w' = w := by
  have hd : decide (0 ≤ f) = false := by simp; omega
  go_enter Tryz.func150, Tryz.ntmps150
  go_wp2
  go_ret
  exact ⟨rfl, rfl⟩
theorem has_big (w : World) (bp bf : Nat) (f : Int) (s : Pl) (h : PoolAt w bp bf s) (hf : s.n ≤ f) :
    Calls Tryz.prog 150 #[.pointer (some ⟨bp, 0, none⟩), .int .i64 f] w fun e w' => e = .returned (.bool false) ∧ w' = w := by
  obtain ⟨cap, h1⟩ := h.hd
  have h2 := h.le
  have hd : decide (f < s.n) = false := by simp; omega
  have h0 : 0 ≤ f := by omega
  go_enter Tryz.func150, Tryz.ntmps150
  go_wp2
  go_ret
  exact ⟨rfl, rfl⟩
theorem used_yes (w : World) (bp bf f : Nat) (s : Pl) (h : PoolAt w bp bf s) (hf : f < s.n) (hr : s.refs f ≠ 0) :
    Calls Tryz.prog 142 #[.pointer (some ⟨bp, 0, none⟩), .int .i64 f] w fun e w' => e = .returned (.pointer (some ⟨bf, f * 17, none⟩)) ∧ w' = w := by
  obtain ⟨cap, h1⟩ := h.hd
  have h2 := h.le
  have h3 := h.refs f hf
  have h4 : (s.refs f == 0) = false := by simp [hr]
  have H := h
  clear hr
  go_enter Tryz.func142, Tryz.ntmps142
  go_wp2_with (go_at_call 150; refine (has_yes _ _ _ _ _ h hf).mono ?_; rintro e w' ⟨rfl, rfl⟩)
  go_ret
  exact ⟨rfl, rfl⟩
theorem used_free (w : World) (bp bf f : Nat) (s : Pl) (h : PoolAt w bp bf s) (hf : f < s.n) (hr : s.refs f = 0) :
    Calls Tryz.prog 142 #[.pointer (some ⟨bp, 0, none⟩), .int .i64 f] w fun e w' => e = .returned (.pointer none) ∧ w' = w := by
  obtain ⟨cap, h1⟩ := h.hd
  have h2 := h.le
  have h3 := h.refs f hf
  have h4 : (s.refs f == 0) = true := by simp [hr]
  clear hr
  go_enter Tryz.func142, Tryz.ntmps142
  go_wp2_with (go_at_call 150; refine (has_yes _ _ _ _ _ h hf).mono ?_; rintro e w' ⟨rfl, rfl⟩)
  go_ret
  exact ⟨rfl, rfl⟩
theorem used_neg (w : World) (bp : Nat) (f : Int) (hf : f < 0) :
    Calls Tryz.prog 142 #[.pointer (some ⟨bp, 0, none⟩), .int .i64 f] w fun e w' => e = .returned (.pointer none) ∧ w' = w := by
  go_enter Tryz.func142, Tryz.ntmps142
  go_wp2_with (go_at_call 150; refine (has_neg _ _ _ hf).mono ?_; rintro e w' ⟨rfl, rfl⟩)
  go_ret
  exact ⟨rfl, rfl⟩
theorem used_big (w : World) (bp bf : Nat) (f : Int) (s : Pl) (h : PoolAt w bp bf s) (hf : s.n ≤ f) :
    Calls Tryz.prog 142 #[.pointer (some ⟨bp, 0, none⟩), .int .i64 f] w fun e w' => e = .returned (.pointer none) ∧ w' = w := by
  go_enter Tryz.func142, Tryz.ntmps142
  go_wp2_with (go_at_call 150; refine (has_big _ _ _ _ _ h hf).mono ?_; rintro e w' ⟨rfl, rfl⟩)
  go_ret
  exact ⟨rfl, rfl⟩
theorem used_any (w : World) (bp bf : Nat) (f : Int) (s : Pl) (h : PoolAt w bp bf s) :
    Calls Tryz.prog 142 #[.pointer (some ⟨bp, 0, none⟩), .int .i64 f] w fun e w' => e = .returned (.pointer (if s.used f then some ⟨bf, f.toNat * 17, none⟩ else none)) ∧ w' = w := by
  by_cases h0 : f < 0
  · have : s.used f = false := by simp [Pl.used]; omega
    rw [this]; exact used_neg w bp f h0
  · by_cases h1 : f < s.n
    · obtain ⟨k, rfl⟩ := Int.eq_ofNat_of_zero_le (show 0 ≤ f by omega)
      by_cases hr : s.refs k = 0
      · have : s.used k = false := by simp [Pl.used, hr]
        rw [this]; exact used_free w bp bf k s h (by omega) hr
      · have : s.used k = true := by simp [Pl.used, hr]; omega
        rw [this, Int.toNat_natCast]; exact used_yes w bp bf k s h (by omega) hr
    · have : s.used f = false := by simp [Pl.used]; omega
      rw [this]; exact used_big w bp bf f s h (by omega)
theorem used_none (w : World) (bp bf : Nat) (f : Int) (s : Pl) (h : PoolAt w bp bf s) (hu : s.used f = false) :
    Calls Tryz.prog 142 #[.pointer (some ⟨bp, 0, none⟩), .int .i64 f] w fun e w' => e = .returned (.pointer none) ∧ w' = w := by
  have := used_any w bp bf f s h
  rw [hu] at this; exact this
theorem used_some (w : World) (bp bf : Nat) (f : Int) (s : Pl) (h : PoolAt w bp bf s) (hu : s.used f = true) :
    Calls Tryz.prog 142 #[.pointer (some ⟨bp, 0, none⟩), .int .i64 f] w fun e w' => e = .returned (.pointer (some ⟨bf, f.toNat * 17, none⟩)) ∧ w' = w := by
  have := used_any w bp bf f s h
  rw [hu] at this; exact this
theorem inPage_yes (w : World) (i : Int) (h0 : 0 ≤ i) (h1 : i ≤ 15) : Calls Tryz.prog 141 #[.int .i64 i] w fun e w' => e = .returned (.bool true) ∧ w' = w := by
  have hd : decide (i < 16) = true := by simp; omega
  go_enter Tryz.func141, Tryz.ntmps141
  go_wp2
  go_ret
  exact ⟨rfl, rfl⟩
theorem inPage_no (w : World) (i : Int) (h : i < 0 ∨ 15 < i) : Calls Tryz.prog 141 #[.int .i64 i] w fun e w' => e = .returned (.bool false) ∧ w' = w := by
  rcases h with h | h
  · have hd : decide (0 ≤ i) = false := by simp; omega
    go_enter Tryz.func141, Tryz.ntmps141
    go_wp2
    go_ret
    exact ⟨rfl, rfl⟩
  · have hd : decide (0 ≤ i) = true := by simp; omega
    have hd2 : decide (i < 16) = false := by simp; omega
    go_enter Tryz.func141, Tryz.ntmps141
    go_wp2
    go_ret
    exact ⟨rfl, rfl⟩

theorem share_no (w : World) (bp bf : Nat) (f : Int) (s : Pl) (h : PoolAt w bp bf s) (hu : s.used f = false) :
    Calls Tryz.prog 148 #[.pointer (some ⟨bp, 0, none⟩), .int .i64 f] w fun e w' => e = .returned (.iface 37 (.int .i64 2)) ∧ w' = w := by
  go_enter Tryz.func148, Tryz.ntmps148
  go_wp2_with (go_at_call 142; refine (used_none _ _ _ _ _ h hu).mono ?_; rintro e w' ⟨rfl, rfl⟩)
  go_ret
  exact ⟨rfl, rfl⟩
theorem share_yes (w : World) (bp bf : Nat) (f : Int) (s : Pl) (h : PoolAt w bp bf s) (hu : s.used f = true) (hm : s.refs f.toNat ≤ 1000000) :
    Calls Tryz.prog 148 #[.pointer (some ⟨bp, 0, none⟩), .int .i64 f] w fun e w' => e = .returned .nilIface ∧ w' = w.setCell ⟨bf, f.toNat * 17, none⟩ (.int .i64 (s.refs f.toNat + 1)) := by
  obtain ⟨h0, h1, h2⟩ := (s.used_iff f).1 hu
  have c1 := h.refs f.toNat (by omega)
  have c2 := h.fz (f.toNat * 17)
  have c3 := h.nn f.toNat (by omega)
  clear h2
  go_enter Tryz.func148, Tryz.ntmps148
  go_wp2_with (go_at_call 142; refine (used_some _ _ _ _ _ h hu).mono ?_; rintro e w' ⟨rfl, rfl⟩)
  go_ret
  exact ⟨rfl, rfl⟩
end Go.Proofs.YtadpibcgjgcjhabGreatDoor
/- What the functions of package frames answer, and what they turn in memory: more. -/
namespace Go.Proofs.YtadpibcgjgcjhabGreatDoor
open Go.ChangeShapes Go.WideShapes Go.ChangeAt Go.RowKit
set_option maxRecDepth 100000

/-- Share, whatever the number. -/
theorem share_any (w : World) (bp bf : Nat) (f : Int) (s : Pl) (h : PoolAt w bp bf s) (hm : ∀ k, k < s.n → s.refs k ≤ 1000000) :
    Calls Tryz.prog 148 #[.pointer (some ⟨bp, 0, none⟩), .int .i64 f] w fun e w' => e = .returned (errV (s.share f 1).1) ∧ PoolAt w' bp bf (s.share f 1).2 ∧ Upd (fun k => k = bf) w w' := by
  cases hu : s.used f with
  | false =>
    refine (share_no w bp bf f s h hu).mono ?_
    rintro e w' ⟨rfl, rfl⟩
    simp only [Pl.share, hu]
    exact ⟨by simp [errV], h, Upd.refl _ _⟩
  | true =>
    obtain ⟨h0, h1, _⟩ := (s.used_iff f).1 hu
    have hk : f.toNat < s.n := by omega
    refine (share_yes w bp bf f s h hu (hm _ hk)).mono ?_
    rintro e w' ⟨rfl, rfl⟩
    simp only [Pl.share, hu, if_true]
    exact ⟨by simp [errV], h.setRef hk (by have := h.nn _ hk; omega), Upd.one _ _ _ _⟩

theorem drop_no (w : World) (bp bf : Nat) (f : Int) (s : Pl) (h : PoolAt w bp bf s) (hu : s.used f = false) :
    Calls Tryz.prog 178 #[.pointer (some ⟨bp, 0, none⟩), .int .i64 f] w fun e w' => e = .returned (.iface 37 (.int .i64 2)) ∧ w' = w := by
  go_enter Tryz.func178, Tryz.ntmps178
  go_wp2_with (go_at_call 142; refine (used_none _ _ _ _ _ h hu).mono ?_; rintro e w' ⟨rfl, rfl⟩)
  go_ret
  exact ⟨rfl, rfl⟩
theorem drop_yes (w : World) (bp bf : Nat) (f : Int) (s : Pl) (h : PoolAt w bp bf s) (hu : s.used f = true) (hm : s.refs f.toNat ≤ 1000000) :
    Calls Tryz.prog 178 #[.pointer (some ⟨bp, 0, none⟩), .int .i64 f] w fun e w' => e = .returned .nilIface ∧ w' = w.setCell ⟨bf, f.toNat * 17, none⟩ (.int .i64 (s.refs f.toNat - 1)) := by
  obtain ⟨h0, h1, h2⟩ := (s.used_iff f).1 hu
  have c1 := h.refs f.toNat (by omega)
  have c2 := h.fz (f.toNat * 17)
  have c3 := h.nn f.toNat (by omega)
  clear h2
  go_enter Tryz.func178, Tryz.ntmps178
  go_wp2_with (go_at_call 142; refine (used_some _ _ _ _ _ h hu).mono ?_; rintro e w' ⟨rfl, rfl⟩)
  go_ret
  exact ⟨rfl, rfl⟩
theorem drop_any (w : World) (bp bf : Nat) (f : Int) (s : Pl) (h : PoolAt w bp bf s) (hm : ∀ k, k < s.n → s.refs k ≤ 1000000) :
    Calls Tryz.prog 178 #[.pointer (some ⟨bp, 0, none⟩), .int .i64 f] w fun e w' => e = .returned (errV (s.share f (-1)).1) ∧ PoolAt w' bp bf (s.share f (-1)).2 ∧ Upd (fun k => k = bf) w w' := by
  cases hu : s.used f with
  | false =>
    refine (drop_no w bp bf f s h hu).mono ?_
    rintro e w' ⟨rfl, rfl⟩
    simp only [Pl.share, hu]
    exact ⟨by simp [errV], h, Upd.refl _ _⟩
  | true =>
    obtain ⟨h0, h1, h2⟩ := (s.used_iff f).1 hu
    have hk : f.toNat < s.n := by omega
    refine (drop_yes w bp bf f s h hu (hm _ hk)).mono ?_
    rintro e w' ⟨rfl, rfl⟩
    simp only [Pl.share, hu, if_true]
    exact ⟨by simp [errV], h.setRef hk (by have := h.nn _ hk; omega), Upd.one _ _ _ _⟩

theorem alone_none (w : World) (bp bf : Nat) (f : Int) (s : Pl) (h : PoolAt w bp bf s) (hu : s.used f = false) :
    Calls Tryz.prog 195 #[.pointer (some ⟨bp, 0, none⟩), .int .i64 f] w fun e w' => e = .returned (.tuple #[.pointer none, .iface 37 (.int .i64 2)]) ∧ w' = w := by
  go_enter Tryz.func195, Tryz.ntmps195
  go_wp2_with (go_at_call 142; refine (used_none _ _ _ _ _ h hu).mono ?_; rintro e w' ⟨rfl, rfl⟩)
  go_ret2
  exact ⟨rfl, rfl⟩
theorem alone_held (w : World) (bp bf : Nat) (f : Int) (s : Pl) (h : PoolAt w bp bf s) (hu : s.used f = true) (hr : 1 < s.refs f.toNat) :
    Calls Tryz.prog 195 #[.pointer (some ⟨bp, 0, none⟩), .int .i64 f] w fun e w' => e = .returned (.tuple #[.pointer none, .iface 37 (.int .i64 4)]) ∧ w' = w := by
  obtain ⟨h0, h1, h2⟩ := (s.used_iff f).1 hu
  have c1 := h.refs f.toNat (by omega)
  clear h2
  go_enter Tryz.func195, Tryz.ntmps195
  go_wp2_with (go_at_call 142; refine (used_some _ _ _ _ _ h hu).mono ?_; rintro e w' ⟨rfl, rfl⟩)
  go_ret2
  exact ⟨rfl, rfl⟩
theorem alone_yes (w : World) (bp bf : Nat) (f : Int) (s : Pl) (h : PoolAt w bp bf s) (hu : s.used f = true) (hr : s.refs f.toNat ≤ 1) :
    Calls Tryz.prog 195 #[.pointer (some ⟨bp, 0, none⟩), .int .i64 f] w fun e w' => e = .returned (.tuple #[.pointer (some ⟨bf, f.toNat * 17, none⟩), .nilIface]) ∧ w' = w := by
  obtain ⟨h0, h1, h2⟩ := (s.used_iff f).1 hu
  have c1 := h.refs f.toNat (by omega)
  clear h2
  go_enter Tryz.func195, Tryz.ntmps195
  go_wp2_with (go_at_call 142; refine (used_some _ _ _ _ _ h hu).mono ?_; rintro e w' ⟨rfl, rfl⟩)
  go_ret2
  exact ⟨rfl, rfl⟩

theorem get_any (w : World) (bp bf : Nat) (f i : Int) (s : Pl) (h : PoolAt w bp bf s) :
    Calls Tryz.prog 110 #[.pointer (some ⟨bp, 0, none⟩), .int .i64 f, .int .i64 i] w fun e w' => e = .returned (.tuple #[.int .u8 (s.get f i).1, errV (s.get f i).2]) ∧ w' = w := by
  by_cases hi : i < 0 ∨ 15 < i
  · simp only [Pl.get, hi, if_true]
    have e1 : errV 1 = .iface 37 (.int .i64 1) := by simp [errV]
    rw [e1]; clear e1
    go_enter Tryz.func110, Tryz.ntmps110
    go_wp2_with (go_at_call 141; refine (inPage_no _ _ hi).mono ?_; rintro e w' ⟨rfl, rfl⟩)
    go_ret2
    exact ⟨rfl, rfl⟩
  · have i0 : 0 ≤ i := by omega
    have i1 : i ≤ 15 := by omega
    cases hu : s.used f with
    | false =>
      simp only [Pl.get, hi, hu, if_false]
      have e1 : errV 2 = .iface 37 (.int .i64 2) := by simp [errV]
      simp only [Bool.false_eq_true, if_false, e1]
      clear e1 hi
      go_enter Tryz.func110, Tryz.ntmps110
      go_wp2_with (first | (go_at_call 141; refine (inPage_yes _ _ i0 i1).mono ?_; rintro e w' ⟨rfl, rfl⟩) | (go_at_call 142; refine (used_none _ _ _ _ _ h hu).mono ?_; rintro e w' ⟨rfl, rfl⟩))
      go_ret2
      exact ⟨rfl, rfl⟩
    | true =>
      simp only [Pl.get, hi, hu, if_false, if_true, errV_zero]
      clear hi
      obtain ⟨h0, h1, h2⟩ := (s.used_iff f).1 hu
      have c1 := h.byt f.toNat i.toNat (by omega) (by omega)
      have i2 : i < 16 := by omega
      clear h2
      go_enter Tryz.func110, Tryz.ntmps110
      go_wp2_with (first | (go_at_call 141; refine (inPage_yes _ _ i0 i1).mono ?_; rintro e w' ⟨rfl, rfl⟩) | (go_at_call 142; refine (used_some _ _ _ _ _ h hu).mono ?_; rintro e w' ⟨rfl, rfl⟩))
      go_ret2
      exact ⟨rfl, rfl⟩

theorem size_any (w : World) (bp bf : Nat) (s : Pl) (h : PoolAt w bp bf s) :
    Calls Tryz.prog 153 #[.pointer (some ⟨bp, 0, none⟩)] w fun e w' => e = .returned (.int .i64 s.n) ∧ w' = w := by
  obtain ⟨cap, h1⟩ := h.hd
  go_enter Tryz.func153, Tryz.ntmps153
  go_wp2
  go_ret
  exact ⟨rfl, rfl⟩

theorem left_any (w : World) (bp bf : Nat) (s : Pl) (h : PoolAt w bp bf s) :
    Calls Tryz.prog 80 #[.pointer (some ⟨bp, 0, none⟩)] w fun e w' => e = .returned (.int .i64 s.left) ∧ w' = w := by
  obtain ⟨cap, h1⟩ := h.hd
  have h2 := h.le
  go_enter Tryz.func80, Tryz.ntmps80
  go_wp2
  go_loop [3, 10] (fun t i => ∃ k : Nat, k ≤ s.n ∧ i = .int .i64 k ∧ t = .int .i64 (freeTo s.refs k)) (fun _ i => s.n - (intOf i).toNat)
  case atStart => exact ⟨0, Nat.zero_le _, rfl, rfl⟩
  case round =>
    obtain ⟨k, hk, rfl, rfl⟩ := hrel
    have hle := freeTo_le s.refs k
    by_cases hlt : k < s.n
    · have c1 := h.refs k hlt
      have hs : freeTo s.refs (k + 1) = freeTo s.refs k + if s.refs k = 0 then 1 else 0 := rfl
      by_cases hr : s.refs k = 0
      · rw [if_pos hr] at hs
        have HS : Hid _ := hs
        have hr' : (s.refs k == 0) = true := by simp [hr]
        clear hs hr
        go_wp2
        go_round
        case rel => exact ⟨k + 1, by omega, by go_num, by rw [HS.out]; go_num⟩
        case measure => simp [intOf]; omega
      · rw [if_neg hr] at hs
        have HS : Hid _ := hs
        have hr' : (s.refs k == 0) = false := by simp [hr]
        clear hs hr
        go_wp2
        go_round
        case rel => exact ⟨k + 1, by omega, by go_num, by rw [HS.out]; go_num⟩
        case measure => simp [intOf]; omega
    · have : k = s.n := by omega
      subst this
      go_wp2
      go_ret
      exact ⟨rfl, rfl⟩
end Go.Proofs.YtadpibcgjgcjhabGreatDoor
/- What the functions of package frames answer, and what they turn in memory: Set, Of, Take, New. -/
namespace Go.Proofs.YtadpibcgjgcjhabGreatDoor
open Go.ChangeShapes Go.WideShapes Go.ChangeAt Go.RowKit
set_option maxRecDepth 100000

theorem errV1 : errV 1 = .iface 37 (.int .i64 1) := by simp [errV]
theorem errV2 : errV 2 = .iface 37 (.int .i64 2) := by simp [errV]
theorem errV3 : errV 3 = .iface 37 (.int .i64 3) := by simp [errV]
theorem errV4 : errV 4 = .iface 37 (.int .i64 4) := by simp [errV]

theorem set_bound (w : World) (bp : Nat) (f i v : Int) (hi : i < 0 ∨ 15 < i) :
    Calls Tryz.prog 180 #[.pointer (some ⟨bp, 0, none⟩), .int .i64 f, .int .i64 i, .int .u8 v] w fun e w' => e = .returned (.iface 37 (.int .i64 1)) ∧ w' = w := by
  go_enter Tryz.func180, Tryz.ntmps180
  go_wp2_with (go_at_call 141; refine (inPage_no _ _ hi).mono ?_; rintro e w' ⟨rfl, rfl⟩)
  go_ret
  exact ⟨rfl, rfl⟩
theorem set_none (w : World) (bp bf : Nat) (f i v : Int) (s : Pl) (h : PoolAt w bp bf s) (i0 : 0 ≤ i) (i1 : i ≤ 15) (hu : s.used f = false) :
    Calls Tryz.prog 180 #[.pointer (some ⟨bp, 0, none⟩), .int .i64 f, .int .i64 i, .int .u8 v] w fun e w' => e = .returned (.iface 37 (.int .i64 2)) ∧ w' = w := by
  go_enter Tryz.func180, Tryz.ntmps180
  go_wp2_with (first | (go_at_call 141; refine (inPage_yes _ _ i0 i1).mono ?_; rintro e w' ⟨rfl, rfl⟩) | (go_at_call 195; refine (alone_none _ _ _ _ _ h hu).mono ?_; rintro e w' ⟨rfl, rfl⟩))
  go_ret
  exact ⟨rfl, rfl⟩
theorem set_held (w : World) (bp bf : Nat) (f i v : Int) (s : Pl) (h : PoolAt w bp bf s) (i0 : 0 ≤ i) (i1 : i ≤ 15) (hu : s.used f = true) (hr : 1 < s.refs f.toNat) :
    Calls Tryz.prog 180 #[.pointer (some ⟨bp, 0, none⟩), .int .i64 f, .int .i64 i, .int .u8 v] w fun e w' => e = .returned (.iface 37 (.int .i64 4)) ∧ w' = w := by
  go_enter Tryz.func180, Tryz.ntmps180
  go_wp2_with (first | (go_at_call 141; refine (inPage_yes _ _ i0 i1).mono ?_; rintro e w' ⟨rfl, rfl⟩) | (go_at_call 195; refine (alone_held _ _ _ _ _ h hu hr).mono ?_; rintro e w' ⟨rfl, rfl⟩))
  go_ret
  exact ⟨rfl, rfl⟩
theorem set_yes (w : World) (bp bf : Nat) (f i v : Int) (s : Pl) (h : PoolAt w bp bf s) (i0 : 0 ≤ i) (i1 : i ≤ 15) (hu : s.used f = true) (hr : s.refs f.toNat ≤ 1) :
    Calls Tryz.prog 180 #[.pointer (some ⟨bp, 0, none⟩), .int .i64 f, .int .i64 i, .int .u8 v] w fun e w' => e = .returned .nilIface ∧ w' = w.setCell ⟨bf, f.toNat * 17 + 1 + i.toNat, none⟩ (.int .u8 v) := by
  obtain ⟨h0, h1, _⟩ := (s.used_iff f).1 hu
  have c1 := h.byt f.toNat i.toNat (by omega) (by omega)
  have c2 := h.fz (f.toNat * 17 + 1 + i.toNat)
  have i2 : i < 16 := by omega
  go_enter Tryz.func180, Tryz.ntmps180
  go_wp2_with (first | (go_at_call 141; refine (inPage_yes _ _ i0 i1).mono ?_; rintro e w' ⟨rfl, rfl⟩) | (go_at_call 195; refine (alone_yes _ _ _ _ _ h hu hr).mono ?_; rintro e w' ⟨rfl, rfl⟩))
  go_ret
  exact ⟨rfl, rfl⟩
theorem set_any (w : World) (bp bf : Nat) (f i v : Int) (s : Pl) (h : PoolAt w bp bf s) :
    Calls Tryz.prog 180 #[.pointer (some ⟨bp, 0, none⟩), .int .i64 f, .int .i64 i, .int .u8 v] w fun e w' => e = .returned (errV (s.set f i v).1) ∧ PoolAt w' bp bf (s.set f i v).2 ∧ Upd (fun k => k = bf) w w' := by
  by_cases hi : i < 0 ∨ 15 < i
  · refine (set_bound w bp f i v hi).mono ?_
    rintro e w' ⟨rfl, rfl⟩
    simp only [Pl.set, hi, if_true]
    exact ⟨by rw [errV1], h, Upd.refl _ _⟩
  · have i0 : 0 ≤ i := by omega
    have i1 : i ≤ 15 := by omega
    cases hu : s.used f with
    | false =>
      refine (set_none w bp bf f i v s h i0 i1 hu).mono ?_
      rintro e w' ⟨rfl, rfl⟩
      simp only [Pl.set, hi, hu, if_false, Bool.false_eq_true]
      exact ⟨by rw [errV2], h, Upd.refl _ _⟩
    | true =>
      obtain ⟨h0, h1, _⟩ := (s.used_iff f).1 hu
      by_cases hr : 1 < s.refs f.toNat
      · refine (set_held w bp bf f i v s h i0 i1 hu hr).mono ?_
        rintro e w' ⟨rfl, rfl⟩
        simp only [Pl.set, hi, hu, hr, if_false, if_true]
        exact ⟨by rw [errV4], h, Upd.refl _ _⟩
      · refine (set_yes w bp bf f i v s h i0 i1 hu (by omega)).mono ?_
        rintro e w' ⟨rfl, rfl⟩
        simp only [Pl.set, hi, hu, hr, if_false, if_true]
        exact ⟨by rw [errV_zero], h.setByte (by omega) (by omega) v, Upd.one _ _ _ _⟩

/-- The class of a frame with r pages. -/
def classOf (r : Int) : Int := if r = 0 then 0 else if r = 1 then 1 else 2
theorem class_any (w : World) (r : Int) : Calls Tryz.prog 151 #[.int .i64 r] w fun e w' => e = .returned (.int .i64 (classOf r)) ∧ w' = w := by
  by_cases h0 : r = 0
  · subst h0
    go_enter Tryz.func151, Tryz.ntmps151
    go_wp2
    go_ret
    exact ⟨rfl, rfl⟩
  · by_cases h1 : r = 1
    · subst h1
      go_enter Tryz.func151, Tryz.ntmps151
      go_wp2
      go_ret
      exact ⟨rfl, rfl⟩
    · have e0 : (r == 0) = false := by simp [h0]
      have e1 : (r == 1) = false := by simp [h1]
      have e2 : classOf r = 2 := by simp [classOf, h0, h1]
      rw [e2]
      clear h0 h1 e2
      go_enter Tryz.func151, Tryz.ntmps151
      go_wp2
      go_ret
      exact ⟨rfl, rfl⟩

/-- What Of tells: the class, the pages, the error. -/
def Pl.of (s : Pl) (f : Int) : Int × Int × Int := if 0 ≤ f ∧ f < s.n then (classOf (s.refs f.toNat), s.refs f.toNat, 0) else (0, 0, 1)
theorem of_yes (w : World) (bp bf f : Nat) (s : Pl) (h : PoolAt w bp bf s) (hf : f < s.n) :
    Calls Tryz.prog 118 #[.pointer (some ⟨bp, 0, none⟩), .int .i64 f] w fun e w' => e = .returned (.tuple #[.agg #[.int .i64 (classOf (s.refs f)), .int .i64 (s.refs f)], .nilIface]) ∧ Upd (fun _ => False) w w' := by
  obtain ⟨cap, h1⟩ := h.hd
  have h2 := h.le
  have h3 := h.refs f hf
  have hb := World.block_lt_of_cell? w _ h1
  have hb2 := World.block_lt_of_cell? w _ h3
  have H : PoolAt (w.alloc (.cells #[.int .i64 0, .int .i64 0] 67)) bp bf s := h.upd (S := fun _ => False) ((Upd.refl _ _).alloc _) (fun f => f) (fun f => f) hb2
  go_enter Tryz.func118, Tryz.ntmps118
  go_wp2_with (first | (go_at_call 150; refine (has_yes _ _ _ _ _ H hf).mono ?_; rintro e w' ⟨rfl, rfl⟩) | (go_at_call 151; refine (class_any _ _).mono ?_; rintro e w' ⟨rfl, rfl⟩))
  exact bodyPost_ret (v := .tuple #[.agg #[.int .i64 (classOf (s.refs f)), .int .i64 (s.refs f)], .nilIface]) (by simp [results, Tryz.results118, go_sem]) rfl ⟨rfl, (Upd.refl _ _).alloc _⟩
theorem of_no (w : World) (bp bf : Nat) (f : Int) (s : Pl) (h : PoolAt w bp bf s) (hn : 0 < s.n) (hf : f < 0 ∨ s.n ≤ f) :
    Calls Tryz.prog 118 #[.pointer (some ⟨bp, 0, none⟩), .int .i64 f] w fun e w' => e = .returned (.tuple #[.agg #[.int .i64 0, .int .i64 0], .iface 37 (.int .i64 1)]) ∧ Upd (fun _ => False) w w' := by
  have hb2 := World.block_lt_of_cell? w _ (h.refs 0 hn)
  have H : PoolAt (w.alloc (.cells #[.int .i64 0, .int .i64 0] 67)) bp bf s := h.upd (S := fun _ => False) ((Upd.refl _ _).alloc _) (fun f => f) (fun f => f) hb2
  rcases hf with hf | hf
  · go_enter Tryz.func118, Tryz.ntmps118
    go_wp2_with (go_at_call 150; refine (has_neg _ _ _ hf).mono ?_; rintro e w' ⟨rfl, rfl⟩)
    exact bodyPost_ret (v := .tuple #[.agg #[.int .i64 0, .int .i64 0], .iface 37 (.int .i64 1)]) (by simp [results, Tryz.results118, go_sem]) rfl ⟨rfl, (Upd.refl _ _).alloc _⟩
  · go_enter Tryz.func118, Tryz.ntmps118
    go_wp2_with (go_at_call 150; refine (has_big _ _ _ _ _ H hf).mono ?_; rintro e w' ⟨rfl, rfl⟩)
    exact bodyPost_ret (v := .tuple #[.agg #[.int .i64 0, .int .i64 0], .iface 37 (.int .i64 1)]) (by simp [results, Tryz.results118, go_sem]) rfl ⟨rfl, (Upd.refl _ _).alloc _⟩
theorem of_any (w : World) (bp bf : Nat) (f : Int) (s : Pl) (h : PoolAt w bp bf s) (hn : 0 < s.n) :
    Calls Tryz.prog 118 #[.pointer (some ⟨bp, 0, none⟩), .int .i64 f] w fun e w' => e = .returned (.tuple #[.agg #[.int .i64 (s.of f).1, .int .i64 (s.of f).2.1], errV (s.of f).2.2]) ∧ Upd (fun _ => False) w w' := by
  by_cases hf : 0 ≤ f ∧ f < s.n
  · simp only [Pl.of, hf, and_self, if_true, errV_zero]
    obtain ⟨k, rfl⟩ := Int.eq_ofNat_of_zero_le hf.1
    rw [Int.toNat_natCast]
    exact of_yes w bp bf k s h (by omega)
  · simp only [Pl.of, hf, if_false, errV1]
    exact of_no w bp bf f s h hn (by omega)

theorem rowOf_zero : List.replicate 16 (Value.int .u8 0) = rowOf fun _ => 0 := by rfl
theorem zero_u8 (w : World) : (zeroValue 5).run Tryz.prog w = .ok (.int .u8 0) w := by kernel_rfl
/-- 'clear(fr.bytes[:])': the frame has noughts. -/
theorem clear_row (w : World) (bp bf k : Nat) (s : Pl) (h : PoolAt w bp bf s) (hk : k < s.n) (ty : TypeId) :
    (Builtin.clear_ #[100] ty #[.slice (some ⟨bf, k * 17 + 1, none⟩) 16 16]).run Tryz.prog w = .ok (.tuple #[]) (w.setCells bf (k * 17 + 1) (rowOf fun _ => 0)) := by
  rw [← rowOf_zero]
  exact Lib.run_clear_slice w 100 5 ty (.int .u8 0) Tryz.underlying100 zero_u8 rfl rfl bf (k * 17 + 1) 16 16 (by omega) (fun j hj => (h.there hk j hj).1) (fun j hj => (h.there hk j hj).2)

theorem firstFrom_spec (refs : Nat → Int) : ∀ (m k : Nat), match firstFrom refs k m with
    | some j => k ≤ j ∧ j < k + m ∧ refs j = 0 ∧ ∀ i, k ≤ i → i < j → refs i ≠ 0
    | none => ∀ i, k ≤ i → i < k + m → refs i ≠ 0
  | 0, k => by simp only [firstFrom]; intro i h1 h2; omega
  | m + 1, k => by
    simp only [firstFrom]
    by_cases h : refs k = 0
    · rw [if_pos h]; exact ⟨Nat.le_refl _, by omega, h, fun i h1 h2 => by omega⟩
    · rw [if_neg h]
      have := firstFrom_spec refs m (k + 1)
      revert this
      cases firstFrom refs (k + 1) m with
      | none =>
        intro this i h1 h2
        by_cases e : i = k
        · subst e; exact h
        · exact this i (by omega) (by omega)
      | some j =>
        rintro ⟨h1, h2, h3, h4⟩
        refine ⟨by omega, by omega, h3, fun i g1 g2 => ?_⟩
        by_cases e : i = k
        · subst e; exact h
        · exact h4 i (by omega) g2

theorem take_full (w : World) (bp bf : Nat) (s : Pl) (h : PoolAt w bp bf s) (hr : ∀ i, i < s.n → s.refs i ≠ 0) :
    Calls Tryz.prog 200 #[.pointer (some ⟨bp, 0, none⟩)] w fun e w' => e = .returned (.tuple #[.int .i64 0, .iface 37 (.int .i64 3)]) ∧ w' = w := by
  obtain ⟨cap, h1⟩ := h.hd
  have h2 := h.le
  have HR : Hid _ := hr
  clear hr
  go_enter Tryz.func200, Tryz.ntmps200
  go_wp2
  go_loop [11] (fun i => ∃ k : Nat, k ≤ s.n ∧ i = .int .i64 k) (fun i => s.n - (intOf i).toNat)
  case atStart => exact ⟨0, Nat.zero_le _, rfl⟩
  case round =>
    obtain ⟨k, hk, rfl⟩ := hrel
    by_cases hlt : k < s.n
    · have c1 := h.refs k hlt
      have c2 : (s.refs k == 0) = false := by simp [HR.out k hlt]
      go_wp2
      go_round
      case rel => exact ⟨k + 1, by omega, by go_num⟩
      case measure => simp [intOf]; omega
    · go_wp2
      go_ret2
      exact ⟨rfl, rfl⟩
theorem take_at (w : World) (bp bf j : Nat) (s : Pl) (h : PoolAt w bp bf s) (hj : j < s.n) (h0 : s.refs j = 0) (hr : ∀ i, i < j → s.refs i ≠ 0) :
    Calls Tryz.prog 200 #[.pointer (some ⟨bp, 0, none⟩)] w fun e w' => e = .returned (.tuple #[.int .i64 j, .nilIface]) ∧ w' = (w.setCells bf (j * 17 + 1) (rowOf fun _ => 0)).setCell ⟨bf, j * 17, none⟩ (.int .i64 1) := by
  obtain ⟨cap, h1⟩ := h.hd
  have h2 := h.le
  have HR : Hid _ := hr
  have H0 : Hid _ := h0
  clear hr h0
  go_enter Tryz.func200, Tryz.ntmps200
  go_wp2
  go_loop [11] (fun i => ∃ k : Nat, k ≤ j ∧ i = .int .i64 k) (fun i => s.n - (intOf i).toNat)
  case atStart => exact ⟨0, Nat.zero_le _, rfl⟩
  case round =>
    obtain ⟨k, hk, rfl⟩ := hrel
    have hlt : k < s.n := by omega
    have c1 := h.refs k hlt
    by_cases hkj : k < j
    · have c2 : (s.refs k == 0) = false := by simp [HR.out k hkj]
      go_wp2
      go_round
      case rel => exact ⟨k + 1, by omega, by go_num⟩
      case measure => simp [intOf]; omega
    · have e : k = j := by omega
      subst e
      have c2 : (s.refs k == 0) = true := by simp [H0.out]
      have c3 := clear_row w bp bf k s h hlt
      have c4 : (w.setCells bf (k * 17 + 1) (rowOf fun _ => 0)).cell? ⟨bf, k * 17, none⟩ = some (.int .i64 (s.refs k)) := (h.setRow hlt _).refs k hlt
      have c5 : (w.setCells bf (k * 17 + 1) (rowOf fun _ => 0)).frozen? ⟨bf, k * 17, none⟩ = false := (h.setRow hlt _).fz _
      go_wp2
      go_ret2
      exact ⟨rfl, rfl⟩
end Go.Proofs.YtadpibcgjgcjhabGreatDoor
/- What the functions of package frames answer: New. -/
namespace Go.Proofs.YtadpibcgjgcjhabGreatDoor
open Go.ChangeShapes Go.WideShapes Go.ChangeAt Go.RowKit
set_option maxRecDepth 100000

theorem new_no (w : World) (n : Int) (h : n < 1 ∨ 64 < n) :
    Calls Tryz.prog 33 #[.int .i64 n] w fun e w' => e = .returned (.tuple #[.pointer none, .iface 37 (.int .i64 1)]) ∧ w' = w := by
  rcases h with h | h
  · have hd : decide (n < 1) = true := by simp; omega
    go_enter Tryz.func33, Tryz.ntmps33
    go_wp2
    go_ret2
    exact ⟨rfl, rfl⟩
  · have hd : decide (n < 1) = false := by simp; omega
    have hd2 : decide (64 < n) = true := by simp; omega
    go_enter Tryz.func33, Tryz.ntmps33
    go_wp2
    go_ret2
    exact ⟨rfl, rfl⟩

def zeroFrame : Array Value := #[.int .i64 0, .int .u8 0, .int .u8 0, .int .u8 0, .int .u8 0, .int .u8 0, .int .u8 0, .int .u8 0, .int .u8 0, .int .u8 0, .int .u8 0, .int .u8 0, .int .u8 0, .int .u8 0, .int .u8 0, .int .u8 0, .int .u8 0]
def zeroFrames (n : Nat) : Array Value := madeCells zeroFrame (n * 17)
theorem zeroFrames_get (n i : Nat) (h : i < n * 17) : (zeroFrames n)[i]? = some (zeroFrame[i % 17]!) := by
  have : zeroFrame.size = 17 := rfl
  simp [zeroFrames, madeCells, h, this]
theorem info68 : (Tryz.prog.info? 170).map (fun i => (i.size, i.bytes, i.zero)) = some (17, 24, some (.agg zeroFrame)) := by kernel_rfl
theorem make_frames (w : World) (n : Nat) (h : n ≤ 64) :
    (Instr.makeSlice 107 (.int .i64 n) (.int .i64 n)).run Tryz.prog w = .ok (.slice (some ⟨w.heap.size, 0, none⟩) n n) (w.alloc (.cells (zeroFrames n) 170)) := by
  obtain ⟨i, hi, he⟩ := Option.map_eq_some_iff.1 info68
  simp only [Prod.mk.injEq] at he
  have := run_make (P := Tryz.prog) w 107 170 i (.agg zeroFrame) Tryz.underlying107 hi he.2.2 .i64 .i64 n n (by omega) (by omega) (by rw [he.2.1]; omega) (by omega)
  rw [this, he.1, Int.toNat_natCast]
  rfl

/-- A pool that nothing is in. -/
def pl0 (n : Nat) : Pl := { n := n, refs := fun _ => 0, byt := fun _ _ => 0 }
theorem zero_mod (f j : Nat) (hj : j < 16) : zeroFrame[(f * 17 + 1 + j) % 17]! = .int .u8 0 := by
  have : (f * 17 + 1 + j) % 17 = j + 1 := by omega
  rw [this]
  rcases j with _ | _ | _ | _ | _ | _ | _ | _ | _ | _ | _ | _ | _ | _ | _ | _ | j
  all_goals first | rfl | omega
theorem newWorld (w : World) (n : Nat) (h2 : n ≤ 64) :
    PoolAt ((w.alloc (.cells (zeroFrames n) 170)).alloc (.cells #[.slice (some ⟨w.heap.size, 0, none⟩) n n] 109)) (w.heap.size + 1) w.heap.size (pl0 n) where
  hd := by
    have := World.cell?_alloc_new (w.alloc (.cells (zeroFrames n) 170)) #[.slice (some ⟨w.heap.size, 0, none⟩) n n] 109 0
    simp only [World.size_alloc] at this
    exact ⟨n, by rw [this]; rfl⟩
  refs := fun f hf => by
    have hf : f < n := hf
    rw [World.cell?_alloc_old _ _ _ (by simp), World.cell?_alloc_new, zeroFrames_get n _ (by omega)]
    have : f * 17 % 17 = 0 := by omega
    rw [this]; rfl
  byt := fun f j hf hj => by
    have hf : f < n := hf
    rw [World.cell?_alloc_old _ _ _ (by simp), World.cell?_alloc_new, zeroFrames_get n _ (by omega), zero_mod f j hj]; rfl
  fz := fun o => by
    rw [World.frozen?_alloc_old _ _ _ (by simp)]
    exact World.frozen?_alloc_new _ _ _ _
  ne := by omega
  le := h2
  nn := fun f _ => Int.le_refl _
theorem new_yes (w : World) (n : Nat) (h1 : 1 ≤ n) (h2 : n ≤ 64) :
    Calls Tryz.prog 33 #[.int .i64 n] w fun e w' => e = .returned (.tuple #[.pointer (some ⟨w.heap.size + 1, 0, none⟩), .nilIface]) ∧ w' = (w.alloc (.cells (zeroFrames n) 170)).alloc (.cells #[.slice (some ⟨w.heap.size, 0, none⟩) n n] 109) := by
  have hd : decide ((n : Int) < 1) = false := by simp; omega
  have hd2 : decide (64 < (n : Int)) = false := by simp; omega
  have hm := make_frames w n h2
  go_enter Tryz.func33, Tryz.ntmps33
  go_wp2
  go_ret2
  exact ⟨rfl, rfl⟩
theorem new_any (w : World) (n : Nat) (h1 : 1 ≤ n) (h2 : n ≤ 64) :
    Calls Tryz.prog 33 #[.int .i64 n] w fun e w' => e = .returned (.tuple #[.pointer (some ⟨w.heap.size + 1, 0, none⟩), .nilIface]) ∧ PoolAt w' (w.heap.size + 1) w.heap.size (pl0 n) ∧ Upd (fun _ => False) w w' ∧ w'.heap.size = w.heap.size + 2 := by
  refine (new_yes w n h1 h2).mono ?_
  rintro e w' ⟨rfl, rfl⟩
  exact ⟨rfl, newWorld w n h2, ((Upd.refl _ _).alloc _).alloc _, by simp⟩
end Go.Proofs.YtadpibcgjgcjhabGreatDoor
/- The document's answer for chapter 1 (package undercroftref): what its pool is in memory, what its functions answer, and what they turn. -/
namespace Go.Proofs.YtadpibcgjgcjhabGreatDoor
open Go.ChangeShapes Go.WideShapes Go.ChangeAt Go.RowKit
set_option maxRecDepth 100000

/-- The model's pool in memory: one block. -/
structure RefAt (w : World) (bm : Nat) (s : Pl) : Prop where
  num : w.cell? ⟨bm, 0, none⟩ = some (.int .i64 s.n)
  byt : ∀ f i, f < s.n → i < 16 → w.cell? ⟨bm, 1 + f * 16 + i, none⟩ = some (.int .u8 (s.byt f i))
  refs : ∀ f, f < s.n → w.cell? ⟨bm, 1025 + f, none⟩ = some (.int .i64 (s.refs f))
  fz : ∀ o, w.frozen? ⟨bm, o, none⟩ = false
  le : s.n ≤ 64
  nn : ∀ f, f < s.n → 0 ≤ s.refs f

theorem rUsed_yes (w : World) (bm f : Nat) (s : Pl) (h : RefAt w bm s) (hf : f < s.n) (hr : 0 < s.refs f) :
    Calls Tryz.prog 66 #[.pointer (some ⟨bm, 0, none⟩), .int .i64 f] w fun e w' => e = .returned (.bool true) ∧ w' = w := by
  have h1 := h.num
  have h2 := h.le
  have h3 := h.refs f hf
  have i1 : (f : Int) < 64 := by omega
  go_enter Tryz.func66, Tryz.ntmps66
  go_wp2
  go_ret
  exact ⟨rfl, rfl⟩
theorem rUsed_free (w : World) (bm f : Nat) (s : Pl) (h : RefAt w bm s) (hf : f < s.n) (hr : s.refs f = 0) :
    Calls Tryz.prog 66 #[.pointer (some ⟨bm, 0, none⟩), .int .i64 f] w fun e w' => e = .returned (.bool false) ∧ w' = w := by
  have h1 := h.num
  have h2 := h.le
  have h3 := h.refs f hf
  rw [hr] at h3
  have i1 : (f : Int) < 64 := by omega
  clear hr
  go_enter Tryz.func66, Tryz.ntmps66
  go_wp2
  go_ret
  exact ⟨rfl, rfl⟩
theorem rUsed_neg (w : World) (bm : Nat) (f : Int) (hf : f < 0) :
    Calls Tryz.prog 66 #[.pointer (some ⟨bm, 0, none⟩), .int .i64 f] w fun e w' => e = .returned (.bool false) ∧ w' = w := by
  have hd : decide (0 ≤ f) = false := by simp; omega
  go_enter Tryz.func66, Tryz.ntmps66
  go_wp2
  go_ret
  exact ⟨rfl, rfl⟩
theorem rUsed_big (w : World) (bm : Nat) (f : Int) (s : Pl) (h : RefAt w bm s) (hf : s.n ≤ f) :
    Calls Tryz.prog 66 #[.pointer (some ⟨bm, 0, none⟩), .int .i64 f] w fun e w' => e = .returned (.bool false) ∧ w' = w := by
  have h1 := h.num
  have hd : decide (f < s.n) = false := by simp; omega
  have h0 : 0 ≤ f := by omega
  go_enter Tryz.func66, Tryz.ntmps66
  go_wp2
  go_ret
  exact ⟨rfl, rfl⟩
theorem rUsed_any (w : World) (bm : Nat) (f : Int) (s : Pl) (h : RefAt w bm s) :
    Calls Tryz.prog 66 #[.pointer (some ⟨bm, 0, none⟩), .int .i64 f] w fun e w' => e = .returned (.bool (s.used f)) ∧ w' = w := by
  by_cases h0 : f < 0
  · have : s.used f = false := by simp [Pl.used]; omega
    rw [this]; exact rUsed_neg w bm f h0
  · by_cases h1 : f < s.n
    · obtain ⟨k, rfl⟩ := Int.eq_ofNat_of_zero_le (show 0 ≤ f by omega)
      by_cases hr : s.refs k = 0
      · have : s.used k = false := by simp [Pl.used, hr]
        rw [this]; exact rUsed_free w bm k s h (by omega) hr
      · have : s.used k = true := by simp [Pl.used, hr]; omega
        rw [this]; exact rUsed_yes w bm k s h (by omega) (by have := h.nn k (by omega); omega)
    · have : s.used f = false := by simp [Pl.used]; omega
      rw [this]; exact rUsed_big w bm f s h (by omega)
theorem rUsed_is (w : World) (bm : Nat) (f : Int) (s : Pl) (h : RefAt w bm s) {u : Bool} (hu : s.used f = u) :
    Calls Tryz.prog 66 #[.pointer (some ⟨bm, 0, none⟩), .int .i64 f] w fun e w' => e = .returned (.bool u) ∧ w' = w := by
  subst hu; exact rUsed_any w bm f s h

theorem rGet_any (w : World) (bm : Nat) (f i : Int) (s : Pl) (h : RefAt w bm s) :
    Calls Tryz.prog 100 #[.pointer (some ⟨bm, 0, none⟩), .int .i64 f, .int .i64 i] w fun e w' => e = .returned (.tuple #[.int .u8 (s.get f i).1, .int .i64 (s.get f i).2]) ∧ w' = w := by
  by_cases hi : i < 0 ∨ 15 < i
  · simp only [Pl.get, hi, if_true]
    rcases hi with hi | hi
    · have hd : decide (i < 0) = true := by simp; omega
      go_enter Tryz.func100, Tryz.ntmps100
      go_wp2
      go_ret2
      exact ⟨rfl, rfl⟩
    · have hd : decide (i < 0) = false := by simp; omega
      have hd2 : decide (15 < i) = true := by simp; omega
      go_enter Tryz.func100, Tryz.ntmps100
      go_wp2
      go_ret2
      exact ⟨rfl, rfl⟩
  · have i0 : 0 ≤ i := by omega
    have i1 : i ≤ 15 := by omega
    have hd : decide (i < 0) = false := by simp; omega
    have hd2 : decide (15 < i) = false := by simp; omega
    cases hu : s.used f with
    | false =>
      simp only [Pl.get, hi, hu, if_false, Bool.false_eq_true]
      clear hi
      go_enter Tryz.func100, Tryz.ntmps100
      go_wp2_with (go_at_call 66; refine (rUsed_is _ _ _ _ h hu).mono ?_; rintro e w' ⟨rfl, rfl⟩)
      go_ret2
      exact ⟨rfl, rfl⟩
    | true =>
      simp only [Pl.get, hi, hu, if_false, if_true]
      clear hi
      obtain ⟨h0, h1, h2⟩ := (s.used_iff f).1 hu
      have c1 := h.byt f.toNat i.toNat (by omega) (by omega)
      have hl := h.le
      have i2 : i < 16 := by omega
      have f2 : f < 64 := by omega
      clear h2
      go_enter Tryz.func100, Tryz.ntmps100
      go_wp2_with (go_at_call 66; refine (rUsed_is _ _ _ _ h hu).mono ?_; rintro e w' ⟨rfl, rfl⟩)
      go_ret2
      exact ⟨rfl, rfl⟩

theorem RefAt.setRef {w : World} {bm : Nat} {s : Pl} (h : RefAt w bm s) {f : Nat} (hf : f < s.n) {v : Int} (hv : 0 ≤ v) :
    RefAt (w.setCell ⟨bm, 1025 + f, none⟩ (.int .i64 v)) bm { s with refs := setAt s.refs f v } where
  num := by rw [World.cell?_setCell_other _ _ _ _ (addr_ne (Or.inr (by omega)))]; exact h.num
  refs := fun g hg => by
    by_cases e : g = f
    · subst e; rw [World.cell?_setCell_same _ _ _ (h.refs g hf)]; simp [setAt]
    · rw [World.cell?_setCell_other _ _ _ _ (addr_ne (Or.inr (by omega))), h.refs g hg]; simp [setAt, e]
  byt := fun g i hg hi => by
    have hg' : g < s.n := hg
    have := h.le
    rw [World.cell?_setCell_other _ _ _ _ (addr_ne (Or.inr (by omega)))]; exact h.byt g i hg hi
  fz := fun o => by rw [World.frozen?_setCell]; exact h.fz o
  le := h.le
  nn := fun g hg => by
    by_cases e : g = f
    · subst e; simpa [setAt] using hv
    · simpa [setAt, e] using h.nn g hg
theorem RefAt.setByte {w : World} {bm : Nat} {s : Pl} (h : RefAt w bm s) {f i : Nat} (hf : f < s.n) (hi : i < 16) (v : Int) :
    RefAt (w.setCell ⟨bm, 1 + f * 16 + i, none⟩ (.int .u8 v)) bm { s with byt := setAt s.byt f (setAt (s.byt f) i v) } where
  num := by rw [World.cell?_setCell_other _ _ _ _ (addr_ne (Or.inr (by omega)))]; exact h.num
  refs := fun g hg => by
    have := h.le
    rw [World.cell?_setCell_other _ _ _ _ (addr_ne (Or.inr (by omega)))]; exact h.refs g hg
  byt := fun g j hg hj => by
    by_cases e : g = f
    · subst e
      by_cases e2 : j = i
      · subst e2; rw [World.cell?_setCell_same _ _ _ (h.byt g j hf hi)]; simp [setAt]
      · rw [World.cell?_setCell_other _ _ _ _ (addr_ne (Or.inr (by omega))), h.byt g j hg hj]; simp [setAt, e2]
    · rw [World.cell?_setCell_other _ _ _ _ (addr_ne (Or.inr (by omega))), h.byt g j hg hj]; simp [setAt, e]
  fz := fun o => by rw [World.frozen?_setCell]; exact h.fz o
  le := h.le
  nn := h.nn
theorem RefAt.range {w : World} {bm : Nat} {s : Pl} (h : RefAt w bm s) {f : Nat} (hf : f < s.n) : w.rangeAt bm (1 + f * 16) (rowOf (s.byt f)) := by
  intro j v hv
  have hj : j < 16 := by have := (List.getElem?_eq_some_iff.1 hv).1; rw [rowOf_length] at this; exact this
  rw [rowOf_get _ _ hj] at hv
  rw [h.byt f j hf hj]; exact hv
theorem RefAt.there {w : World} {bm : Nat} {s : Pl} (h : RefAt w bm s) {f : Nat} (hf : f < s.n) : w.there bm (1 + f * 16) 16 := fun j hj =>
  ⟨by rw [h.byt f j hf hj]; rfl, h.fz _⟩
theorem RefAt.setRow {w : World} {bm : Nat} {s : Pl} (h : RefAt w bm s) {f : Nat} (hf : f < s.n) (g : Nat → Int) :
    RefAt (w.setCells bm (1 + f * 16) (rowOf g)) bm { s with byt := setAt s.byt f g } where
  num := by rw [World.cell?_setCells_out _ _ _ _ _ (fun _ _ => by simp only; omega)]; exact h.num
  refs := fun k hk => by
    have := h.le
    rw [World.cell?_setCells_out _ _ _ _ _ (fun _ _ => by simp only [rowOf_length]; omega)]; exact h.refs k hk
  byt := fun k j hk hj => by
    by_cases e : k = f
    · subst e
      have := World.rangeAt_setCells_same w bm (1 + k * 16) (rowOf g) (by rw [rowOf_length]; exact h.there hf) j _ (rowOf_get g j hj)
      rw [this]; simp [setAt]
    · rw [World.cell?_setCells_out _ _ _ _ _ (fun _ _ => by simp only [rowOf_length]; omega), h.byt k j hk hj]; simp [setAt, e]
  fz := fun o => by rw [World.frozen?_setCells]; exact h.fz o
  le := h.le
  nn := h.nn
theorem RefAt.upd {S : Nat → Prop} {w w' : World} {bm : Nat} {s : Pl} (h : RefAt w bm s) (u : Upd S w w') (hm : ¬ S bm) : RefAt w' bm s where
  num := u.cell h.num hm
  refs := fun f hk => u.cell (h.refs f hk) hm
  byt := fun f i hk hi => u.cell (h.byt f i hk hi) hm
  fz := fun o => by rw [World.frozen?_of_block (w := w) (u.block bm (World.block_lt_of_cell? w _ h.num) hm)]; exact h.fz o
  le := h.le
  nn := h.nn
end Go.Proofs.YtadpibcgjgcjhabGreatDoor
