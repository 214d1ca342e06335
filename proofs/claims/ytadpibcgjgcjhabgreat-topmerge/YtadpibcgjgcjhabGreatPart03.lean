/- What a map of pages is, plainly, and the document's answer for chapter 2 in memory. -/
import Derived.Test.YtadpibcgjgcjhabGreatPart02
import Derived.Deep.AppendLies
namespace Go.Proofs.YtadpibcgjgcjhabGreat
open Go.ChangeShapes Go.WideShapes Go.ChangeAt Go.RowKit
set_option maxRecDepth 100000

/-- Where a page is. -/
structure Lf where
  there : Bool
  wr : Bool
  fr : Int
def lf0 : Lf := ⟨false, false, 0⟩
/-- The pages of a guest: their states, their leaves. -/
structure Mp where
  st : Nat → Int
  lf : Nat → Lf
  /-- What lies behind a map's own cells, where it is part of something greater. -/
  rest : Nat → Option Value := fun _ => none
def mp0 : Mp := { st := fun _ => 0, lf := fun _ => lf0 }
def onB (n : Int) : Bool := decide (0 ≤ n) && decide (n < 16)
theorem onB_iff (n : Int) : onB n = true ↔ 0 ≤ n ∧ n < 16 := by simp [onB]
theorem onB_no (n : Int) : onB n = false ↔ n < 0 ∨ 16 ≤ n := by simp [onB]; omega
/-- A page turns to another state: where it is Plain no more its frame is dropped. -/
def turnP (s : Pl) (m : Mp) (n : Nat) (z : Int) : Pl := if (m.lf n).there && !(z == 1) then (s.share (m.lf n).fr (-1)).2 else s
def turnM (m : Mp) (n : Nat) (z : Int) : Mp := { m with st := setAt m.st n z, lf := if (m.lf n).there && !(z == 1) then setAt m.lf n lf0 else m.lf }
def plugR (s : Pl) (m : Mp) (n : Int) : Int × Pl × Mp := if onB n then (if m.st n.toNat = 0 then (0, turnP s m n.toNat 1, turnM m n.toNat 1) else (4, s, m)) else (1, s, m)
def unplugR (s : Pl) (m : Mp) (n : Int) : Int × Pl × Mp := if onB n then (if m.st n.toNat = 0 then (2, s, m) else (0, turnP s m n.toNat 0, turnM m n.toNat 0)) else (1, s, m)
def giveR (s : Pl) (m : Mp) (n : Int) (back : Bool) : Int × Pl × Mp :=
  if onB n then
    (if back then (if m.st n.toNat = 2 then (0, turnP s m n.toNat 1, turnM m n.toNat 1) else (8, s, m))
     else (if m.st n.toNat = 1 then (0, turnP s m n.toNat 2, turnM m n.toNat 2) else (8, s, m)))
  else (1, s, m)
def sealR (m : Mp) (n : Int) : Int × Mp := if onB n then (if (m.lf n.toNat).there then (0, { m with lf := setAt m.lf n.toNat { m.lf n.toNat with wr := false } }) else (8, m)) else (1, m)
/-- What Touch answers: the frame, whether it moved, the error; the pool, the pages. -/
def touchR (s : Pl) (m : Mp) (n : Int) (write : Bool) : (Int × Bool × Int) × Pl × Mp :=
  if onB n then
    if m.st n.toNat = 0 then ((0, false, 2), s, m)
    else if m.st n.toNat = 2 then ((0, false, 6), s, m)
    else if (m.lf n.toNat).there && (!write || (m.lf n.toNat).wr) then (((m.lf n.toNat).fr, false, 0), s, m)
    else if (m.lf n.toNat).there && (s.refs (m.lf n.toNat).fr.toNat == 1) then (((m.lf n.toNat).fr, false, 0), s, { m with lf := setAt m.lf n.toNat { m.lf n.toNat with wr := true } })
    else if s.take.2.1 = 0 then
      ((s.take.1, (m.lf n.toNat).there, 0),
        (if (m.lf n.toNat).there then (({ s.take.2.2 with byt := setAt s.take.2.2.byt s.take.1.toNat (s.take.2.2.byt (m.lf n.toNat).fr.toNat) } : Pl).share (m.lf n.toNat).fr (-1)).2 else s.take.2.2),
        { m with lf := setAt m.lf n.toNat ⟨true, true, s.take.1⟩ })
    else ((0, false, s.take.2.1), s, m)
  else ((0, false, 1), s, m)
def joinR (s : Pl) (m : Mp) (n f : Int) : Int × Pl × Mp :=
  if onB n then
    if (m.lf n.toNat).there && !((m.lf n.toNat).fr == f) && s.same (m.lf n.toNat).fr f then
      (0, ((s.share f 1).2.share (m.lf n.toNat).fr (-1)).2, { m with lf := setAt m.lf n.toNat ⟨true, false, f⟩ })
    else (8, s, m)
  else (1, s, m)

/-- The model's map in memory: its block bx, its pool's block bm. -/
structure RMap (w : World) (bx bm : Nat) (m : Mp) : Prop where
  pool : w.cell? ⟨bx, 0, none⟩ = some (.pointer (some ⟨bm, 0, none⟩))
  st : ∀ n, n < 16 → w.cell? ⟨bx, 1 + n, none⟩ = some (.int .i64 (m.st n))
  th : ∀ n, n < 16 → w.cell? ⟨bx, 17 + n * 3, none⟩ = some (.bool (m.lf n).there)
  wr : ∀ n, n < 16 → w.cell? ⟨bx, 17 + n * 3 + 1, none⟩ = some (.bool (m.lf n).wr)
  fr : ∀ n, n < 16 → w.cell? ⟨bx, 17 + n * 3 + 2, none⟩ = some (.int .i64 (m.lf n).fr)
  fz : ∀ o, w.frozen? ⟨bx, o, none⟩ = false
  rs : ∀ o v, 65 ≤ o → m.rest o = some v → w.cell? ⟨bx, o, none⟩ = some v
theorem RMap.lt {w : World} {bx bm : Nat} {m : Mp} (h : RMap w bx bm m) : bx < w.heap.size := World.block_lt_of_cell? w _ h.pool
theorem RMap.upd {S : Nat → Prop} {w w' : World} {bx bm : Nat} {m : Mp} (h : RMap w bx bm m) (u : Upd S w w') (hx : ¬ S bx) : RMap w' bx bm m where
  pool := u.cell h.pool hx
  st := fun n hn => u.cell (h.st n hn) hx
  th := fun n hn => u.cell (h.th n hn) hx
  wr := fun n hn => u.cell (h.wr n hn) hx
  fr := fun n hn => u.cell (h.fr n hn) hx
  fz := fun o => by rw [World.frozen?_of_block (w := w) (u.block bx h.lt hx)]; exact h.fz o
  rs := fun o v ho hv => u.cell (h.rs o v ho hv) hx
theorem RMap.drew {w : World} {bx bm : Nat} {m : Mp} (h : RMap w bx bm m) : RMap w.drew bx bm m := ⟨h.pool, h.st, h.th, h.wr, h.fr, h.fz, h.rs⟩
theorem RMap.drewN {w : World} {bx bm : Nat} {m : Mp} (h : RMap w bx bm m) (n : Nat) : RMap (w.drewN n) bx bm m := ⟨h.pool, h.st, h.th, h.wr, h.fr, h.fz, h.rs⟩
theorem RMap.setSt {w : World} {bx bm : Nat} {m : Mp} (h : RMap w bx bm m) {n : Nat} (hn : n < 16) (v : Int) : RMap (w.setCell ⟨bx, 1 + n, none⟩ (.int .i64 v)) bx bm { m with st := setAt m.st n v } where
  pool := by rw [World.cell?_setCell_other _ _ _ _ (addr_ne (Or.inr (by omega)))]; exact h.pool
  st := fun k hk => by
    by_cases e : k = n
    · subst e; rw [World.cell?_setCell_same _ _ _ (h.st k hk)]; simp [setAt]
    · rw [World.cell?_setCell_other _ _ _ _ (addr_ne (Or.inr (by omega))), h.st k hk]; simp [setAt, e]
  th := fun k hk => by rw [World.cell?_setCell_other _ _ _ _ (addr_ne (Or.inr (by omega)))]; exact h.th k hk
  wr := fun k hk => by rw [World.cell?_setCell_other _ _ _ _ (addr_ne (Or.inr (by omega)))]; exact h.wr k hk
  fr := fun k hk => by rw [World.cell?_setCell_other _ _ _ _ (addr_ne (Or.inr (by omega)))]; exact h.fr k hk
  fz := fun o => by rw [World.frozen?_setCell]; exact h.fz o
  rs := fun o v ho hv => by rw [World.cell?_setCell_other _ _ _ _ (addr_ne (Or.inr (by omega)))]; exact h.rs o v ho hv
theorem RMap.setWr {w : World} {bx bm : Nat} {m : Mp} (h : RMap w bx bm m) {n : Nat} (hn : n < 16) (v : Bool) : RMap (w.setCell ⟨bx, 17 + n * 3 + 1, none⟩ (.bool v)) bx bm { m with lf := setAt m.lf n { m.lf n with wr := v } } where
  pool := by rw [World.cell?_setCell_other _ _ _ _ (addr_ne (Or.inr (by omega)))]; exact h.pool
  st := fun k hk => by rw [World.cell?_setCell_other _ _ _ _ (addr_ne (Or.inr (by omega)))]; exact h.st k hk
  th := fun k hk => by
    rw [World.cell?_setCell_other _ _ _ _ (addr_ne (Or.inr (by omega))), h.th k hk]
    by_cases e : k = n
    · subst e; simp [setAt]
    · simp [setAt, e]
  wr := fun k hk => by
    by_cases e : k = n
    · subst e; rw [World.cell?_setCell_same _ _ _ (h.wr k hk)]; simp [setAt]
    · rw [World.cell?_setCell_other _ _ _ _ (addr_ne (Or.inr (by omega))), h.wr k hk]; simp [setAt, e]
  fr := fun k hk => by
    rw [World.cell?_setCell_other _ _ _ _ (addr_ne (Or.inr (by omega))), h.fr k hk]
    by_cases e : k = n
    · subst e; simp [setAt]
    · simp [setAt, e]
  fz := fun o => by rw [World.frozen?_setCell]; exact h.fz o
  rs := fun o v ho hv => by rw [World.cell?_setCell_other _ _ _ _ (addr_ne (Or.inr (by omega)))]; exact h.rs o v ho hv
theorem RMap.setLf {w : World} {bx bm : Nat} {m : Mp} (h : RMap w bx bm m) {n : Nat} (hn : n < 16) (l : Lf) :
    RMap (((w.setCell ⟨bx, 17 + n * 3, none⟩ (.bool l.there)).setCell ⟨bx, 17 + n * 3 + 1, none⟩ (.bool l.wr)).setCell ⟨bx, 17 + n * 3 + 2, none⟩ (.int .i64 l.fr)) bx bm { m with lf := setAt m.lf n l } := by
  have hne : ∀ (o : Nat), o ≠ 17 + n * 3 → o ≠ 17 + n * 3 + 1 → o ≠ 17 + n * 3 + 2 →
      (((w.setCell ⟨bx, 17 + n * 3, none⟩ (.bool l.there)).setCell ⟨bx, 17 + n * 3 + 1, none⟩ (.bool l.wr)).setCell ⟨bx, 17 + n * 3 + 2, none⟩ (.int .i64 l.fr)).cell? ⟨bx, o, none⟩ = w.cell? ⟨bx, o, none⟩ := by
    intro o h1 h2 h3
    rw [World.cell?_setCell_other _ _ _ _ (addr_ne (Or.inr (Ne.symm h3))), World.cell?_setCell_other _ _ _ _ (addr_ne (Or.inr (Ne.symm h2))), World.cell?_setCell_other _ _ _ _ (addr_ne (Or.inr (Ne.symm h1)))]
  have e1 : (w.setCell ⟨bx, 17 + n * 3, none⟩ (.bool l.there)).cell? ⟨bx, 17 + n * 3 + 1, none⟩ = some (.bool (m.lf n).wr) := by
    rw [World.cell?_setCell_other _ _ _ _ (addr_ne (Or.inr (by omega)))]; exact h.wr n hn
  have e2 : ((w.setCell ⟨bx, 17 + n * 3, none⟩ (.bool l.there)).setCell ⟨bx, 17 + n * 3 + 1, none⟩ (.bool l.wr)).cell? ⟨bx, 17 + n * 3 + 2, none⟩ = some (.int .i64 (m.lf n).fr) := by
    rw [World.cell?_setCell_other _ _ _ _ (addr_ne (Or.inr (by omega))), World.cell?_setCell_other _ _ _ _ (addr_ne (Or.inr (by omega)))]; exact h.fr n hn
  refine ⟨by rw [hne 0 (by omega) (by omega) (by omega)]; exact h.pool, fun k hk => by rw [hne _ (by omega) (by omega) (by omega)]; exact h.st k hk, ?_, ?_, ?_, fun o => by simp only [World.frozen?_setCell]; exact h.fz o, fun o v ho hv => by rw [hne _ (by omega) (by omega) (by omega)]; exact h.rs o v ho hv⟩
  · intro k hk
    by_cases e : k = n
    · subst e
      rw [World.cell?_setCell_other _ _ _ _ (addr_ne (Or.inr (by omega))), World.cell?_setCell_other _ _ _ _ (addr_ne (Or.inr (by omega))), World.cell?_setCell_same _ _ _ (h.th k hk)]
      simp [setAt]
    · rw [hne _ (by omega) (by omega) (by omega), h.th k hk]; simp [setAt, e]
  · intro k hk
    by_cases e : k = n
    · subst e
      rw [World.cell?_setCell_other _ _ _ _ (addr_ne (Or.inr (by omega))), World.cell?_setCell_same _ _ _ e1]
      simp [setAt]
    · rw [hne _ (by omega) (by omega) (by omega), h.wr k hk]; simp [setAt, e]
  · intro k hk
    by_cases e : k = n
    · subst e
      rw [World.cell?_setCell_same _ _ _ e2]
      simp [setAt]
    · rw [hne _ (by omega) (by omega) (by omega), h.fr k hk]; simp [setAt, e]
theorem Upd.three (w : World) (b o1 o2 o3 : Nat) (v1 v2 v3 : Value) : Upd (fun k => k = b) w (((w.setCell ⟨b, o1, none⟩ v1).setCell ⟨b, o2, none⟩ v2).setCell ⟨b, o3, none⟩ v3) :=
  ((Upd.one w b o1 v1).trans (Upd.one _ b o2 v2) (fun _ _ e => e)).trans (Upd.one _ b o3 v3) (fun _ _ e => e)
theorem Upd.wide {S T : Nat → Prop} {w w' : World} (h : Upd S w w') (hT : ∀ k, S k → T k) : Upd T w w' := ⟨h.os, h.tape, h.output, h.size, fun k hk hn => h.block k hk (fun s => hn (hT k s))⟩
end Go.Proofs.YtadpibcgjgcjhabGreat
/- The document's answer for chapter 2: what its functions answer, and what they turn: On, turn, Plug, Unplug, Give, Seal. -/
namespace Go.Proofs.YtadpibcgjgcjhabGreat
open Go.ChangeShapes Go.WideShapes Go.ChangeAt Go.RowKit
set_option maxRecDepth 100000
attribute [local go_sem ↓] Go.wp_at_zero Go.wp_at_succ

end Go.Proofs.YtadpibcgjgcjhabGreat
/- The document's answer for chapter 2: Unplug, Give, Seal, Join. -/
namespace Go.Proofs.YtadpibcgjgcjhabGreat
open Go.ChangeShapes Go.WideShapes Go.ChangeAt Go.RowKit
set_option maxRecDepth 100000
attribute [local go_sem ↓] Go.wp_at_zero Go.wp_at_succ

end Go.Proofs.YtadpibcgjgcjhabGreat
/- The document's answer for chapter 2: Join, Touch. -/
namespace Go.Proofs.YtadpibcgjgcjhabGreat
open Go.ChangeShapes Go.WideShapes Go.ChangeAt Go.RowKit
set_option maxRecDepth 100000
attribute [local go_sem ↓] Go.wp_at_zero Go.wp_at_succ

/-- The box of a leaf. -/
structure LfAt (w : World) (q : Nat) (l : Lf) : Prop where
  c0 : w.cell? ⟨q, 0, none⟩ = some (.bool l.there)
  c1 : w.cell? ⟨q, 1, none⟩ = some (.bool l.wr)
  c2 : w.cell? ⟨q, 2, none⟩ = some (.int .i64 l.fr)
theorem LfAt.upd {S : Nat → Prop} {w w' : World} {q : Nat} {l : Lf} (h : LfAt w q l) (u : Upd S w w') (hq : ¬ S q) : LfAt w' q l := ⟨u.cell h.c0 hq, u.cell h.c1 hq, u.cell h.c2 hq⟩
theorem LfAt.new (w : World) (t : TypeId) (l : Lf) : LfAt (w.alloc (.cells #[.bool l.there, .bool l.wr, .int .i64 l.fr] t)) w.heap.size l :=
  ⟨by rw [World.cell?_alloc_new]; rfl, by rw [World.cell?_alloc_new]; rfl, by rw [World.cell?_alloc_new]; rfl⟩

end Go.Proofs.YtadpibcgjgcjhabGreat
/- The document's answer for chapter 2: Touch. -/
namespace Go.Proofs.YtadpibcgjgcjhabGreat
open Go.ChangeShapes Go.WideShapes Go.ChangeAt Go.RowKit
set_option maxRecDepth 100000
attribute [local go_sem ↓] Go.wp_at_zero Go.wp_at_succ

end Go.Proofs.YtadpibcgjgcjhabGreat
/- The document's answer for chapter 2: Touch, where a frame is wanted. -/
namespace Go.Proofs.YtadpibcgjgcjhabGreat
open Go.ChangeShapes Go.WideShapes Go.ChangeAt Go.RowKit
set_option maxRecDepth 100000
attribute [local go_sem ↓] Go.wp_at_zero Go.wp_at_succ

end Go.Proofs.YtadpibcgjgcjhabGreat
/- The document's answer for chapter 2: Touch, whatever the page. -/
namespace Go.Proofs.YtadpibcgjgcjhabGreat
open Go.ChangeShapes Go.WideShapes Go.ChangeAt Go.RowKit
set_option maxRecDepth 100000

/-- Each page that is in a frame is in a used one. -/
def LfOk (s : Pl) (m : Mp) : Prop := ∀ k, k < 16 → (m.lf k).there = true → 0 ≤ (m.lf k).fr ∧ (m.lf k).fr < s.n ∧ s.refs (m.lf k).fr.toNat ≠ 0

theorem take_some {s : Pl} {j : Nat} (h : firstFrom s.refs 0 s.n = some j) : s.take = ((j : Int), 0, { s with refs := setAt s.refs j 1, byt := setAt s.byt j fun _ => 0 }) := by
  unfold Pl.take; rw [h]
theorem take_none {s : Pl} (h : firstFrom s.refs 0 s.n = none) : s.take = (0, 3, s) := by
  unfold Pl.take; rw [h]

end Go.Proofs.YtadpibcgjgcjhabGreat
/- Two maps of pages on one pool, plainly: each frame has as many pages in it as leaves lead to it; every act keeps that. -/
namespace Go.Proofs.YtadpibcgjgcjhabGreat
open Go.RowKit

/-- Pages of the first k that are in frame f. -/
def cntTo (lf : Nat → Lf) (f : Int) : Nat → Nat
  | 0 => 0
  | k + 1 => cntTo lf f k + if (lf k).there = true ∧ (lf k).fr = f then 1 else 0
def inIn (l : Lf) (f : Int) : Nat := if l.there = true ∧ l.fr = f then 1 else 0
theorem cntTo_succ (lf : Nat → Lf) (f : Int) (k : Nat) : cntTo lf f (k + 1) = cntTo lf f k + inIn (lf k) f := rfl
theorem cntTo_set_ge (lf : Nat → Lf) (f : Int) (n : Nat) (l : Lf) : ∀ k, k ≤ n → cntTo (setAt lf n l) f k = cntTo lf f k
  | 0, _ => rfl
  | k + 1, h => by
    rw [cntTo_succ, cntTo_succ, cntTo_set_ge lf f n l k (by omega), setAt_other _ _ _ _ (by omega)]
theorem cntTo_set (lf : Nat → Lf) (f : Int) (n : Nat) (l : Lf) : ∀ k, n < k → cntTo (setAt lf n l) f k + inIn (lf n) f = cntTo lf f k + inIn l f
  | 0, h => absurd h (by omega)
  | k + 1, h => by
    rw [cntTo_succ, cntTo_succ]
    by_cases e : k = n
    · subst e
      rw [cntTo_set_ge lf f k l k (Nat.le_refl _), setAt_same]
      omega
    · have := cntTo_set lf f n l k (by omega)
      rw [setAt_other _ _ _ _ e]
      omega
theorem cntTo_le (lf : Nat → Lf) (f : Int) : ∀ k, cntTo lf f k ≤ k
  | 0 => Nat.le_refl _
  | k + 1 => by
    have := cntTo_le lf f k
    rw [cntTo_succ]
    unfold inIn
    split <;> omega
theorem cntTo_pos (lf : Nat → Lf) (n : Nat) : ∀ k, n < k → (lf n).there = true → 1 ≤ cntTo lf (lf n).fr k
  | 0, h, _ => absurd h (by omega)
  | k + 1, h, ht => by
    rw [cntTo_succ]
    by_cases e : k = n
    · subst e
      have : inIn (lf k) (lf k).fr = 1 := by simp [inIn, ht]
      omega
    · have := cntTo_pos lf n k (by omega) ht
      omega
def cnt (m : Mp) (f : Int) : Nat := cntTo m.lf f 16

/-- A page's state is one of three; one that isn't Plain, or is in no frame, has the zero leaf. -/
def Pgs (m : Mp) : Prop := ∀ k, k < 16 → (0 ≤ m.st k ∧ m.st k ≤ 2) ∧ (m.st k ≠ 1 ∨ (m.lf k).there = false → m.lf k = lf0)
theorem Pgs.plain {m : Mp} (h : Pgs m) {k : Nat} (hk : k < 16) (ht : (m.lf k).there = true) : m.st k = 1 := by
  by_cases e : m.st k = 1
  · exact e
  · have := (h k hk).2 (Or.inl e)
    rw [this] at ht
    simp [lf0] at ht
theorem Pgs.zero {m : Mp} (h : Pgs m) {k : Nat} (hk : k < 16) (ht : m.st k ≠ 1) : m.lf k = lf0 := (h k hk).2 (Or.inl ht)
theorem Pgs.out {m : Mp} (h : Pgs m) {k : Nat} (hk : k < 16) (ht : (m.lf k).there = false) : m.lf k = lf0 := (h k hk).2 (Or.inr ht)
theorem Pgs.leaf {m : Mp} (h : Pgs m) {k : Nat} (hs : m.st k = 1) {l : Lf} (ht : l.there = true) : Pgs { m with st := m.st, lf := setAt m.lf k l } := by
  intro i hi
  refine ⟨(h i hi).1, ?_⟩
  by_cases e : i = k
  · subst e
    simp only [setAt_same]
    rintro (c | c)
    · exact absurd hs c
    · rw [ht] at c; exact absurd c (by simp)
  · simp only [setAt_other _ _ _ _ e]
    exact (h i hi).2
theorem Pgs.turn {m : Mp} (h : Pgs m) {k : Nat} {z : Int} (z0 : 0 ≤ z) (z2 : z ≤ 2) : Pgs (turnM m k z) := by
  intro i hi
  unfold turnM
  by_cases e : i = k
  · subst e
    refine ⟨by simp only [setAt_same]; exact ⟨z0, z2⟩, ?_⟩
    cases ht : (m.lf i).there with
    | false =>
      simp only [Bool.false_and, Bool.false_eq_true, if_false]
      intro _
      exact h.out hi ht
    | true =>
      by_cases ez : z = 1
      · subst ez
        simp [setAt_same, ht]
      · simp [setAt_same, ez]
  · refine ⟨by simp only [setAt_other _ _ _ _ e]; exact (h i hi).1, ?_⟩
    simp only [setAt_other _ _ _ _ e]
    split
    · simp only [setAt_other _ _ _ _ e]; exact (h i hi).2
    · exact (h i hi).2
theorem Pgs.start : Pgs mp0 := fun _ _ => ⟨by simp [mp0], fun _ => rfl⟩

/-- What holds of a pool and a map on it; b: the other pages on that pool, 48 of them in one row. -/
structure Inv (s : Pl) (a b : Mp) : Prop where
  pa : Pgs a
  cnt : ∀ f : Nat, f < s.n → s.refs f = cnt a f + cntTo b.lf f 48
  ina : ∀ k, k < 16 → (a.lf k).there = true → 0 ≤ (a.lf k).fr ∧ (a.lf k).fr < s.n
theorem Inv.le {s : Pl} {a b : Mp} (h : Inv s a b) : ∀ f, f < s.n → s.refs f ≤ 64 := fun f hf => by
  have := h.cnt f hf
  have := cntTo_le a.lf f 16
  have := cntTo_le b.lf f 48
  simp only [Go.Proofs.YtadpibcgjgcjhabGreat.cnt] at *
  omega
theorem Inv.ok {s : Pl} {a b : Mp} (h : Inv s a b) : LfOk s a := fun k hk ht => by
  obtain ⟨h0, h1⟩ := h.ina k hk ht
  refine ⟨h0, h1, ?_⟩
  have := h.cnt (a.lf k).fr.toNat (by omega)
  have := cntTo_pos a.lf k 16 hk ht
  simp only [Go.Proofs.YtadpibcgjgcjhabGreat.cnt, Int.toNat_of_nonneg h0] at *
  omega
theorem Inv.used {s : Pl} {a b : Mp} (h : Inv s a b) {k : Nat} (hk : k < 16) (ht : (a.lf k).there = true) : s.used (a.lf k).fr = true := by
  obtain ⟨h0, h1, h2⟩ := h.ok k hk ht
  exact (s.used_iff _).2 ⟨h0, h1, h2⟩
theorem Inv.start (n : Nat) : Inv (pl0 n) mp0 mp0 where
  pa := Pgs.start
  cnt := fun f _ => by
    have : ∀ k, cntTo mp0.lf (f : Int) k = 0 := by
      intro k
      induction k with
      | zero => rfl
      | succ k ih => rw [cntTo_succ, ih]; simp [inIn, mp0, lf0]
    simp [pl0, Go.Proofs.YtadpibcgjgcjhabGreat.cnt, this]
  ina := fun k _ ht => by simp [mp0, lf0] at ht

/-- A leaf turns: the frames' numbers turn with it. -/
theorem Inv.leaf {s : Pl} {a b : Mp} (h : Inv s a b) {k : Nat} (hk : k < 16) (l : Lf) (st : Nat → Int) (refs : Nat → Int) (byt : Nat → Nat → Int) (hl : l.there = true → 0 ≤ l.fr ∧ l.fr < s.n)
    (hr : ∀ f : Nat, f < s.n → refs f + inIn (a.lf k) f = s.refs f + inIn l f) (hq : Pgs { a with st := st, lf := setAt a.lf k l }) : Inv { s with refs := refs, byt := byt } { a with st := st, lf := setAt a.lf k l } b where
  pa := hq
  cnt := fun f hf => by
    have h1 := h.cnt f hf
    have h2 := cntTo_set a.lf f k l 16 hk
    have h3 := hr f hf
    simp only [Go.Proofs.YtadpibcgjgcjhabGreat.cnt] at *
    omega
  ina := fun i hi ht => by
    by_cases e : i = k
    · subst e; simp only [setAt_same] at ht ⊢; exact hl ht
    · simp only [setAt_other _ _ _ _ e] at ht ⊢; exact h.ina i hi ht
theorem Inv.same {s : Pl} {a b : Mp} (h : Inv s a b) (byt : Nat → Nat → Int) (st : Nat → Int) (hq : Pgs { a with st := st }) : Inv { s with byt := byt } { a with st := st } b := ⟨hq, h.cnt, h.ina⟩

theorem inIn_lf0 (f : Int) : inIn lf0 f = 0 := by simp [inIn, lf0]
/-- A share or a drop of a used frame, at each number. -/
theorem share_refs {s : Pl} {f d : Int} (hu : s.used f = true) : (s.share f d).2 = { s with refs := setAt s.refs f.toNat (s.refs f.toNat + d) } := by
  unfold Pl.share; rw [if_pos hu]
theorem Inv.turn {s : Pl} {a b : Mp} (h : Inv s a b) {k : Nat} (hk : k < 16) (z : Int) (z0 : 0 ≤ z) (z2 : z ≤ 2) : Inv (turnP s a k z) (turnM a k z) b := by
  have hq := h.pa.turn (k := k) z0 z2
  revert hq
  unfold turnP turnM
  intro hq
  cases ht : ((a.lf k).there && !(z == 1)) with
  | false =>
    rw [ht] at hq
    simp only [Bool.false_eq_true, if_false] at hq ⊢
    exact h.same s.byt _ hq
  | true =>
    rw [ht] at hq
    simp only [if_true] at hq ⊢
    have ht' := ht
    simp only [Bool.and_eq_true] at ht'
    obtain ⟨f0, f1⟩ := h.ina k hk ht'.1
    rw [share_refs (h.used hk ht'.1)]
    refine h.leaf hk lf0 _ _ s.byt (fun e => by simp [lf0] at e) ?_ hq
    intro f hf
    rw [inIn_lf0]
    by_cases e : f = (a.lf k).fr.toNat
    · subst e
      have : inIn (a.lf k) (((a.lf k).fr.toNat : Nat) : Int) = 1 := by rw [Int.toNat_of_nonneg f0]; simp [inIn, ht'.1]
      rw [setAt_same]
      omega
    · have : inIn (a.lf k) (f : Int) = 0 := by
        unfold inIn
        rw [if_neg]
        rintro ⟨_, e2⟩
        omega
      rw [setAt_other _ _ _ _ e]
      omega
theorem turnM_b {s : Pl} {a b : Mp} (h : Inv s a b) {n : Int} {z : Int} (ho : onB n = true) (z0 : 0 ≤ z := by omega) (z2 : z ≤ 2 := by omega) : Inv (turnP s a n.toNat z) (turnM a n.toNat z) b :=
  h.turn (by have := (onB_iff n).1 ho; omega) z z0 z2
theorem Inv.plug {s : Pl} {a b : Mp} (h : Inv s a b) (n : Int) : Inv (plugR s a n).2.1 (plugR s a n).2.2 b := by
  unfold plugR
  split
  · rename_i ho
    split
    · exact turnM_b h ho
    · exact h
  · exact h
theorem Inv.unplug {s : Pl} {a b : Mp} (h : Inv s a b) (n : Int) : Inv (unplugR s a n).2.1 (unplugR s a n).2.2 b := by
  unfold unplugR
  split
  · rename_i ho
    split
    · exact h
    · exact turnM_b h ho
  · exact h
theorem Inv.give {s : Pl} {a b : Mp} (h : Inv s a b) (n : Int) (back : Bool) : Inv (giveR s a n back).2.1 (giveR s a n back).2.2 b := by
  unfold giveR
  split
  · rename_i ho
    split
    · split
      · exact turnM_b h ho
      · exact h
    · split
      · exact turnM_b h ho
      · exact h
  · exact h
theorem Inv.wr {s : Pl} {a b : Mp} (h : Inv s a b) {k : Nat} (hk : k < 16) (v : Bool) (ht : (a.lf k).there = true) : Inv s { a with lf := setAt a.lf k { a.lf k with wr := v } } b :=
  h.leaf hk { a.lf k with wr := v } a.st s.refs s.byt (fun e => h.ina k hk e) (fun _ _ => rfl) (h.pa.leaf (h.pa.plain hk ht) ht)
theorem Inv.seal {s : Pl} {a b : Mp} (h : Inv s a b) (n : Int) : Inv s (sealR a n).2 b := by
  unfold sealR
  split
  · rename_i ho
    split
    · rename_i ht; exact h.wr (by have := (onB_iff n).1 ho; omega) false ht
    · exact h
  · exact h
theorem inIn_at {l : Lf} {f : Nat} (ht : l.there = true) (h0 : 0 ≤ l.fr) : inIn l (f : Int) = if f = l.fr.toNat then 1 else 0 := by
  unfold inIn
  by_cases e : f = l.fr.toNat
  · rw [if_pos e, if_pos ⟨ht, by omega⟩]
  · rw [if_neg e, if_neg (fun c => e (by omega))]
theorem inIn_no {l : Lf} {f : Int} (ht : l.there = false) : inIn l f = 0 := by simp [inIn, ht]
theorem setAt_if (g : Nat → Int) (k i : Nat) (v : Int) : setAt g k v i = if i = k then v else g i := rfl
theorem Inv.touch {s : Pl} {a b : Mp} (h : Inv s a b) (n : Int) (wt : Bool) : Inv (touchR s a n wt).2.1 (touchR s a n wt).2.2 b := by
  unfold touchR
  split
  · rename_i ho
    have hk : n.toNat < 16 := by have := (onB_iff n).1 ho; omega
    generalize n.toNat = k at hk
    split
    · exact h
    · rename_i hs0
      split
      · exact h
      · rename_i hs2
        have hst : a.st k = 1 := by have := (h.pa k hk).1; omega
        split
        · exact h
        · split
          · rename_i ha
            exact h.wr hk true (by simp only [Bool.and_eq_true] at ha; exact ha.1)
          · cases hff : firstFrom s.refs 0 s.n with
            | none =>
              rw [take_none hff]
              rw [if_neg (show ¬ ((3 : Int) = 0) by omega)]
              exact h
            | some j =>
              rw [take_some hff]
              rw [if_pos rfl]
              have hs := firstFrom_spec s.refs s.n 0
              rw [hff] at hs
              obtain ⟨_, j1, j2, _⟩ := hs
              have lj : (⟨true, true, (j : Int)⟩ : Lf).there = true := rfl
              cases ht : (a.lf k).there with
              | false =>
                simp only [Bool.false_eq_true, if_false]
                refine h.leaf hk ⟨true, true, (j : Int)⟩ a.st _ _ (fun _ => ⟨by show (0 : Int) ≤ (j : Int); omega, by show (j : Int) < s.n; omega⟩) ?_ (h.pa.leaf hst rfl)
                intro f hf
                rw [inIn_no ht, inIn_at lj (by show (0 : Int) ≤ (j : Int); omega), setAt_if]
                simp only [Int.toNat_natCast]
                split
                · rename_i e; subst e; omega
                · omega
              | true =>
                obtain ⟨f0, f1, f2⟩ := h.ok k hk ht
                have hne : (a.lf k).fr.toNat ≠ j := fun e => f2 (by rw [e]; exact j2)
                simp only [if_true]
                rw [share_refs (by
                  refine (Pl.used_iff _ _).2 ⟨f0, f1, ?_⟩
                  show setAt s.refs j 1 (a.lf k).fr.toNat ≠ 0
                  rw [setAt_other _ _ _ _ hne]; exact f2)]
                refine h.leaf hk ⟨true, true, (j : Int)⟩ a.st _ _ (fun _ => ⟨by show (0 : Int) ≤ (j : Int); omega, by show (j : Int) < s.n; omega⟩) ?_ (h.pa.leaf hst rfl)
                intro f hf
                rw [inIn_at ht f0, inIn_at lj (by show (0 : Int) ≤ (j : Int); omega)]
                simp only [Int.toNat_natCast, setAt_if]
                by_cases e1 : f = (a.lf k).fr.toNat
                · rw [if_pos e1, if_pos e1, if_neg (by omega), if_neg (by omega), ← e1]; omega
                · rw [if_neg e1, if_neg e1]
                  by_cases e2 : f = j
                  · rw [if_pos e2, if_pos e2, e2, j2]; omega
                  · rw [if_neg e2, if_neg e2]
  · exact h
theorem Inv.join {s : Pl} {a b : Mp} (h : Inv s a b) (n f : Int) : Inv (joinR s a n f).2.1 (joinR s a n f).2.2 b := by
  unfold joinR
  split
  · rename_i ho
    have hk : n.toNat < 16 := by have := (onB_iff n).1 ho; omega
    generalize n.toNat = k at hk
    split
    · rename_i hc
      simp only [Bool.and_eq_true, Bool.not_eq_true', beq_eq_false_iff_ne, ne_eq] at hc
      obtain ⟨⟨ht, hne⟩, hs⟩ := hc
      obtain ⟨f0, f1, f2⟩ := h.ok k hk ht
      have hu : s.used f = true := by
        unfold Pl.same at hs
        simp only [Bool.and_eq_true] at hs
        exact hs.1.2
      obtain ⟨g0, g1, g2⟩ := (s.used_iff f).1 hu
      have hnn : (a.lf k).fr.toNat ≠ f.toNat := by omega
      rw [share_refs hu]
      rw [share_refs (by
        refine (Pl.used_iff _ _).2 ⟨f0, f1, ?_⟩
        show setAt s.refs f.toNat _ (a.lf k).fr.toNat ≠ 0
        rw [setAt_other _ _ _ _ hnn]; exact f2)]
      refine h.leaf hk ⟨true, false, f⟩ a.st _ s.byt (fun _ => ⟨g0, g1⟩) ?_ (h.pa.leaf (h.pa.plain hk ht) rfl)
      intro i hi
      rw [inIn_at ht f0, inIn_at (l := ⟨true, false, f⟩) rfl g0]
      simp only [setAt_if]
      by_cases e1 : i = (a.lf k).fr.toNat
      · rw [if_pos e1, if_pos e1, if_neg (by omega), if_neg (by omega), ← e1]; omega
      · rw [if_neg e1, if_neg e1]
        by_cases e2 : i = f.toNat
        · rw [if_pos e2, if_pos e2, e2]; omega
        · rw [if_neg e2, if_neg e2]
    · exact h
  · exact h
theorem Inv.set {s : Pl} {a b : Mp} (h : Inv s a b) (f i v : Int) : Inv (s.set f i v).2 a b := by
  unfold Pl.set
  split
  · exact h
  · split
    · split
      · exact h
      · exact h.same _ a.st h.pa
    · exact h
theorem plug_n (s : Pl) (m : Mp) (n : Int) : (plugR s m n).2.1.n = s.n := by
  unfold plugR turnP
  split
  · split
    · split
      · exact share_n _ _ _
      · rfl
    · rfl
  · rfl
theorem unplug_n (s : Pl) (m : Mp) (n : Int) : (unplugR s m n).2.1.n = s.n := by
  unfold unplugR turnP
  split
  · split
    · rfl
    · split
      · exact share_n _ _ _
      · rfl
  · rfl
theorem give_n (s : Pl) (m : Mp) (n : Int) (b : Bool) : (giveR s m n b).2.1.n = s.n := by
  unfold giveR turnP
  split
  · split
    · split
      · split
        · exact share_n _ _ _
        · rfl
      · rfl
    · split
      · split
        · exact share_n _ _ _
        · rfl
      · rfl
  · rfl
theorem touch_n (s : Pl) (m : Mp) (n : Int) (wt : Bool) : (touchR s m n wt).2.1.n = s.n := by
  unfold touchR
  split
  · split
    · rfl
    · split
      · rfl
      · split
        · rfl
        · split
          · rfl
          · split
            · simp only
              split
              · rw [share_n]; exact take_n s
              · exact take_n s
            · rfl
  · rfl
theorem join_n (s : Pl) (m : Mp) (n f : Int) : (joinR s m n f).2.1.n = s.n := by
  unfold joinR
  split
  · split
    · simp only [share_n]
    · rfl
  · rfl
end Go.Proofs.YtadpibcgjgcjhabGreat
/- The document's answer for chapter 3: entries as lists, in memory; Find. -/
namespace Go.Proofs.YtadpibcgjgcjhabGreat
open Go.ChangeShapes Go.WideShapes Go.ChangeAt Go.RowKit
set_option maxRecDepth 100000
attribute [local go_sem ↓] Go.wp_at_zero Go.wp_at_succ

/-- An entry. -/
structure En where
  root : Int
  page : Int
  dest : Int
  may : Bool
  lf : Lf
def en0 : En := ⟨0, 0, 0, false, lf0⟩
def atE (es : List En) (k : Nat) : En := es.getD k en0
def enCells (e : En) : List Value := [.int .i64 e.root, .int .i64 e.page, .int .i64 e.dest, .bool e.may, .bool e.lf.there, .bool e.lf.wr, .int .i64 e.lf.fr]
def enAll : List En → List Value
  | [] => []
  | e :: es => enCells e ++ enAll es
theorem enAll_length : ∀ es : List En, (enAll es).length = es.length * 7
  | [] => rfl
  | e :: es => by
    have := enAll_length es
    simp only [enAll, List.length_append, this, List.length_cons, enCells, List.length_nil]
    omega
theorem enAll_append : ∀ es fs : List En, enAll (es ++ fs) = enAll es ++ enAll fs
  | [], _ => rfl
  | e :: es, fs => by simp [enAll, enAll_append es fs]
theorem enAll_get : ∀ (es : List En) (i j : Nat), i < es.length → j < 7 → (enAll es)[i * 7 + j]? = (enCells (atE es i))[j]?
  | [], _, _, h, _ => absurd h (by simp)
  | e :: es, 0, j, _, hj => by
    rw [Nat.zero_mul, Nat.zero_add]
    show (enCells e ++ enAll es)[j]? = (enCells e)[j]?
    rw [List.getElem?_append_left (show j < (enCells e).length from hj)]
  | e :: es, i + 1, j, h, hj => by
    have := enAll_get es i j (by simpa using h) hj
    rw [show (i + 1) * 7 + j = (enCells e).length + (i * 7 + j) by show _ = 7 + _; omega]
    show (enCells e ++ enAll es)[(enCells e).length + (i * 7 + j)]? = _
    rw [List.getElem?_append_right (Nat.le_add_right _ _), Nat.add_sub_cancel_left, this]
    rfl
theorem enAll_one : ∀ es : List En, ∀ v ∈ enAll es, v.oneCell' = true
  | [], v, h => by simp [enAll] at h
  | e :: es, v, h => by
    simp only [enAll, List.mem_append] at h
    rcases h with h | h
    · simp only [enCells, List.mem_cons, List.not_mem_nil, or_false] at h
      rcases h with rfl | rfl | rfl | rfl | rfl | rfl | rfl <;> rfl
    · exact enAll_one es v h
/-- A list of entries that a slice holds. -/
def SlC (w : World) (base : Nat) (v : Value) (es : List En) : Prop := w.ownsRow base 94 7 v es.length (enAll es)
theorem SlC.nil (w : World) (base : Nat) : SlC w base (.slice none 0 0) [] := World.ownsRow_nil _ _ _ _
theorem SlC.form {w : World} {base : Nat} {v : Value} {es : List En} (h : SlC w base v es) : ∃ a cap, v = .slice a es.length cap ∧ (∀ i, i < es.length → ∃ g, a = some ⟨g, 0, none⟩ ∧ base ≤ g ∧ g < w.heap.size ∧ ∀ j, j < 7 → w.cell? ⟨g, i * 7 + j, none⟩ = (enCells (atE es i))[j]?) := by
  rcases h.2 with ⟨rfl, h0⟩ | ⟨g, cap, cur, rfl, hb, hg, _⟩
  · exact ⟨none, 0, by rw [h0], fun i hi => absurd hi (by omega)⟩
  · refine ⟨some ⟨g, 0, none⟩, cap, rfl, fun i hi => ⟨g, rfl, hb, ?_, fun j hj => ?_⟩⟩
    · rcases Nat.lt_or_ge g w.heap.size with hlt | hge
      · exact hlt
      · rw [Array.getElem?_eq_none hge] at hg; cases hg
    · have e := enAll_get es i j hi hj
      have hlt : i * 7 + j < (enAll es).length := by rw [enAll_length]; omega
      obtain ⟨u, hu⟩ : ∃ u, (enAll es)[i * 7 + j]? = some u := ⟨_, List.getElem?_eq_getElem hlt⟩
      have := World.ownsRow.cells h (g := g) rfl _ _ hu
      rw [Addr.add_mid, Nat.zero_add] at this
      rw [this, ← hu, e]
def isAt (r p : Int) (e : En) : Bool := (e.root == r) && (e.page == p)
def fndI (es : List En) (r p : Int) : Int := match es.findIdx? (isAt r p) with
  | some i => i
  | none => -1
theorem fndI_some {es : List En} {r p : Int} {k : Nat} (hk : k < es.length) (h : isAt r p (atE es k) = true) (hb : ∀ i, i < k → isAt r p (atE es i) = false) : fndI es r p = k := by
  have : es.findIdx? (isAt r p) = some k := by
    rw [List.findIdx?_eq_some_iff_getElem]
    refine ⟨hk, ?_, fun j hj => ?_⟩
    · simpa [atE, List.getD_eq_getElem?_getD, List.getElem?_eq_getElem hk] using h
    · have := hb j hj
      simpa [atE, List.getD_eq_getElem?_getD, List.getElem?_eq_getElem (show j < es.length by omega)] using this
  unfold fndI
  rw [this]
theorem fndI_none {es : List En} {r p : Int} (hb : ∀ i, i < es.length → isAt r p (atE es i) = false) : fndI es r p = -1 := by
  have : es.findIdx? (isAt r p) = none := by
    rw [List.findIdx?_eq_none_iff]
    intro x hx
    obtain ⟨i, hi, rfl⟩ := List.getElem_of_mem hx
    have := hb i hi
    simpa [atE, List.getD_eq_getElem?_getD, List.getElem?_eq_getElem hi] using this
  unfold fndI
  rw [this]
/-- Of the first k those that are kept. -/
def keepTo (P : Nat → Bool) (es : List En) : Nat → List En
  | 0 => []
  | k + 1 => keepTo P es k ++ if P k then [atE es k] else []
theorem keepTo_length (P : Nat → Bool) (es : List En) : ∀ k, (keepTo P es k).length ≤ k
  | 0 => Nat.le_refl _
  | k + 1 => by
    have := keepTo_length P es k
    unfold keepTo
    rw [List.length_append]
    split
    · simp; omega
    · simp; omega
theorem SlC.upd {S : Nat → Prop} {w w' : World} {base : Nat} {v : Value} {es : List En} (h : SlC w base v es) (u : Upd S w w') (hS : ∀ k, v.ownBlock = some k → ¬ S k) : SlC w' base v es := by
  refine ⟨h.1, ?_⟩
  rcases h.2 with h0 | ⟨g, cap, cur, rfl, hb, hg, r⟩
  · exact Or.inl h0
  · refine Or.inr ⟨g, cap, cur, rfl, hb, ?_, r⟩
    have hlt : g < w.heap.size := by
      rcases Nat.lt_or_ge g w.heap.size with hlt | hge
      · exact hlt
      · rw [Array.getElem?_eq_none hge] at hg; cases hg
    rw [u.block g hlt (hS g rfl)]; exact hg
def zeroEn : Array Value := #[.int .i64 0, .int .i64 0, .int .i64 0, .bool false, .bool false, .bool false, .int .i64 0]
theorem infoEn : (Tryz.prog.info? 94).map (fun i => (i.size, i.bytes, i.zero)) = some (7, 48, some (.agg zeroEn)) := by kernel_rfl
/-- What an append of one entry leaves. -/
theorem SlC.grown {w wr w2 : World} {v : Value} {es : List En} {x : En} {g cap : Nat} (hu : Upd (fun _ => False) w wr) (hS : SlC wr w.heap.size v es) (o : Obj)
    (hown : w2.ownsRow w.heap.size 94 7 (.slice (some ⟨g, 0, none⟩) (es.length + 1) cap) (es.length + 1) (enAll es ++ enCells x)) (hgrow : (wr.alloc o).grownBy w2 v.ownBlock) :
    SlC w2 w.heap.size (.slice (some ⟨g, 0, none⟩) (es.length + 1) cap) (es ++ [x]) ∧ Upd (fun _ => False) w w2 := by
  refine ⟨?_, hgrow.os.trans hu.os, hgrow.tape.trans hu.tape, hgrow.output.trans hu.output, ?_, ?_⟩
  · unfold SlC
    rw [enAll_append, List.length_append]
    simpa [enAll] using hown
  · have := hgrow.size
    simp only [World.size_alloc] at this
    have := hu.size
    omega
  · intro k hk _
    have hz := hu.size
    rw [hgrow.block k (by simp only [World.size_alloc]; omega) (by
      intro e
      have := World.ownsRow.lt hS k e.symm
      omega), Below.heap_alloc _ _ _ (by omega)]
    exact hu.block k hk (fun f => f)

end Go.Proofs.YtadpibcgjgcjhabGreat
/- The document's answer for chapter 3: Forget, Point, Put. -/
namespace Go.Proofs.YtadpibcgjgcjhabGreat
open Go.ChangeShapes Go.WideShapes Go.ChangeAt Go.RowKit
set_option maxRecDepth 100000
attribute [local go_sem ↓] Go.wp_at_zero Go.wp_at_succ

theorem SlC.weak {w : World} {b b' : Nat} {v : Value} {es : List En} (h : SlC w b v es) (hb : b' ≤ b) : SlC w b' v es := by
  refine ⟨h.1, ?_⟩
  rcases h.2 with h0 | ⟨g, cap, cur, hv, hg, r⟩
  · exact Or.inl h0
  · exact Or.inr ⟨g, cap, cur, hv, Nat.le_trans hb hg, r⟩
/-- Put, plainly. -/
def putC (es : List En) (e : En) : List En :=
  let l := keepTo (fun i => (i : Int) != fndI es e.root e.page) es es.length ++ [e]
  if 4 < l.length then keepTo (fun i => (i : Int) != 0) l l.length else l
end Go.Proofs.YtadpibcgjgcjhabGreat
/- The document's answer for chapter 3: an entry behind Point; two lists of entries held against each other. -/
namespace Go.Proofs.YtadpibcgjgcjhabGreat
open Go.ChangeShapes Go.WideShapes Go.ChangeAt Go.RowKit
set_option maxRecDepth 100000
attribute [local go_sem ↓] Go.wp_at_zero Go.wp_at_succ

/-- An entry behind Point. -/
def pnt (d : Int) (l : Lf) (e : En) : En := if e.dest == d then { e with lf := l } else e
def pntTo (d : Int) (l : Lf) (es : List En) : Nat → List En
  | 0 => []
  | k + 1 => pntTo d l es k ++ [pnt d l (atE es k)]
def pntN (d : Int) (es : List En) : Nat → Nat
  | 0 => 0
  | k + 1 => pntN d es k + if (atE es k).dest == d then 1 else 0
theorem pntTo_length (d : Int) (l : Lf) (es : List En) : ∀ k, (pntTo d l es k).length = k
  | 0 => rfl
  | k + 1 => by simp [pntTo, pntTo_length d l es k]
theorem pntN_le (d : Int) (es : List En) : ∀ k, pntN d es k ≤ k
  | 0 => Nat.le_refl _
  | k + 1 => by
    have := pntN_le d es k
    unfold pntN
    split <;> omega
end Go.Proofs.YtadpibcgjgcjhabGreat
/- A guest, plainly; the document's answer for chapter 4 in memory. -/
namespace Go.Proofs.YtadpibcgjgcjhabGreat
open Go.ChangeShapes Go.WideShapes Go.ChangeAt Go.RowKit
set_option maxRecDepth 100000

/-- A guest: its pages, its cache (leaves are looked up), its root, how often a table was read. -/
structure Gs where
  m : Mp
  c : List En
  root : Int
  walks : Int
def gs0 : Gs := ⟨mp0, [], -1, 0⟩
def gTouch (s : Pl) (g : Gs) (n : Int) (wt : Bool) : (Int × Int) × Pl × Gs := (((touchR s g.m n wt).1.1, (touchR s g.m n wt).1.2.2), (touchR s g.m n wt).2.1, { g with m := (touchR s g.m n wt).2.2 })
/-- Behind the table: the page To is touched. -/
def gStep (s : Pl) (g : Gs) (x : En) (found wt : Bool) : (Int × Int) × Pl × Gs :=
  if wt && !x.may then ((0, 5), s, g)
  else if 0 < (gTouch s g x.dest wt).1.2 then ((0, (gTouch s g x.dest wt).1.2), (gTouch s g x.dest wt).2)
  else (((gTouch s g x.dest wt).1.1, 0), (gTouch s g x.dest wt).2.1, if found then (gTouch s g x.dest wt).2.2 else { (gTouch s g x.dest wt).2.2 with c := putC (gTouch s g x.dest wt).2.2.c x })
/-- What a table's byte says. -/
def gEn (root page b : Int) : En := ⟨root, page, b % 16, b / 64 % 2 == 1, lf0⟩
/-- The table is read. -/
def gWalk (s : Pl) (g : Gs) (page : Int) (wt : Bool) : (Int × Int) × Pl × Gs :=
  if 0 < (gTouch s g g.root false).1.2 then ((0, (gTouch s g g.root false).1.2), (gTouch s g g.root false).2)
  else if (gTouch s g g.root false).2.1.byt (gTouch s g g.root false).1.1.toNat page.toNat < 128 then ((0, 5), (gTouch s g g.root false).2.1, { (gTouch s g g.root false).2.2 with walks := g.walks + 1 })
  else gStep (gTouch s g g.root false).2.1 { (gTouch s g g.root false).2.2 with walks := g.walks + 1 } (gEn g.root page ((gTouch s g g.root false).2.1.byt (gTouch s g g.root false).1.1.toNat page.toNat)) false wt
/-- The frame of an address: D2. -/
def gAt (s : Pl) (g : Gs) (addr : Int) (wt : Bool) : (Int × Int) × Pl × Gs :=
  if addr < 0 ∨ 255 < addr then ((0, 1), s, g)
  else if g.root = -1 then gTouch s g (addr / 16) wt
  else if 0 ≤ fndI g.c g.root (addr / 16) then gStep s g (atE g.c (fndI g.c g.root (addr / 16)).toNat) true wt
  else gWalk s g (addr / 16) wt
def gLoad (s : Pl) (g : Gs) (addr : Int) : (Int × Int) × Pl × Gs :=
  if 0 < (gAt s g addr false).1.2 then ((0, (gAt s g addr false).1.2), (gAt s g addr false).2)
  else (((gAt s g addr false).2.1.byt (gAt s g addr false).1.1.toNat (addr % 16).toNat, 0), (gAt s g addr false).2)
def gStore (s : Pl) (g : Gs) (addr v : Int) : Int × Pl × Gs :=
  if 0 < (gAt s g addr true).1.2 then ((gAt s g addr true).1.2, (gAt s g addr true).2)
  else (((gAt s g addr true).2.1.set (gAt s g addr true).1.1 (addr % 16) v).1, ((gAt s g addr true).2.1.set (gAt s g addr true).1.1 (addr % 16) v).2, (gAt s g addr true).2.2)
def gRoot (g : Gs) (n : Int) : Int × Gs := if n < -1 ∨ 15 < n then (1, g) else (0, { g with root := n })
def gForget (g : Gs) (addr : Int) : Int × Gs :=
  if addr < 0 ∨ 255 < addr then (1, g) else (0, { g with c := keepTo (fun i => (i : Int) != fndI g.c g.root (addr / 16)) g.c g.c.length })
def gForgetAll (g : Gs) (n : Int) : Int × Gs := if onB n then (0, { g with c := keepTo (fun i => (atE g.c i).root != n) g.c g.c.length }) else (1, g)
/-- The entries as they are told: each leaf is its page's. -/
def gShow (m : Mp) (e : En) : En := { e with lf := m.lf e.dest.toNat }
def gCached (g : Gs) : List En := g.c.map (gShow g.m)

/-- What lies behind the map in a guest's block. -/
def gRest (v : Value) (root walks : Int) : Nat → Option Value := fun o => if o = 65 then some v else if o = 66 then some (.int .i64 root) else if o = 67 then some (.int .i64 walks) else none
/-- The document's guest in memory: its block bg, its pool's block bm, the list of its entries v. -/
structure RGu (w : World) (bg bm base : Nat) (v : Value) (g : Gs) : Prop where
  mp : RMap w bg bm { g.m with rest := gRest v g.root g.walks }
  sl : SlC w base v g.c
  nb : ∀ k, v.ownBlock = some k → k ≠ bg ∧ k ≠ bm
theorem SlC.ownLt {w : World} {base : Nat} {v : Value} {es : List En} (h : SlC w base v es) {g : Nat} (hg : v.ownBlock = some g) : base ≤ g ∧ g < w.heap.size := by
  rcases h.2 with ⟨rfl, _⟩ | ⟨g', cap, cur, rfl, hb, hg', _⟩
  · simp [Value.ownBlock] at hg
  · obtain rfl : g' = g := by simpa [Value.ownBlock] using hg
    exact ⟨hb, (Array.getElem?_eq_some_iff.1 hg').1⟩
/-- Whatever list is kept now: the one that was kept, or a new one. -/
def Fr (w : World) (v v' : Value) : Prop := ∀ k, v'.ownBlock = some k → v.ownBlock = some k ∨ w.heap.size ≤ k
theorem Fr.refl (w : World) (v : Value) : Fr w v v := fun _ h => Or.inl h
theorem Fr.of {w w2 : World} {v v' : Value} {z : Nat} {es : List En} (hs : SlC w2 z v' es) (hz : w.heap.size ≤ z) : Fr w v v' := fun _ h => Or.inr (Nat.le_trans hz (hs.ownLt h).1)
theorem touch_rest (s : Pl) (m : Mp) (n : Int) (wt : Bool) (r : Nat → Option Value) : touchR s { m with rest := r } n wt = ((touchR s m n wt).1, (touchR s m n wt).2.1, { (touchR s m n wt).2.2 with rest := r }) := by
  unfold touchR
  repeat' split
  all_goals first | rfl | contradiction
variable {w w' : World} {bg bm base : Nat} {v : Value} {g : Gs}
theorem RGu.c65 (h : RGu w bg bm base v g) : w.cell? ⟨bg, 65, none⟩ = some v := h.mp.rs 65 v (by omega) rfl
theorem RGu.c66 (h : RGu w bg bm base v g) : w.cell? ⟨bg, 66, none⟩ = some (.int .i64 g.root) := h.mp.rs 66 _ (by omega) rfl
theorem RGu.c67 (h : RGu w bg bm base v g) : w.cell? ⟨bg, 67, none⟩ = some (.int .i64 g.walks) := h.mp.rs 67 _ (by omega) rfl
theorem RGu.upd {S : Nat → Prop} (h : RGu w bg bm base v g) (u : Upd S w w') (hb : ¬ S bg) (hv : ∀ k, v.ownBlock = some k → ¬ S k) : RGu w' bg bm base v g := ⟨h.mp.upd u hb, h.sl.upd u hv, h.nb⟩
/-- The map's own cells turn. -/
theorem RGu.map {m' : Mp} (h : RGu w bg bm base v g) (u : Upd (fun k => k = bm ∨ k = bg) w w') (hm : RMap w' bg bm { m' with rest := gRest v g.root g.walks }) : RGu w' bg bm base v { g with m := m' } :=
  ⟨hm, h.sl.upd u (fun k hk e => by have := h.nb k hk; omega), h.nb⟩
/-- A cell behind the map turns. -/
theorem RMap.setRest {m : Mp} {o : Nat} {u : Value} {r : Nat → Option Value} (h : RMap w bg bm m) (ho : 65 ≤ o) (hc : ∃ z, w.cell? ⟨bg, o, none⟩ = some z) (hr : ∀ p, p ≠ o → r p = m.rest p) (hr2 : r o = some u) : RMap (w.setCell ⟨bg, o, none⟩ u) bg bm { m with rest := r } where
  pool := by rw [World.cell?_setCell_other _ _ _ _ (addr_ne (Or.inr (by omega)))]; exact h.pool
  st := fun k hk => by rw [World.cell?_setCell_other _ _ _ _ (addr_ne (Or.inr (by omega)))]; exact h.st k hk
  th := fun k hk => by rw [World.cell?_setCell_other _ _ _ _ (addr_ne (Or.inr (by omega)))]; exact h.th k hk
  wr := fun k hk => by rw [World.cell?_setCell_other _ _ _ _ (addr_ne (Or.inr (by omega)))]; exact h.wr k hk
  fr := fun k hk => by rw [World.cell?_setCell_other _ _ _ _ (addr_ne (Or.inr (by omega)))]; exact h.fr k hk
  fz := fun p => by rw [World.frozen?_setCell]; exact h.fz p
  rs := fun p z hp hz => by
    by_cases e : p = o
    · subst e
      obtain ⟨z0, h0⟩ := hc
      rw [World.cell?_setCell_same _ _ _ h0]
      exact hr2.symm.trans hz
    · rw [World.cell?_setCell_other _ _ _ _ (addr_ne (Or.inr (Ne.symm e)))]
      exact h.rs p z hp (by rw [← hr p e]; exact hz)
theorem RGu.setWalks (h : RGu w bg bm base v g) (n : Int) : RGu (w.setCell ⟨bg, 67, none⟩ (.int .i64 n)) bg bm base v { g with walks := n } :=
  ⟨h.mp.setRest (r := gRest v g.root n) (by omega) ⟨_, h.c67⟩ (fun p hp => by simp [gRest, hp]) rfl, h.sl.upd (Upd.one w bg 67 _) (fun k hk e => (h.nb k hk).1 e), h.nb⟩
theorem RGu.setRoot (h : RGu w bg bm base v g) (n : Int) : RGu (w.setCell ⟨bg, 66, none⟩ (.int .i64 n)) bg bm base v { g with root := n } :=
  ⟨h.mp.setRest (r := gRest v n g.walks) (by omega) ⟨_, h.c66⟩ (fun p hp => by simp [gRest, hp]) rfl, h.sl.upd (Upd.one w bg 66 _) (fun k hk e => (h.nb k hk).1 e), h.nb⟩
theorem RGu.setC {z : Nat} {v' : Value} {c' : List En} (h : RGu w bg bm base v g) (hs : SlC w z v' c') (hz : base ≤ z) (h1 : bg < z) (h2 : bm < z) : RGu (w.setCell ⟨bg, 65, none⟩ v') bg bm base v' { g with c := c' } := by
  have hg : ∀ k, v'.ownBlock = some k → z ≤ k := fun k hk => by
    rcases hs.2 with ⟨rfl, _⟩ | ⟨g', cap, cur, rfl, hb, _, _⟩
    · simp [Value.ownBlock] at hk
    · obtain rfl : g' = k := by simpa [Value.ownBlock] using hk
      exact hb
  refine ⟨h.mp.setRest (r := gRest v' g.root g.walks) (by omega) ⟨_, h.c65⟩ (fun p hp => by simp [gRest, hp]) rfl, (hs.weak hz).upd (Upd.one w bg 65 _) (fun k hk e => by have := hg k hk; omega), fun k hk => by have := hg k hk; omega⟩
end Go.Proofs.YtadpibcgjgcjhabGreat
