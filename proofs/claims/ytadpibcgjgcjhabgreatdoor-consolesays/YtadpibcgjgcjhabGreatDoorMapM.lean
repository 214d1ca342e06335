/- What a map of pages is, plainly, and the document's answer for chapter 2 in memory. -/
import Derived.Test.YtadpibcgjgcjhabGreatDoorPoolA
namespace Go.Proofs.YtadpibcgjgcjhabGreatDoor
open Go.ChangeShapes Go.WideShapes Go.ChangeAt Go.RowKit
set_option maxRecDepth 100000

/-- Where a page is. -/
structure Lf where
  there : Bool
  wr : Bool
  fr : Int
def lf0 : Lf := ⟨false, false, 0⟩
/-- The pages of a guest: their states, their leaves. -/
structure Mp where
  st : Nat → Int
  lf : Nat → Lf
  /-- What lies behind a map's own cells, where it is part of something greater. -/
  rest : Nat → Option Value := fun _ => none
def mp0 : Mp := { st := fun _ => 0, lf := fun _ => lf0 }
def onB (n : Int) : Bool := decide (0 ≤ n) && decide (n < 16)
theorem onB_iff (n : Int) : onB n = true ↔ 0 ≤ n ∧ n < 16 := by simp [onB]
theorem onB_no (n : Int) : onB n = false ↔ n < 0 ∨ 16 ≤ n := by simp [onB]; omega
/-- A page turns to another state: where it is Plain no more its frame is dropped. -/
def turnP (s : Pl) (m : Mp) (n : Nat) (z : Int) : Pl := if (m.lf n).there && !(z == 1) then (s.share (m.lf n).fr (-1)).2 else s
def turnM (m : Mp) (n : Nat) (z : Int) : Mp := { m with st := setAt m.st n z, lf := if (m.lf n).there && !(z == 1) then setAt m.lf n lf0 else m.lf }
def plugR (s : Pl) (m : Mp) (n : Int) : Int × Pl × Mp := if onB n then (if m.st n.toNat = 0 then (0, turnP s m n.toNat 1, turnM m n.toNat 1) else (4, s, m)) else (1, s, m)
def unplugR (s : Pl) (m : Mp) (n : Int) : Int × Pl × Mp := if onB n then (if m.st n.toNat = 0 then (2, s, m) else (0, turnP s m n.toNat 0, turnM m n.toNat 0)) else (1, s, m)
def giveR (s : Pl) (m : Mp) (n : Int) (back : Bool) : Int × Pl × Mp :=
  if onB n then
    (if back then (if m.st n.toNat = 2 then (0, turnP s m n.toNat 1, turnM m n.toNat 1) else (8, s, m))
     else (if m.st n.toNat = 1 then (0, turnP s m n.toNat 2, turnM m n.toNat 2) else (8, s, m)))
  else (1, s, m)
def sealR (m : Mp) (n : Int) : Int × Mp := if onB n then (if (m.lf n.toNat).there then (0, { m with lf := setAt m.lf n.toNat { m.lf n.toNat with wr := false } }) else (8, m)) else (1, m)
/-- What Touch answers: the frame, whether it moved, the error; the pool, the pages. -/
def touchR (s : Pl) (m : Mp) (n : Int) (write : Bool) : (Int × Bool × Int) × Pl × Mp :=
  if onB n then
    if m.st n.toNat = 0 then ((0, false, 2), s, m)
    else if m.st n.toNat = 2 then ((0, false, 6), s, m)
    else if (m.lf n.toNat).there && (!write || (m.lf n.toNat).wr) then (((m.lf n.toNat).fr, false, 0), s, m)
    else if (m.lf n.toNat).there && (s.refs (m.lf n.toNat).fr.toNat == 1) then (((m.lf n.toNat).fr, false, 0), s, { m with lf := setAt m.lf n.toNat { m.lf n.toNat with wr := true } })
    else if s.take.2.1 = 0 then
      ((s.take.1, (m.lf n.toNat).there, 0),
        (if (m.lf n.toNat).there then (({ s.take.2.2 with byt := setAt s.take.2.2.byt s.take.1.toNat (s.take.2.2.byt (m.lf n.toNat).fr.toNat) } : Pl).share (m.lf n.toNat).fr (-1)).2 else s.take.2.2),
        { m with lf := setAt m.lf n.toNat ⟨true, true, s.take.1⟩ })
    else ((0, false, s.take.2.1), s, m)
  else ((0, false, 1), s, m)
def joinR (s : Pl) (m : Mp) (n f : Int) : Int × Pl × Mp :=
  if onB n then
    if (m.lf n.toNat).there && !((m.lf n.toNat).fr == f) && s.same (m.lf n.toNat).fr f then
      (0, ((s.share f 1).2.share (m.lf n.toNat).fr (-1)).2, { m with lf := setAt m.lf n.toNat ⟨true, false, f⟩ })
    else (8, s, m)
  else (1, s, m)

/-- The model's map in memory: its block bx, its pool's block bm. -/
structure RMap (w : World) (bx bm : Nat) (m : Mp) : Prop where
  pool : w.cell? ⟨bx, 0, none⟩ = some (.pointer (some ⟨bm, 0, none⟩))
  st : ∀ n, n < 16 → w.cell? ⟨bx, 1 + n, none⟩ = some (.int .i64 (m.st n))
  th : ∀ n, n < 16 → w.cell? ⟨bx, 17 + n * 3, none⟩ = some (.bool (m.lf n).there)
  wr : ∀ n, n < 16 → w.cell? ⟨bx, 17 + n * 3 + 1, none⟩ = some (.bool (m.lf n).wr)
  fr : ∀ n, n < 16 → w.cell? ⟨bx, 17 + n * 3 + 2, none⟩ = some (.int .i64 (m.lf n).fr)
  fz : ∀ o, w.frozen? ⟨bx, o, none⟩ = false
  rs : ∀ o v, 65 ≤ o → m.rest o = some v → w.cell? ⟨bx, o, none⟩ = some v
theorem RMap.lt {w : World} {bx bm : Nat} {m : Mp} (h : RMap w bx bm m) : bx < w.heap.size := World.block_lt_of_cell? w _ h.pool
theorem RMap.upd {S : Nat → Prop} {w w' : World} {bx bm : Nat} {m : Mp} (h : RMap w bx bm m) (u : Upd S w w') (hx : ¬ S bx) : RMap w' bx bm m where
  pool := u.cell h.pool hx
  st := fun n hn => u.cell (h.st n hn) hx
  th := fun n hn => u.cell (h.th n hn) hx
  wr := fun n hn => u.cell (h.wr n hn) hx
  fr := fun n hn => u.cell (h.fr n hn) hx
  fz := fun o => by rw [World.frozen?_of_block (w := w) (u.block bx h.lt hx)]; exact h.fz o
  rs := fun o v ho hv => u.cell (h.rs o v ho hv) hx
theorem RMap.drew {w : World} {bx bm : Nat} {m : Mp} (h : RMap w bx bm m) : RMap w.drew bx bm m := ⟨h.pool, h.st, h.th, h.wr, h.fr, h.fz, h.rs⟩
theorem RMap.drewN {w : World} {bx bm : Nat} {m : Mp} (h : RMap w bx bm m) (n : Nat) : RMap (w.drewN n) bx bm m := ⟨h.pool, h.st, h.th, h.wr, h.fr, h.fz, h.rs⟩
theorem RMap.setSt {w : World} {bx bm : Nat} {m : Mp} (h : RMap w bx bm m) {n : Nat} (hn : n < 16) (v : Int) : RMap (w.setCell ⟨bx, 1 + n, none⟩ (.int .i64 v)) bx bm { m with st := setAt m.st n v } where
  pool := by rw [World.cell?_setCell_other _ _ _ _ (addr_ne (Or.inr (by omega)))]; exact h.pool
  st := fun k hk => by
    by_cases e : k = n
    · subst e; rw [World.cell?_setCell_same _ _ _ (h.st k hk)]; simp [setAt]
    · rw [World.cell?_setCell_other _ _ _ _ (addr_ne (Or.inr (by omega))), h.st k hk]; simp [setAt, e]
  th := fun k hk => by rw [World.cell?_setCell_other _ _ _ _ (addr_ne (Or.inr (by omega)))]; exact h.th k hk
  wr := fun k hk => by rw [World.cell?_setCell_other _ _ _ _ (addr_ne (Or.inr (by omega)))]; exact h.wr k hk
  fr := fun k hk => by rw [World.cell?_setCell_other _ _ _ _ (addr_ne (Or.inr (by omega)))]; exact h.fr k hk
  fz := fun o => by rw [World.frozen?_setCell]; exact h.fz o
  rs := fun o v ho hv => by rw [World.cell?_setCell_other _ _ _ _ (addr_ne (Or.inr (by omega)))]; exact h.rs o v ho hv
theorem RMap.setWr {w : World} {bx bm : Nat} {m : Mp} (h : RMap w bx bm m) {n : Nat} (hn : n < 16) (v : Bool) : RMap (w.setCell ⟨bx, 17 + n * 3 + 1, none⟩ (.bool v)) bx bm { m with lf := setAt m.lf n { m.lf n with wr := v } } where
  pool := by rw [World.cell?_setCell_other _ _ _ _ (addr_ne (Or.inr (by omega)))]; exact h.pool
  st := fun k hk => by rw [World.cell?_setCell_other _ _ _ _ (addr_ne (Or.inr (by omega)))]; exact h.st k hk
  th := fun k hk => by
    rw [World.cell?_setCell_other _ _ _ _ (addr_ne (Or.inr (by omega))), h.th k hk]
    by_cases e : k = n
    · subst e; simp [setAt]
    · simp [setAt, e]
  wr := fun k hk => by
    by_cases e : k = n
    · subst e; rw [World.cell?_setCell_same _ _ _ (h.wr k hk)]; simp [setAt]
    · rw [World.cell?_setCell_other _ _ _ _ (addr_ne (Or.inr (by omega))), h.wr k hk]; simp [setAt, e]
  fr := fun k hk => by
    rw [World.cell?_setCell_other _ _ _ _ (addr_ne (Or.inr (by omega))), h.fr k hk]
    by_cases e : k = n
    · subst e; simp [setAt]
    · simp [setAt, e]
  fz := fun o => by rw [World.frozen?_setCell]; exact h.fz o
  rs := fun o v ho hv => by rw [World.cell?_setCell_other _ _ _ _ (addr_ne (Or.inr (by omega)))]; exact h.rs o v ho hv
theorem RMap.setLf {w : World} {bx bm : Nat} {m : Mp} (h : RMap w bx bm m) {n : Nat} (hn : n < 16) (l : Lf) :
    RMap (((w.setCell ⟨bx, 17 + n * 3, none⟩ (.bool l.there)).setCell ⟨bx, 17 + n * 3 + 1, none⟩ (.bool l.wr)).setCell ⟨bx, 17 + n * 3 + 2, none⟩ (.int .i64 l.fr)) bx bm { m with lf := setAt m.lf n l } := by
  have hne : ∀ (o : Nat), o ≠ 17 + n * 3 → o ≠ 17 + n * 3 + 1 → o ≠ 17 + n * 3 + 2 →
      (((w.setCell ⟨bx, 17 + n * 3, none⟩ (.bool l.there)).setCell ⟨bx, 17 + n * 3 + 1, none⟩ (.bool l.wr)).setCell ⟨bx, 17 + n * 3 + 2, none⟩ (.int .i64 l.fr)).cell? ⟨bx, o, none⟩ = w.cell? ⟨bx, o, none⟩ := by
    intro o h1 h2 h3
    rw [World.cell?_setCell_other _ _ _ _ (addr_ne (Or.inr (Ne.symm h3))), World.cell?_setCell_other _ _ _ _ (addr_ne (Or.inr (Ne.symm h2))), World.cell?_setCell_other _ _ _ _ (addr_ne (Or.inr (Ne.symm h1)))]
  have e1 : (w.setCell ⟨bx, 17 + n * 3, none⟩ (.bool l.there)).cell? ⟨bx, 17 + n * 3 + 1, none⟩ = some (.bool (m.lf n).wr) := by
    rw [World.cell?_setCell_other _ _ _ _ (addr_ne (Or.inr (by omega)))]; exact h.wr n hn
  have e2 : ((w.setCell ⟨bx, 17 + n * 3, none⟩ (.bool l.there)).setCell ⟨bx, 17 + n * 3 + 1, none⟩ (.bool l.wr)).cell? ⟨bx, 17 + n * 3 + 2, none⟩ = some (.int .i64 (m.lf n).fr) := by
    rw [World.cell?_setCell_other _ _ _ _ (addr_ne (Or.inr (by omega))), World.cell?_setCell_other _ _ _ _ (addr_ne (Or.inr (by omega)))]; exact h.fr n hn
  refine ⟨by rw [hne 0 (by omega) (by omega) (by omega)]; exact h.pool, fun k hk => by rw [hne _ (by omega) (by omega) (by omega)]; exact h.st k hk, ?_, ?_, ?_, fun o => by simp only [World.frozen?_setCell]; exact h.fz o, fun o v ho hv => by rw [hne _ (by omega) (by omega) (by omega)]; exact h.rs o v ho hv⟩
  · intro k hk
    by_cases e : k = n
    · subst e
      rw [World.cell?_setCell_other _ _ _ _ (addr_ne (Or.inr (by omega))), World.cell?_setCell_other _ _ _ _ (addr_ne (Or.inr (by omega))), World.cell?_setCell_same _ _ _ (h.th k hk)]
      simp [setAt]
    · rw [hne _ (by omega) (by omega) (by omega), h.th k hk]; simp [setAt, e]
  · intro k hk
    by_cases e : k = n
    · subst e
      rw [World.cell?_setCell_other _ _ _ _ (addr_ne (Or.inr (by omega))), World.cell?_setCell_same _ _ _ e1]
      simp [setAt]
    · rw [hne _ (by omega) (by omega) (by omega), h.wr k hk]; simp [setAt, e]
  · intro k hk
    by_cases e : k = n
    · subst e
      rw [World.cell?_setCell_same _ _ _ e2]
      simp [setAt]
    · rw [hne _ (by omega) (by omega) (by omega), h.fr k hk]; simp [setAt, e]
theorem Upd.three (w : World) (b o1 o2 o3 : Nat) (v1 v2 v3 : Value) : Upd (fun k => k = b) w (((w.setCell ⟨b, o1, none⟩ v1).setCell ⟨b, o2, none⟩ v2).setCell ⟨b, o3, none⟩ v3) :=
  ((Upd.one w b o1 v1).trans (Upd.one _ b o2 v2) (fun _ _ e => e)).trans (Upd.one _ b o3 v3) (fun _ _ e => e)
theorem Upd.wide {S T : Nat → Prop} {w w' : World} (h : Upd S w w') (hT : ∀ k, S k → T k) : Upd T w w' := ⟨h.os, h.tape, h.output, h.size, fun k hk hn => h.block k hk (fun s => hn (hT k s))⟩
end Go.Proofs.YtadpibcgjgcjhabGreatDoor
