/- A page is scanned, plainly (E4). -/
import Derived.Test.YtadpibcgjgcjhabGreatDoorHoJ
namespace Go.Proofs.YtadpibcgjgcjhabGreatDoor
open Go.RowKit
variable {h : Hs} {t t' : Nat → Nat → Int} {F : Nat → Option Fl} {W W' : Int} {n : Nat} {x y : Gs} {f f' : Fl} {s' : Pl}

/-- A page ahead that has the same bytes as a frame. -/
def hHit (h : Hs) (fr : Int) (k : Nat) : Bool := (rowL h k).there && h.s.same (rowL h k).fr fr
def hFst (h : Hs) (fr : Int) : Nat → Nat → Option Nat
  | _, 0 => none
  | k, m + 1 => if hHit h fr k = true then some k else hFst h fr (k + 1) m
theorem hFst_spec (h : Hs) (fr : Int) : ∀ m k, (∃ j, hFst h fr k m = some j ∧ k ≤ j ∧ j < k + m ∧ hHit h fr j = true ∧ ∀ i, k ≤ i → i < j → hHit h fr i = false) ∨ (hFst h fr k m = none ∧ ∀ i, k ≤ i → i < k + m → hHit h fr i = false)
  | 0, k => Or.inr ⟨rfl, fun i h1 h2 => by omega⟩
  | m + 1, k => by
    unfold hFst
    by_cases hh : hHit h fr k = true
    · rw [if_pos hh]
      exact Or.inl ⟨k, rfl, by omega, by omega, hh, fun i h1 h2 => by omega⟩
    · have hf : hHit h fr k = false := by simpa using hh
      rw [if_neg hh]
      rcases hFst_spec h fr m (k + 1) with ⟨j, e, a, b, c, d⟩ | ⟨e, d⟩
      · refine Or.inl ⟨j, e, by omega, by omega, c, fun i h1 h2 => ?_⟩
        by_cases e2 : i = k
        · subst e2; exact hf
        · exact d i (by omega) h2
      · refine Or.inr ⟨e, fun i h1 h2 => ?_⟩
        by_cases e2 : i = k
        · subst e2; exact hf
        · exact d i (by omega) (by omega)
/-- All pages of a frame are sealed, up to a place in the row. -/
def sealOf (m : Mp) (base : Nat) (fr : Int) (i : Nat) : Mp := { m with lf := fun k => if (k < 16 ∧ base + k < i) ∧ (m.lf k).there = true ∧ (m.lf k).fr = fr then { m.lf k with wr := false } else m.lf k }
def hSealTo (h : Hs) (fr : Int) (i : Nat) : Hs := ⟨h.s, fun j => (h.g j).map fun x => { x with m := sealOf x.m (16 * j) fr i }⟩
theorem sealTo_row (h : Hs) (fr : Int) (i k : Nat) : rowL (hSealTo h fr i) k = if k < i ∧ (rowL h k).there = true ∧ (rowL h k).fr = fr then { rowL h k with wr := false } else rowL h k := by
  unfold rowL hSealTo
  simp only
  cases hg : h.g (k / 16) with
  | none => simp [gLf, lf0]
  | some x =>
    simp only [Option.map_some, gLf, sealOf]
    have e1 : 16 * (k / 16) + k % 16 = k := by omega
    have e2 : k % 16 < 16 := by omega
    simp only [e1, e2, true_and]
    by_cases hc : k < i ∧ (x.m.lf (k % 16)).there = true ∧ (x.m.lf (k % 16)).fr = fr
    · exact (if_pos hc).trans (if_pos hc).symm
    · exact (if_neg hc).trans (if_neg hc).symm
theorem sealTo_rowS (h : Hs) (fr : Int) (i : Nat) : rowS (hSealTo h fr i) = rowS h := by
  funext k
  unfold rowS hSealTo
  simp only
  cases hg : h.g (k / 16) with
  | none => rfl
  | some x => rfl
theorem sealTo_keep (h : Hs) (fr : Int) (i k : Nat) : (rowL (hSealTo h fr i) k).there = (rowL h k).there ∧ (rowL (hSealTo h fr i) k).fr = (rowL h k).fr ∧ ((rowL (hSealTo h fr i) k).wr = true → (rowL h k).wr = true) := by
  rw [sealTo_row]
  split
  · exact ⟨rfl, rfl, fun e => by simp at e⟩
  · exact ⟨rfl, rfl, fun e => e⟩
theorem cntTo_kind {L M : Nat → Lf} (f : Int) : ∀ k, (∀ i, i < k → (L i).there = (M i).there ∧ (L i).fr = (M i).fr) → cntTo L f k = cntTo M f k
  | 0, _ => rfl
  | k + 1, h => by
    obtain ⟨a, b⟩ := h k (by omega)
    rw [cntTo_succ, cntTo_succ, cntTo_kind f k (fun i hi => h i (by omega))]
    unfold inIn
    rw [a, b]
theorem Pgs.sealed {m : Mp} (h : Pgs m) (base : Nat) (fr : Int) (i : Nat) : Pgs (sealOf m base fr i) := by
  intro k hk
  refine ⟨(h k hk).1, fun hc => ?_⟩
  unfold sealOf at hc ⊢
  simp only at hc ⊢
  split
  · next e =>
    rw [if_pos e] at hc
    exfalso
    rcases hc with hc | hc
    · exact hc (h.plain hk e.2.1)
    · rw [e.2.1] at hc; simp at hc
  · next e =>
    rw [if_neg e] at hc
    exact (h k hk).2 hc
theorem sealTo_g (h : Hs) (fr : Int) (i : Nat) {j : Nat} {y : Gs} (hy : (hSealTo h fr i).g j = some y) : ∃ x, h.g j = some x ∧ y = { x with m := sealOf x.m (16 * j) fr i } := by
  have hy : (h.g j).map (fun x => ({ x with m := sealOf x.m (16 * j) fr i } : Gs)) = some y := hy
  cases hx : h.g j with
  | none => rw [hx] at hy; simp at hy
  | some x => rw [hx] at hy; simp at hy; exact ⟨x, rfl, hy.symm⟩
theorem sealTo_at (h : Hs) (fr : Int) (i : Nat) {j : Nat} {x : Gs} (hx : h.g j = some x) : (hSealTo h fr i).g j = some { x with m := sealOf x.m (16 * j) fr i } := by
  show (h.g j).map _ = _
  rw [hx]; rfl
theorem HF.seal (hf : HF h t F W) (fr : Int) (i : Nat) : HF (hSealTo h fr i) t F W := by
  have hk := sealTo_keep h fr i
  refine ⟨⟨⟨⟨fun q hq => ?_, fun k hk64 ht => ?_⟩, hf.hr.inv.byt, fun j y hy => ?_⟩, ⟨fun k hk64 ht hw => ?_, fun k hk64 ht => ?_, fun k hk64 ht => ?_⟩, ?_⟩, fun j y hy => ?_, fun j => ?_, fun j y q hy hq => ?_⟩
  · rw [cntTo_kind (M := rowL h) q 64 (fun k _ => ⟨(hk k).1, (hk k).2.1⟩)]
    exact hf.hr.inv.cn.cnt q hq
  · rw [(hk k).1] at ht
    rw [(hk k).2.1]
    exact hf.hr.inv.cn.rng k hk64 ht
  · obtain ⟨x, hx, rfl⟩ := sealTo_g h fr i hy
    obtain ⟨a, b⟩ := hf.hr.inv.gi j x hx
    exact ⟨a, { b with pg := b.pg.sealed _ _ _ }⟩
  · rw [(hk k).1] at ht
    rw [(hk k).2.1]
    exact hf.hr.ri.one k hk64 ht ((hk k).2.2 hw)
  · rw [(hk k).1] at ht
    exact hf.hr.ri.out k hk64 ht
  · rw [(hk k).1] at ht
    rw [(hk k).2.1]
    exact hf.hr.ri.byt k hk64 ht
  · rw [sealTo_rowS]; exact hf.hr.le
  · obtain ⟨x, hx, rfl⟩ := sealTo_g h fr i hy
    exact hf.blk j x hx
  · rw [← hf.non j]
    show (h.g j).map _ = none ↔ _
    cases h.g j <;> simp
  · obtain ⟨x, hx, rfl⟩ := sealTo_g h fr i hy
    have := hf.fl j x q hx hq
    exact ⟨this.st, this.b, this.root, this.c⟩
/-- Frames of pages that are there: the same bytes. -/
theorem HF.same_iff (hf : HF h t F W) {i j : Nat} (hi : i < 64) (hj : j < 64) (ti : (rowL h i).there = true) (tj : (rowL h j).there = true) : h.s.same (rowL h i).fr (rowL h j).fr = true ↔ ∀ b, b < 16 → t i b = t j b := by
  have ui := hf.hr.inv.cn.used hi ti
  have uj := hf.hr.inv.cn.used hj tj
  unfold Pl.same
  simp only [Bool.and_eq_true, List.all_eq_true, List.mem_range, beq_iff_eq, ui, uj, true_and]
  constructor
  · intro hb b h16
    rw [← hf.hr.ri.byt i hi ti b h16, ← hf.hr.ri.byt j hj tj b h16]
    exact hb b h16
  · intro hb b h16
    rw [hf.hr.ri.byt i hi ti b h16, hf.hr.ri.byt j hj tj b h16]
    exact hb b h16
/-- A page is scanned. -/
def hScan (h : Hs) (n p : Int) : (Bool × Int) × Hs :=
  if 0 < hWho h n then ((false, hWho h n), h)
  else if onB p = true then
    (if ((hAt h n).m.lf p.toNat).there = true then
      (match hFst h ((hAt h n).m.lf p.toNat).fr 0 (16 * n.toNat + p.toNat) with
      | none => ((false, 0), h)
      | some k => if (rowL h k).fr = ((hAt h n).m.lf p.toNat).fr then ((false, 0), h)
        else ((true, (gJoin h.s (hAt (hSealTo h (rowL h k).fr 64) n) p (rowL h k).fr).1), (hSealTo h (rowL h k).fr 64).put n.toNat (gJoin h.s (hAt (hSealTo h (rowL h k).fr 64) n) p (rowL h k).fr).2))
    else ((false, 0), h))
  else ((false, 1), h)
/-- A page joins another's frame. -/
theorem HF.join (hf : HF h t F W) (hx : h.g n = some x) {p k : Nat} (hp : p < 16) (ht : (x.m.lf p).there = true) (hs : h.s.same (rowL h k).fr (x.m.lf p).fr = true) (hne : (rowL h k).fr ≠ (x.m.lf p).fr) :
    (gJoin h.s { x with m := sealOf x.m (16 * n) (rowL h k).fr 64 } p (rowL h k).fr).1 = 0 ∧
    HF ((hSealTo h (rowL h k).fr 64).put n (gJoin h.s { x with m := sealOf x.m (16 * n) (rowL h k).fr 64 } p (rowL h k).fr).2) t F W ∧
    rowL ((hSealTo h (rowL h k).fr 64).put n (gJoin h.s { x with m := sealOf x.m (16 * n) (rowL h k).fr 64 } p (rowL h k).fr).2) = setAt (rowL (hSealTo h (rowL h k).fr 64)) (16 * n + p) ⟨true, false, (rowL h k).fr⟩ := by
  obtain ⟨hn, _⟩ := hf.hr.inv.gi n x hx
  have h1 := hf.seal (rowL h k).fr 64
  have hx1 := sealTo_at h (rowL h k).fr 64 hx
  have hlfp : (sealOf x.m (16 * n) (rowL h k).fr 64).lf p = x.m.lf p := by
    unfold sealOf
    simp only
    rw [if_neg]
    rintro ⟨_, _, e⟩
    exact hne e.symm
  have hLp : rowL (hSealTo h (rowL h k).fr 64) (16 * n + p) = x.m.lf p := (rowL_at hx1 hp).trans hlfp
  have ho : onB (p : Int) = true := (onB_iff _).2 ⟨by omega, by omega⟩
  have hsym : h.s.same (x.m.lf p).fr (rowL h k).fr = true := by
    unfold Pl.same at hs ⊢
    simp only [Bool.and_eq_true, List.all_eq_true, List.mem_range, beq_iff_eq] at hs ⊢
    exact ⟨⟨hs.1.2, hs.1.1⟩, fun b hb => (hs.2 b hb).symm⟩
  have hj : joinR h.s (sealOf x.m (16 * n) (rowL h k).fr 64) p (rowL h k).fr = (0, ((h.s.share (rowL h k).fr 1).2.share (x.m.lf p).fr (-1)).2, { sealOf x.m (16 * n) (rowL h k).fr 64 with lf := setAt (sealOf x.m (16 * n) (rowL h k).fr 64).lf p ⟨true, false, (rowL h k).fr⟩ }) := by
    unfold joinR
    rw [if_pos ho]
    simp only [Int.toNat_natCast, hlfp, ht, hsym]
    rw [if_pos (by simp; exact fun e => hne e.symm)]
  have hgj : gJoin h.s { x with m := sealOf x.m (16 * n) (rowL h k).fr 64 } p (rowL h k).fr = (0, ((h.s.share (rowL h k).fr 1).2.share (x.m.lf p).fr (-1)).2, { x with m := { sealOf x.m (16 * n) (rowL h k).fr 64 with lf := setAt (sealOf x.m (16 * n) (rowL h k).fr 64).lf p ⟨true, false, (rowL h k).fr⟩ } }) := by
    unfold gJoin gMap
    simp only
    rw [hj]
  have hrow : rowL ((hSealTo h (rowL h k).fr 64).put n (gJoin h.s { x with m := sealOf x.m (16 * n) (rowL h k).fr 64 } p (rowL h k).fr).2) = setAt (rowL (hSealTo h (rowL h k).fr 64)) (16 * n + p) ⟨true, false, (rowL h k).fr⟩ := by
    rw [hgj]
    exact row_one hx1 hp rfl
  have hgi := (h1.hr.inv.ginv hx1).join p (rowL h k).fr
  have hri := h1.hr.ri.join h1.hr.inv.cn (p := 16 * n + p) (f := (rowL h k).fr) (by omega) (by rw [hLp]; exact ht) (by rw [hLp]; exact fun e => hne e.symm) (by rw [hLp]; exact hsym) (fun i hi ti ei => by
    have hk2 := sealTo_keep h (rowL h k).fr 64 i
    rw [hk2.1] at ti
    rw [hk2.2.1] at ei
    rw [sealTo_row, if_pos ⟨hi, ti, ei⟩])
  rw [hLp] at hri
  refine ⟨by rw [hgj], ⟨⟨?_, ?_, ?_⟩, fun i y hy => ?_, fun i => ?_, fun i y q hy hq => ?_⟩, hrow⟩
  · exact h1.hr.inv.put hx1 hgi (h1.hr.inv.gi n _ hx1).2.di (join_n _ _ _ _) (Int.le_refl _)
  · rw [hrow]
    show RInv (gJoin h.s { x with m := sealOf x.m (16 * n) (rowL h k).fr 64 } p (rowL h k).fr).2.1 _ _
    rw [hgj]
    exact hri
  · rw [rowS_same (y := (gJoin h.s { x with m := sealOf x.m (16 * n) (rowL h k).fr 64 } p (rowL h k).fr).2.2) hx1 (by rw [hgj])]
    show _ ≤ (gJoin h.s { x with m := sealOf x.m (16 * n) (rowL h k).fr 64 } p (rowL h k).fr).2.1.n
    have : (gJoin h.s { x with m := sealOf x.m (16 * n) (rowL h k).fr 64 } p (rowL h k).fr).2.1.n = h.s.n := join_n _ _ _ _
    rw [this]
    exact h1.hr.le
  · by_cases e : i = n
    · subst e
      rw [put_at] at hy
      cases hy
      rw [hgj]
      exact blk_same (h1.blk i _ hx1) rfl
    · have hy' : (hSealTo h (rowL h k).fr 64).g i = some y := by rw [← hy]; exact (setAt_other _ _ _ _ e).symm
      exact h1.blk i y hy'
  · by_cases e : i = n
    · subst e
      rw [put_at]
      have := h1.non i
      rw [hx1] at this
      constructor
      · intro e; cases e
      · intro e; have := this.2 e; cases this
    · rw [← h1.non i]
      show setAt (hSealTo h (rowL h k).fr 64).g n _ i = none ↔ _
      rw [setAt_other _ _ _ _ e]
  · by_cases e : i = n
    · subst e
      rw [put_at] at hy
      cases hy
      rw [hgj]
      have := h1.fl i _ q hx1 hq
      exact ⟨this.st, this.b, this.root, this.c⟩
    · have hy' : (hSealTo h (rowL h k).fr 64).g i = some y := by rw [← hy]; exact (setAt_other _ _ _ _ e).symm
      exact h1.fl i y q hy' hq
/-- The pages that stand ahead of a place: those with the same bytes are in one frame. -/
def Mg (h : Hs) (t : Nat → Nat → Int) (K : Nat) : Prop := ∀ i j, i < K → j < K → (rowL h i).there = true → (rowL h j).there = true → (∀ b, b < 16 → t i b = t j b) → (rowL h i).fr = (rowL h j).fr
/-- What a scan of a guest's page does. -/
theorem HF.scan (hf : HF h t F W) (hx : h.g n = some x) {p : Nat} (hp : p < 16) :
    HF (hScan h n p).2 t F W ∧ (hScan h n p).1.2 = 0 ∧ (∀ k, k ≠ 16 * n + p → (rowL (hScan h n p).2 k).there = (rowL h k).there ∧ (rowL (hScan h n p).2 k).fr = (rowL h k).fr) ∧ (rowL (hScan h n p).2 (16 * n + p)).there = (rowL h (16 * n + p)).there ∧
    (Mg h t (16 * n + p) → Mg (hScan h n p).2 t (16 * n + p + 1)) ∧ (Mg h t 64 → hScan h n p = ((false, 0), h)) ∧ (hScan h n p).2.s.n = h.s.n ∧ (∀ i, (hScan h n p).2.g i = none ↔ h.g i = none) ∧ rowS (hScan h n p).2 = rowS h := by
  obtain ⟨hn, _⟩ := hf.hr.inv.gi n x hx
  obtain ⟨w0, w1⟩ := hWho_some hx hn
  have ho : onB (p : Int) = true := (onB_iff _).2 ⟨by omega, by omega⟩
  have hL := rowL_at hx hp
  have same : ∀ r, hScan h n p = (r, h) → r = (false, 0) → (Mg h t (16 * n + p) → Mg h t (16 * n + p + 1)) →
      HF (hScan h n p).2 t F W ∧ (hScan h n p).1.2 = 0 ∧ (∀ k, k ≠ 16 * n + p → (rowL (hScan h n p).2 k).there = (rowL h k).there ∧ (rowL (hScan h n p).2 k).fr = (rowL h k).fr) ∧ (rowL (hScan h n p).2 (16 * n + p)).there = (rowL h (16 * n + p)).there ∧
      (Mg h t (16 * n + p) → Mg (hScan h n p).2 t (16 * n + p + 1)) ∧ (Mg h t 64 → hScan h n p = ((false, 0), h)) ∧ (hScan h n p).2.s.n = h.s.n ∧ (∀ i, (hScan h n p).2.g i = none ↔ h.g i = none) ∧ rowS (hScan h n p).2 = rowS h := by
    intro r e er hm
    rw [e, er]
    exact ⟨hf, rfl, fun _ _ => ⟨rfl, rfl⟩, rfl, hm, fun _ => rfl, rfl, fun _ => Iff.rfl, rfl⟩
  have hdef : hScan h n p = if (x.m.lf p).there = true then (match hFst h (x.m.lf p).fr 0 (16 * n + p) with
      | none => ((false, 0), h)
      | some k => if (rowL h k).fr = (x.m.lf p).fr then ((false, 0), h) else ((true, (gJoin h.s (hAt (hSealTo h (rowL h k).fr 64) n) p (rowL h k).fr).1), (hSealTo h (rowL h k).fr 64).put n (gJoin h.s (hAt (hSealTo h (rowL h k).fr 64) n) p (rowL h k).fr).2)) else ((false, 0), h) := by
    unfold hScan
    rw [w0, if_neg (by omega), if_pos ho, w1]
    simp only [Int.toNat_natCast]
  cases ht : (x.m.lf p).there with
  | false =>
    refine same (false, 0) (by rw [hdef, ht]; simp) rfl (fun hm i j hi hj ti tj hb => ?_)
    have ei : i ≠ 16 * n + p := fun e => by rw [e, hL, ht] at ti; simp at ti
    have ej : j ≠ 16 * n + p := fun e => by rw [e, hL, ht] at tj; simp at tj
    exact hm i j (by omega) (by omega) ti tj hb
  | true =>
    rw [ht, if_pos rfl] at hdef
    rcases hFst_spec h (x.m.lf p).fr (16 * n + p) 0 with ⟨k, e, _, hk, hhit, hbef⟩ | ⟨e, hbef⟩
    · rw [e] at hdef
      simp only at hdef
      unfold hHit at hhit
      simp only [Bool.and_eq_true] at hhit
      have hk64 : k < 64 := by omega
      have hsb := (hf.same_iff hk64 (show 16 * n + p < 64 by omega) hhit.1 (by rw [hL]; exact ht)).1 (by rw [hL]; exact hhit.2)
      by_cases hfr : (rowL h k).fr = (x.m.lf p).fr
      · rw [if_pos hfr] at hdef
        refine same (false, 0) hdef rfl (fun hm i j hi hj ti tj hb => ?_)
        by_cases ei : i = 16 * n + p
        · by_cases ej : j = 16 * n + p
          · rw [ei, ej]
          · rw [ei, hL, ← hfr]
            exact hm k j (by omega) (by omega) hhit.1 tj (fun b h16 => by rw [hsb b h16, ← ei]; exact hb b h16)
        · by_cases ej : j = 16 * n + p
          · rw [ej, hL, ← hfr]
            exact hm i k (by omega) (by omega) ti hhit.1 (fun b h16 => by rw [hb b h16, ej]; exact (hsb b h16).symm)
          · exact hm i j (by omega) (by omega) ti tj hb
      · rw [if_neg hfr] at hdef
        have hat : hAt (hSealTo h (rowL h k).fr 64) n = { x with m := sealOf x.m (16 * n) (rowL h k).fr 64 } := (hWho_some (sealTo_at h (rowL h k).fr 64 hx) hn).2
        rw [hat] at hdef
        obtain ⟨j0, j1, j2⟩ := hf.join hx hp ht hhit.2 hfr
        rw [hdef]
        have hkeep := sealTo_keep h (rowL h k).fr 64
        have hoth : ∀ i, i ≠ 16 * n + p → (rowL ((hSealTo h (rowL h k).fr 64).put n (gJoin h.s { x with m := sealOf x.m (16 * n) (rowL h k).fr 64 } p (rowL h k).fr).2) i).there = (rowL h i).there ∧ (rowL ((hSealTo h (rowL h k).fr 64).put n (gJoin h.s { x with m := sealOf x.m (16 * n) (rowL h k).fr 64 } p (rowL h k).fr).2) i).fr = (rowL h i).fr := fun i hi => by
          rw [j2, setAt_other _ _ _ _ hi]
          exact ⟨(hkeep i).1, (hkeep i).2.1⟩
        have hat2 : rowL ((hSealTo h (rowL h k).fr 64).put n (gJoin h.s { x with m := sealOf x.m (16 * n) (rowL h k).fr 64 } p (rowL h k).fr).2) (16 * n + p) = ⟨true, false, (rowL h k).fr⟩ := by rw [j2, setAt_same]
        refine ⟨j1, j0, hoth, by rw [hat2, hL, ht], fun hm i j hi hj ti tj hb => ?_, fun hm => ?_, join_n _ _ _ _, fun i => ?_, ?_⟩
        · by_cases ei : i = 16 * n + p
          · by_cases ej : j = 16 * n + p
            · rw [ei, ej]
            · rw [(hoth j ej).1] at tj
              rw [ei, hat2, (hoth j ej).2]
              exact hm k j (by omega) (by omega) hhit.1 tj (fun b h16 => by rw [hsb b h16, ← ei]; exact hb b h16)
          · rw [(hoth i ei).1] at ti
            by_cases ej : j = 16 * n + p
            · rw [ej, hat2, (hoth i ei).2]
              exact hm i k (by omega) (by omega) ti hhit.1 (fun b h16 => by rw [hb b h16, ej]; exact (hsb b h16).symm)
            · rw [(hoth j ej).1] at tj
              rw [(hoth i ei).2, (hoth j ej).2]
              exact hm i j (by omega) (by omega) ti tj hb
        · exact absurd ((hm k (16 * n + p) hk64 (by omega) hhit.1 (by rw [hL]; exact ht) hsb).trans (by rw [hL])) hfr
        · have h2 : (hSealTo h (rowL h k).fr 64).g i = none ↔ h.g i = none := by
            show (h.g i).map _ = none ↔ _
            cases h.g i <;> simp
          by_cases ei : i = n
          · subst ei
            rw [put_at, hx]
            simp
          · rw [← h2]
            show setAt (hSealTo h (rowL h k).fr 64).g n _ i = none ↔ _
            rw [setAt_other _ _ _ _ ei]
        · rw [rowS_same (sealTo_at h (rowL h k).fr 64 hx) (by
            show (joinR _ _ _ _).2.2.st = _
            unfold joinR
            repeat' split
            all_goals rfl), sealTo_rowS]
    · rw [e] at hdef
      simp only at hdef
      refine same (false, 0) hdef rfl (fun hm i j hi hj ti tj hb => ?_)
      have hno : ∀ q, q < 16 * n + p → (rowL h q).there = true → (∀ b, b < 16 → t q b = t (16 * n + p) b) → False := fun q hq tq hb => by
        have := hbef q (by omega) (by omega)
        unfold hHit at this
        rw [tq, Bool.true_and] at this
        have h2 := (hf.same_iff (show q < 64 by omega) (show 16 * n + p < 64 by omega) tq (by rw [hL]; exact ht)).2 hb
        rw [hL, this] at h2
        cases h2
      by_cases ei : i = 16 * n + p
      · by_cases ej : j = 16 * n + p
        · rw [ei, ej]
        · exact (hno j (by omega) tj (fun b h16 => by rw [← ei]; exact (hb b h16).symm)).elim
      · by_cases ej : j = 16 * n + p
        · exact (hno i (by omega) ti (fun b h16 => by rw [← ej]; exact hb b h16)).elim
        · exact hm i j (by omega) (by omega) ti tj hb
end Go.Proofs.YtadpibcgjgcjhabGreatDoor
