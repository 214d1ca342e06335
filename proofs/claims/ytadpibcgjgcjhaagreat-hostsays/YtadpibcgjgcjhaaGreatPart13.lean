/- What a host answers hangs on its pages' states and, of a guest's loads and stores, on its flat memory (E5). -/
import Derived.Test.YtadpibcgjgcjhaaGreatPart12
import Derived.Test.YtadpibcgjgcjhaaGreatPart11
namespace Go.Proofs.YtadpibcgjgcjhaaGreat
open Go.RowKit
variable {h : Hs} {t : Nat → Nat → Int} {F F' : Nat → Option Fl} {W : Int} {x : Gs} {f : Fl}

def fWho (F : Nat → Option Fl) (n : Int) : Int := if n < 0 ∨ 3 < n then 1 else match F n.toNat with
  | none => 2
  | some _ => 0
def fSt (o : Option Fl) (j : Nat) : Int := match o with
  | some f => f.st j
  | none => 0
def rowF (F : Nat → Option Fl) (k : Nat) : Int := fSt (F (k / 16)) (k % 16)
theorem pln_congr {S T : Nat → Int} : ∀ K, (∀ k, k < K → S k = T k) → pln S K = pln T K
  | 0, _ => rfl
  | K + 1, h => by simp only [pln]; rw [pln_congr K (fun k hk => h k (by omega)), h K (by omega)]
theorem HF.who (hf : HF h t F W) (n : Int) : hWho h n = fWho F n := by
  unfold hWho fWho
  split
  · rfl
  · have := hf.non n.toNat
    cases hx : h.g n.toNat with
    | none => rw [this.1 hx]
    | some x =>
      cases hq : F n.toNat with
      | none => have := this.2 hq; rw [hx] at this; cases this
      | some f => rfl
theorem HF.rowF (hf : HF h t F W) (k : Nat) : rowS h k = rowF F k := by
  unfold rowS Go.Proofs.YtadpibcgjgcjhaaGreat.rowF gSt fSt
  have hn := hf.non (k / 16)
  cases hx : h.g (k / 16) with
  | none => rw [hn.1 hx]
  | some x =>
    cases hq : F (k / 16) with
    | none => have := hn.2 hq; rw [hx] at this; cases this
    | some f => exact ((hf.fl _ x f hx hq).st (k % 16) (by omega)).symm
theorem HF.prom (hf : HF h t F W) : pln (rowS h) 64 = pln (Go.Proofs.YtadpibcgjgcjhaaGreat.rowF F) 64 := pln_congr 64 (fun k _ => hf.rowF k)
/-- What Plug answers. -/
def cPlug (F : Nat → Option Fl) (N : Nat) (n b : Int) : Int :=
  if 0 < fWho F n then fWho F n else if b < 0 ∨ 3 < b then 1 else if fSt (F n.toNat) (4 * b.toNat) ≠ 0 then 4 else if N < pln (rowF F) 64 + 4 then 7 else 0
def cUnplug (F : Nat → Option Fl) (n b : Int) : Int :=
  if 0 < fWho F n then fWho F n else if b < 0 ∨ 3 < b then 1 else if fSt (F n.toNat) (4 * b.toNat) = 0 then 2 else 0
def cGive (F : Nat → Option Fl) (N : Nat) (n p : Int) (back : Bool) : Int :=
  if 0 < fWho F n then fWho F n else if onB p = true then (if back = true then (if fSt (F n.toNat) p.toNat = 2 then (if pln (rowF F) 64 = N then 7 else 0) else 8) else (if fSt (F n.toNat) p.toNat = 1 then 0 else 8)) else 1
def cAdd (F : Nat → Option Fl) : Int × Int := if (F 0).isNone then (0, 0) else if (F 1).isNone then (1, 0) else if (F 2).isNone then (2, 0) else if (F 3).isNone then (3, 0) else (0, 4)
theorem HF.st_at (hf : HF h t F W) {n : Int} (hw : ¬ 0 < hWho h n) {j : Nat} (hj : j < 16) : (hAt h n).m.st j = fSt (F n.toNat) j := by
  obtain ⟨k, x, rfl, hk, hx, hat⟩ := hWho_zero (show hWho h n = 0 by have := hWho_le (h := h) n; omega)
  obtain ⟨f, hq, hv⟩ := hf.view hx
  rw [hat, Int.toNat_natCast, hq]
  exact (hv.st j hj).symm
theorem HF.cplug (hf : HF h t F W) (n b : Int) : (hPlug h n b).1 = cPlug F h.s.n n b := by
  unfold hPlug cPlug
  rw [← hf.who, ← hf.prom]
  by_cases h0 : 0 < hWho h n
  · rw [if_pos h0, if_pos h0]
  · rw [if_neg h0, if_neg h0]
    by_cases hb : b < 0 ∨ 3 < b
    · rw [if_pos hb, if_pos hb]
    · rw [if_neg hb, if_neg hb, hf.st_at h0 (by omega)]
      repeat' split
      all_goals rfl
theorem HF.cunplug (hf : HF h t F W) (n b : Int) : (hUnplug h n b).1 = cUnplug F n b := by
  unfold hUnplug cUnplug
  rw [← hf.who]
  by_cases h0 : 0 < hWho h n
  · rw [if_pos h0, if_pos h0]
  · rw [if_neg h0, if_neg h0]
    by_cases hb : b < 0 ∨ 3 < b
    · rw [if_pos hb, if_pos hb]
    · rw [if_neg hb, if_neg hb]
      have hst := hf.st_at h0 (show 4 * b.toNat < 16 by omega)
      obtain ⟨k, x, rfl, hk, hx, hat⟩ := hWho_zero (show hWho h n = 0 by have := hWho_le (h := h) n; omega)
      rw [hat] at hst ⊢
      rw [← hst]
      have hb4 : b.toNat < 4 := by omega
      by_cases hs0 : x.m.st (4 * b.toNat) = 0
      · rw [if_pos hs0, gUnplugs_no _ _ hb4 hs0 3]
      · have hall : ∀ j, j < 4 → x.m.st (4 * b.toNat + j) ≠ 0 := fun j hj e => hs0 ((hf.blk k x hx b.toNat j hb4 hj).2 e)
        rw [if_neg hs0, gUnplugs_is _ _ hb4 hall 4 (Nat.le_refl _)]
theorem HF.cgive (hf : HF h t F W) (n p : Int) (back : Bool) : (hGive h n p back).1 = cGive F h.s.n n p back := by
  unfold hGive cGive
  rw [← hf.who, ← hf.prom]
  by_cases h0 : 0 < hWho h n
  · rw [if_pos h0, if_pos h0]
  · rw [if_neg h0, if_neg h0]
    by_cases ho : onB p = true
    · have hp := (onB_iff p).1 ho
      rw [if_pos ho, ← hf.st_at h0 (show p.toNat < 16 by omega)]
      obtain ⟨q, rfl⟩ := Int.eq_ofNat_of_zero_le hp.1
      have hq16 : q < 16 := by omega
      cases back with
      | true =>
        simp only [ho, Bool.and_self, true_and, if_true, Int.toNat_natCast]
        by_cases h2 : (hAt h n).m.st q = 2
        · by_cases h3 : pln (rowS h) 64 = h.s.n
          · rw [if_pos ⟨h2, h3⟩, if_pos h2, if_pos h3]
          · rw [if_neg (fun c => h3 c.2), if_pos h2, if_neg h3, gBack_yes _ _ hq16 h2]
        · rw [if_neg (fun c => h2 c.1), if_neg h2]
          unfold gGive gMap giveR
          simp only [ho, if_true, Int.toNat_natCast]
          rw [if_neg h2]
      | false =>
        simp only [Bool.false_and, Bool.false_eq_true, false_and, if_false, Int.toNat_natCast]
        by_cases h1 : (hAt h n).m.st q = 1
        · rw [if_pos h1, gGive_yes _ _ hq16 h1]
        · rw [if_neg h1]
          unfold gGive gMap giveR
          simp only [ho, if_true, Int.toNat_natCast, Bool.false_eq_true, if_false]
          rw [if_neg h1]
    · have ho' : onB p = false := by simpa using ho
      rw [if_neg ho, if_neg (fun c => by rw [ho'] at c; simp at c)]
      unfold gGive gMap giveR
      simp only [ho', Bool.false_eq_true, if_false]
theorem HF.cadd (hf : HF h t F W) : (hAdd h).1 = cAdd F := by
  unfold hAdd hFree cAdd
  have e : ∀ i, (h.g i = none) ↔ ((F i).isNone = true) := fun i => by rw [hf.non i, Option.isNone_iff_eq_none]
  by_cases h0 : h.g 0 = none
  · rw [if_pos h0, if_pos ((e 0).1 h0)]; rfl
  · rw [if_neg h0, if_neg (fun c => h0 ((e 0).2 c))]
    by_cases h1 : h.g 1 = none
    · rw [if_pos h1, if_pos ((e 1).1 h1)]; rfl
    · rw [if_neg h1, if_neg (fun c => h1 ((e 1).2 c))]
      by_cases h2 : h.g 2 = none
      · rw [if_pos h2, if_pos ((e 2).1 h2)]; rfl
      · rw [if_neg h2, if_neg (fun c => h2 ((e 2).2 c))]
        by_cases h3 : h.g 3 = none
        · rw [if_pos h3, if_pos ((e 3).1 h3)]; rfl
        · rw [if_neg h3, if_neg (fun c => h3 ((e 3).2 c))]
/-- Two hosts whose pages have the same states. -/
def Alk (F F' : Nat → Option Fl) : Prop := ∀ i, (F i = none ↔ F' i = none) ∧ ∀ f f', F i = some f → F' i = some f' → f.st = f'.st
theorem Alk.st (ha : Alk F F') (i : Nat) : fSt (F i) = fSt (F' i) := by
  obtain ⟨h1, h2⟩ := ha i
  cases hq : F i with
  | none => rw [h1.1 hq]
  | some f =>
    cases hr : F' i with
    | none => have := h1.2 hr; rw [hq] at this; cases this
    | some f' => exact h2 f f' hq hr
theorem Alk.row (ha : Alk F F') : rowF F = rowF F' := by
  funext k
  unfold rowF
  rw [ha.st]
theorem Alk.who (ha : Alk F F') (n : Int) : fWho F n = fWho F' n := by
  unfold fWho
  split
  · rfl
  · have := (ha n.toNat).1
    cases hq : F n.toNat with
    | none => rw [this.1 hq]
    | some f =>
      cases hr : F' n.toNat with
      | none => have := this.2 hr; rw [hq] at this; cases this
      | some f' => rfl
theorem Alk.plug (ha : Alk F F') (N : Nat) (n b : Int) : cPlug F N n b = cPlug F' N n b := by unfold cPlug; rw [ha.who, ha.row, ha.st]
theorem Alk.unplug (ha : Alk F F') (n b : Int) : cUnplug F n b = cUnplug F' n b := by unfold cUnplug; rw [ha.who, ha.st]
theorem Alk.give (ha : Alk F F') (N : Nat) (n p : Int) (back : Bool) : cGive F N n p back = cGive F' N n p back := by unfold cGive; rw [ha.who, ha.row, ha.st]
theorem Alk.add (ha : Alk F F') : cAdd F = cAdd F' := by
  have e : ∀ i, (F i).isNone = (F' i).isNone := fun i => by
    rw [Bool.eq_iff_iff, Option.isNone_iff_eq_none, Option.isNone_iff_eq_none]; exact (ha i).1
  unfold cAdd
  rw [e 0, e 1, e 2, e 3]
theorem Alk.refl (F : Nat → Option Fl) : Alk F F := fun _ => ⟨Iff.rfl, fun f f' h1 h2 => by rw [h1] at h2; cases h2; rfl⟩
end Go.Proofs.YtadpibcgjgcjhaaGreat
/- A host, plainly: what its loops keep. -/
namespace Go.Proofs.YtadpibcgjgcjhaaGreat
open Go.RowKit
variable {h : Hs} {W : Int} {x : Gs}

/-- A guest's pointer. -/
def gPtr (o : Option Gs) (b : Nat) : Value := match o with
  | some _ => .pointer (some ⟨b, 0, none⟩)
  | none => .pointer none
theorem pln_le (S : Nat → Int) : ∀ K, pln S K ≤ K
  | 0 => Nat.le_refl _
  | K + 1 => by have := pln_le S K; simp only [pln]; split <;> omega
theorem pln_none {n : Nat} (hx : h.g n = none) : ∀ j, j ≤ 16 → pln (rowS h) (16 * n + j) = pln (rowS h) (16 * n)
  | 0, _ => rfl
  | j + 1, hj => by
    have ih := pln_none hx j (by omega)
    have : rowS h (16 * n + j) = 0 := by
      unfold rowS
      rw [show (16 * n + j) / 16 = n by omega, hx]; rfl
    rw [show 16 * n + (j + 1) = (16 * n + j) + 1 by omega]
    simp only [pln]
    rw [this, ih]; simp
theorem HInv.unplug1 {n : Nat} (hi : HInv h W) (hx : h.g n = some x) (k : Int) : HInv (h.put n (gUnplug h.s x k).2) W :=
  hi.put hx ((hi.ginv hx).unplug k) (hi.gi n x hx).2.di (unplug_n _ _ _) (Int.le_refl _)
theorem HInv.plug1 {n : Nat} (hi : HInv h W) (hx : h.g n = some x) (k : Int) : HInv (h.put n (gPlug h.s x k).2) W :=
  hi.put hx ((hi.ginv hx).plug k) (hi.gi n x hx).2.di (plug_n _ _ _) (Int.le_refl _)
theorem HInv.clear {n : Nat} (hi : HInv h W) (hx : h.g n = some x) : ∀ j, HInv (h.put n (gClear h.s x j)) W
  | 0 => by rw [show h.put n (gClear h.s x 0) = h from Hs.put_self hx]; exact hi
  | j + 1 => by
    have := (hi.clear hx j).unplug1 (put_at _ _ _) (j : Int)
    rw [put_put] at this
    exact this
theorem HInv.plugs {n : Nat} (hi : HInv h W) (hx : h.g n = some x) (b : Nat) : ∀ j, HInv (h.put n (gPlugs h.s x b j)) W
  | 0 => by rw [show h.put n (gPlugs h.s x b 0) = h from Hs.put_self hx]; exact hi
  | j + 1 => by
    have := (hi.plugs hx b j).plug1 (put_at _ _ _) ((4 * b + j : Nat) : Int)
    rw [put_put] at this
    exact this
theorem HInv.unplugs {n : Nat} (hi : HInv h W) (hx : h.g n = some x) (b : Nat) : ∀ j, HInv (h.put n (gUnplugs h.s x b j).2) W
  | 0 => by rw [show h.put n (gUnplugs h.s x b 0).2 = h from Hs.put_self hx]; exact hi
  | j + 1 => by
    have h1 := hi.unplugs hx b j
    show HInv (h.put n (if 0 < (gUnplugs h.s x b j).1 then gUnplugs h.s x b j else gUnplug (gUnplugs h.s x b j).2.1 (gUnplugs h.s x b j).2.2 ((4 * b + j : Nat) : Int)).2) W
    split
    · exact h1
    · have := h1.unplug1 (put_at _ _ _) ((4 * b + j : Nat) : Int)
      rw [put_put] at this
      exact this
theorem hFree_at {k : Nat} (hk : k < 4) (hs : ∀ i, i < k → h.g i ≠ none) (hx : h.g k = none) : hFree h = some k := by
  unfold hFree
  have : k = 0 ∨ k = 1 ∨ k = 2 ∨ k = 3 := by omega
  rcases this with rfl | rfl | rfl | rfl
  · rw [if_pos hx]
  · rw [if_neg (hs 0 (by omega)), if_pos hx]
  · rw [if_neg (hs 0 (by omega)), if_neg (hs 1 (by omega)), if_pos hx]
  · rw [if_neg (hs 0 (by omega)), if_neg (hs 1 (by omega)), if_neg (hs 2 (by omega)), if_pos hx]
theorem hFree_no (hs : ∀ i, i < 4 → h.g i ≠ none) : hFree h = none := by
  unfold hFree
  rw [if_neg (hs 0 (by omega)), if_neg (hs 1 (by omega)), if_neg (hs 2 (by omega)), if_neg (hs 3 (by omega))]
end Go.Proofs.YtadpibcgjgcjhaaGreat
/- Sealing, page by page; the row of leaves read by the document's host. -/
namespace Go.Proofs.YtadpibcgjgcjhaaGreat
open Go.RowKit
variable {h : Hs} {W : Int} {n : Nat} {x y : Gs}

theorem sealTo_zero (h : Hs) (fr : Int) : hSealTo h fr 0 = h := by
  have e : ∀ j, (hSealTo h fr 0).g j = h.g j := fun j => by
    show (h.g j).map _ = _
    cases h.g j with
    | none => rfl
    | some x =>
      have : sealOf x.m (16 * j) fr 0 = x.m := by
        unfold sealOf
        have : (fun k => if (k < 16 ∧ 16 * j + k < 0) ∧ (x.m.lf k).there = true ∧ (x.m.lf k).fr = fr then { x.m.lf k with wr := false } else x.m.lf k) = x.m.lf := by
          funext k
          rw [if_neg (by omega)]
        rw [this]
      simp only [Option.map_some]
      rw [this]
  have e2 : (hSealTo h fr 0).g = h.g := funext e
  show (⟨h.s, (hSealTo h fr 0).g⟩ : Hs) = h
  rw [e2]
theorem sealOf_next (m : Mp) (fr : Int) {j i : Nat} (hj : j ≠ i / 16) : sealOf m (16 * j) fr (i + 1) = sealOf m (16 * j) fr i := by
  unfold sealOf
  have : (fun k => if (k < 16 ∧ 16 * j + k < i + 1) ∧ (m.lf k).there = true ∧ (m.lf k).fr = fr then { m.lf k with wr := false } else m.lf k) = (fun k => if (k < 16 ∧ 16 * j + k < i) ∧ (m.lf k).there = true ∧ (m.lf k).fr = fr then { m.lf k with wr := false } else m.lf k) := by
    funext k
    by_cases hk : k < 16
    · have e : (k < 16 ∧ 16 * j + k < i + 1) ↔ (k < 16 ∧ 16 * j + k < i) := by omega
      by_cases hc : (k < 16 ∧ 16 * j + k < i) ∧ (m.lf k).there = true ∧ (m.lf k).fr = fr
      · rw [if_pos hc, if_pos ⟨e.2 hc.1, hc.2⟩]
      · rw [if_neg hc, if_neg (fun c => hc ⟨e.1 c.1, c.2⟩)]
    · rw [if_neg (fun c => hk c.1.1), if_neg (fun c => hk c.1.1)]
  rw [this]
theorem sealOf_skip (m : Mp) (fr : Int) {i : Nat} (hn : ¬ ((m.lf (i % 16)).there = true ∧ (m.lf (i % 16)).fr = fr)) : sealOf m (16 * (i / 16)) fr (i + 1) = sealOf m (16 * (i / 16)) fr i := by
  unfold sealOf
  have : (fun k => if (k < 16 ∧ 16 * (i / 16) + k < i + 1) ∧ (m.lf k).there = true ∧ (m.lf k).fr = fr then { m.lf k with wr := false } else m.lf k) = (fun k => if (k < 16 ∧ 16 * (i / 16) + k < i) ∧ (m.lf k).there = true ∧ (m.lf k).fr = fr then { m.lf k with wr := false } else m.lf k) := by
    funext k
    by_cases hk : k = i % 16
    · rw [hk, if_neg (fun c => hn c.2), if_neg (fun c => hn c.2)]
    · have e : (k < 16 ∧ 16 * (i / 16) + k < i + 1) ↔ (k < 16 ∧ 16 * (i / 16) + k < i) := by omega
      by_cases hc : (k < 16 ∧ 16 * (i / 16) + k < i) ∧ (m.lf k).there = true ∧ (m.lf k).fr = fr
      · rw [if_pos hc, if_pos ⟨e.2 hc.1, hc.2⟩]
      · rw [if_neg hc, if_neg (fun c => hc ⟨e.1 c.1, c.2⟩)]
  rw [this]
theorem sealOf_step (m : Mp) (fr : Int) {i : Nat} (ht : (m.lf (i % 16)).there = true) (hf : (m.lf (i % 16)).fr = fr) : (sealR (sealOf m (16 * (i / 16)) fr i) ((i % 16 : Nat) : Int)).2 = sealOf m (16 * (i / 16)) fr (i + 1) := by
  have hon : onB ((i % 16 : Nat) : Int) = true := (onB_iff _).2 (by omega)
  have hat : (sealOf m (16 * (i / 16)) fr i).lf (i % 16) = m.lf (i % 16) := by
    unfold sealOf
    simp only
    rw [if_neg (by omega)]
  unfold sealR
  rw [if_pos hon, Int.toNat_natCast, hat, if_pos ht]
  show ({ sealOf m (16 * (i / 16)) fr i with lf := setAt (sealOf m (16 * (i / 16)) fr i).lf (i % 16) { m.lf (i % 16) with wr := false } } : Mp) = _
  have : setAt (sealOf m (16 * (i / 16)) fr i).lf (i % 16) { m.lf (i % 16) with wr := false } = (sealOf m (16 * (i / 16)) fr (i + 1)).lf := by
    funext k
    by_cases hk : k = i % 16
    · subst hk
      rw [setAt_same]
      unfold sealOf
      simp only
      rw [if_pos ⟨⟨by omega, by omega⟩, ht, hf⟩]
    · rw [setAt_other _ _ _ _ hk]
      unfold sealOf
      simp only
      have e : (k < 16 ∧ 16 * (i / 16) + k < i + 1) ↔ (k < 16 ∧ 16 * (i / 16) + k < i) := by omega
      by_cases hc : (k < 16 ∧ 16 * (i / 16) + k < i) ∧ (m.lf k).there = true ∧ (m.lf k).fr = fr
      · rw [if_pos hc, if_pos ⟨e.2 hc.1, hc.2⟩]
      · rw [if_neg hc, if_neg (fun c => hc ⟨e.1 c.1, c.2⟩)]
  rw [this]
  rfl
theorem Hs.ext' {a b : Hs} (h1 : a.s = b.s) (h2 : ∀ j, a.g j = b.g j) : a = b := by
  cases a
  cases b
  simp only at h1 h2
  rw [h1, funext h2]
theorem sealTo_none (h : Hs) (fr : Int) {i : Nat} (hx : h.g (i / 16) = none) : hSealTo h fr (i + 1) = hSealTo h fr i := by
  refine Hs.ext' rfl (fun j => ?_)
  show (h.g j).map _ = (h.g j).map _
  by_cases e : j = i / 16
  · rw [e, hx]; rfl
  · cases h.g j with
    | none => rfl
    | some z =>
      simp only [Option.map_some]
      rw [sealOf_next _ _ e]
theorem sealTo_skip (h : Hs) (fr : Int) {i : Nat} (hx : h.g (i / 16) = some x) (hn : ¬ ((x.m.lf (i % 16)).there = true ∧ (x.m.lf (i % 16)).fr = fr)) : hSealTo h fr (i + 1) = hSealTo h fr i := by
  refine Hs.ext' rfl (fun j => ?_)
  show (h.g j).map _ = (h.g j).map _
  by_cases e : j = i / 16
  · subst e
    rw [hx]
    simp only [Option.map_some]
    rw [sealOf_skip _ _ hn]
  · cases h.g j with
    | none => rfl
    | some z =>
      simp only [Option.map_some]
      rw [sealOf_next _ _ e]
theorem sealTo_step (h : Hs) (fr : Int) {i : Nat} (hx : h.g (i / 16) = some x) (ht : (x.m.lf (i % 16)).there = true) (hf : (x.m.lf (i % 16)).fr = fr) :
    (hSealTo h fr i).put (i / 16) (gSeal h.s { x with m := sealOf x.m (16 * (i / 16)) fr i } ((i % 16 : Nat) : Int)).2 = hSealTo h fr (i + 1) := by
  refine Hs.ext' rfl (fun j => ?_)
  by_cases e : j = i / 16
  · subst e
    rw [put_at, sealTo_at h fr (i + 1) hx]
    show some ({ x with m := (sealR (sealOf x.m (16 * (i / 16)) fr i) ((i % 16 : Nat) : Int)).2 } : Gs) = _
    rw [sealOf_step _ _ ht hf]
  · show setAt (hSealTo h fr i).g (i / 16) _ j = _
    rw [setAt_other _ _ _ _ e]
    show (h.g j).map _ = (h.g j).map _
    cases h.g j with
    | none => rfl
    | some z =>
      simp only [Option.map_some]
      rw [sealOf_next _ _ e]
theorem HInv.seal1 (hi : HInv h W) (hx : h.g n = some x) (k : Int) : HInv (h.put n (gSeal h.s x k).2) W :=
  hi.put hx ((hi.ginv hx).seal k) (hi.gi n x hx).2.di rfl (Int.le_refl _)
theorem HInv.sealTo (hi : HInv h W) (fr : Int) : ∀ i, HInv (hSealTo h fr i) W
  | 0 => by rw [sealTo_zero]; exact hi
  | i + 1 => by
    have ih := hi.sealTo fr i
    cases hx : h.g (i / 16) with
    | none => rw [sealTo_none h fr hx]; exact ih
    | some x =>
      by_cases hc : (x.m.lf (i % 16)).there = true ∧ (x.m.lf (i % 16)).fr = fr
      · rw [← sealTo_step h fr hx hc.1 hc.2]
        exact ih.seal1 (sealTo_at h fr i hx) _
      · rw [sealTo_skip h fr hx hc]; exact ih
/-- A leaf of the row, whatever was sealed. -/
theorem sealTo_leaf (m : Mp) (base : Nat) (fr : Int) (i k : Nat) : ((sealOf m base fr i).lf k).there = (m.lf k).there ∧ ((sealOf m base fr i).lf k).fr = (m.lf k).fr := by
  unfold sealOf
  simp only
  split <;> exact ⟨rfl, rfl⟩
/-- The first hit. -/
theorem hFst_at {fr : Int} {k N : Nat} (hk : k < N) (hno : ∀ i, i < k → hHit h fr i = false) (hh : hHit h fr k = true) : hFst h fr 0 N = some k := by
  rcases hFst_spec h fr N 0 with ⟨j, e, _, b, c, d⟩ | ⟨_, d⟩
  · have : j = k := by
      rcases Nat.lt_trichotomy j k with h1 | h1 | h1
      · have := hno j h1; rw [c] at this; simp at this
      · exact h1
      · have := d k (by omega) h1; rw [hh] at this; simp at this
    rw [e, this]
  · have := d k (by omega) (by omega)
    rw [hh] at this; simp at this
theorem hFst_non {fr : Int} {N : Nat} (hno : ∀ i, i < N → hHit h fr i = false) : hFst h fr 0 N = none := by
  rcases hFst_spec h fr N 0 with ⟨j, _, _, b, c, _⟩ | ⟨e, _⟩
  · have := hno j (by omega); rw [c] at this; simp at this
  · exact e
theorem hHit_none {fr : Int} {k : Nat} (hx : h.g (k / 16) = none) : hHit h fr k = false := by
  unfold hHit rowL
  rw [hx]
  simp [gLf, lf0]
theorem row_some {k : Nat} (hx : h.g (k / 16) = some x) : rowL h k = x.m.lf (k % 16) := by
  unfold rowL
  rw [hx]
  rfl
end Go.Proofs.YtadpibcgjgcjhaaGreat
/- The document's host in memory; whom a number names. -/
namespace Go.Proofs.YtadpibcgjgcjhaaGreat
open Go.ChangeShapes Go.WideShapes Go.ChangeAt Go.RowKit
set_option maxRecDepth 100000
attribute [local go_sem ↓] Go.wp_at_zero Go.wp_at_succ

/-- The document's host: its block bh, its pool bm, its guests' blocks bx, the lists that they keep v. -/
structure RHo (w : World) (bh bm base : Nat) (bx : Nat → Nat) (v : Nat → Value) (h : Hs) : Prop where
  c0 : w.cell? ⟨bh, 0, none⟩ = some (.pointer (some ⟨bm, 0, none⟩))
  cg : ∀ i, i < 4 → w.cell? ⟨bh, 1 + i, none⟩ = some (gPtr (h.g i) (bx i))
  fz : ∀ o, w.frozen? ⟨bh, o, none⟩ = false
  ref : RefAt w bm h.s
  gu : ∀ i x, h.g i = some x → RGu w (bx i) bm base (v i) x
  hm : bh ≠ bm
  ne : ∀ i x, h.g i = some x → bx i ≠ bh ∧ bx i ≠ bm
  nx : ∀ i j x y, h.g i = some x → h.g j = some y → i ≠ j → bx i ≠ bx j
  nv : ∀ i x k, h.g i = some x → (v i).ownBlock = some k → k ≠ bh ∧ k ≠ bm ∧ ∀ j y, h.g j = some y → k ≠ bx j
  base : base ≤ w.heap.size
  lx : ∀ j, 4 ≤ j → bx j < w.heap.size
  nl : ∀ i x k j, h.g i = some x → (v i).ownBlock = some k → 4 ≤ j → k ≠ bx j
variable {w w' : World} {bh bm base : Nat} {bx : Nat → Nat} {v : Nat → Value} {h : Hs} {n : Nat} {x : Gs} {s' : Pl} {x' : Gs}
theorem RHo.lt (r : RHo w bh bm base bx v h) : bh < w.heap.size ∧ bm < w.heap.size := ⟨World.block_lt_of_cell? w _ r.c0, World.block_lt_of_cell? w _ r.ref.num⟩
theorem RHo.same (r : RHo w bh bm base bx v h) (u : Upd (fun _ => False) w w') : RHo w' bh bm base bx v h :=
  ⟨u.cell r.c0 (fun f => f), fun i hi => u.cell (r.cg i hi) (fun f => f), fun o => by rw [World.frozen?_of_block (w := w) (u.block bh r.lt.1 (fun f => f))]; exact r.fz o, r.ref.upd u (fun f => f), fun i x hx => (r.gu i x hx).upd u (fun f => f) (fun _ _ f => f), r.hm, r.ne, r.nx, r.nv, Nat.le_trans r.base u.size, fun j hj => Nat.lt_of_lt_of_le (r.lx j hj) u.size, r.nl⟩
theorem RHo.drew (r : RHo w bh bm base bx v h) : RHo w.drew bh bm base bx v h := r.same (Upd.refl _ _).drew
/-- One guest's act. -/
theorem RHo.act {v' : Value} (r : RHo w bh bm base bx v h) (hx : h.g n = some x) (hr : RefAt w' bm s') (hg : RGu w' (bx n) bm base v' x') (hf : Fr w (v n) v') (u : Upd (fun k => k = bm ∨ k = bx n) w w') : RHo w' bh bm base bx (setAt v n v') (h.put n (s', x')) := by
  have hn := r.ne n x hx
  have hne : ∀ i y, (h.put n (s', x')).g i = some y → i ≠ n → h.g i = some y := fun i y hy e => by rw [← hy]; exact (setAt_other _ _ _ _ e).symm
  have hany : ∀ i y, (h.put n (s', x')).g i = some y → ∃ z, h.g i = some z := fun i y hy => by
    by_cases e : i = n
    · subst e; exact ⟨x, hx⟩
    · exact ⟨y, hne i y hy e⟩
  have hlt : ∀ i z, h.g i = some z → bx i < w.heap.size := fun i z hz => (r.gu i z hz).mp.lt
  refine ⟨u.cell r.c0 (by have := r.hm; simp only; omega), fun i hi => ?_, fun o => ?_, hr, fun i y hy => ?_, r.hm, fun i y hy => ?_, fun i j y z hy hz e => ?_, fun i y k hy hk => ?_, Nat.le_trans r.base u.size, fun j hj => Nat.lt_of_lt_of_le (r.lx j hj) u.size, fun i y k j hy hk hj => ?_⟩
  · have hc := u.cell (r.cg i hi) (by have := r.hm; simp only; omega)
    rw [hc]
    by_cases e : i = n
    · subst e
      rw [put_at, hx]; rfl
    · rw [show (h.put n (s', x')).g i = h.g i from setAt_other _ _ _ _ e]
  · rw [World.frozen?_of_block (w := w) (u.block bh r.lt.1 (by have := r.hm; omega))]; exact r.fz o
  · by_cases e : i = n
    · subst e
      rw [put_at] at hy
      cases hy
      rw [setAt_same]
      exact hg
    · have hy' := hne i y hy e
      rw [setAt_other _ _ _ _ e]
      have h1 := r.ne i y hy'
      have h2 := r.nx i n y x hy' hx e
      exact (r.gu i y hy').upd u (by omega) (fun k hk hs => by
        have h3 := r.nv i y k hy' hk
        have h4 := h3.2.2 n x hx
        omega)
  · obtain ⟨z, hz⟩ := hany i y hy
    exact r.ne i z hz
  · obtain ⟨y', hy'⟩ := hany i y hy
    obtain ⟨z', hz'⟩ := hany j z hz
    exact r.nx i j y' z' hy' hz' e
  · obtain ⟨y', hy'⟩ := hany i y hy
    by_cases e : i = n
    · subst e
      rw [setAt_same] at hk
      rcases hf k hk with h3 | h3
      · have h4 := r.nv i y' k hy' h3
        refine ⟨h4.1, h4.2.1, fun j z hz => ?_⟩
        obtain ⟨z', hz'⟩ := hany j z hz
        exact h4.2.2 j z' hz'
      · have := r.lt
        refine ⟨by omega, by omega, fun j z hz => ?_⟩
        obtain ⟨z', hz'⟩ := hany j z hz
        have := hlt j z' hz'
        omega
    · rw [setAt_other _ _ _ _ e] at hk
      have h4 := r.nv i y' k hy' hk
      refine ⟨h4.1, h4.2.1, fun j z hz => ?_⟩
      obtain ⟨z', hz'⟩ := hany j z hz
      exact h4.2.2 j z' hz'
  · obtain ⟨y', hy'⟩ := hany i y hy
    by_cases e : i = n
    · subst e
      rw [setAt_same] at hk
      rcases hf k hk with h3 | h3
      · exact r.nl i y' k j hy' h3 hj
      · have := r.lx j hj; omega
    · rw [setAt_other _ _ _ _ e] at hk
      exact r.nl i y' k j hy' hk hj
/-- Where an act of a guest begins. -/
theorem RHo.pre {W : Int} (r : RHo w bh bm base bx v h) (hi : HInv h W) (hW : W ≤ 1000000) (hx : h.g n = some x) : RPre w (bx n) bm base (v n) h.s x (oth h n) :=
  ⟨r.gu n x hx, r.ref, (r.ne n x hx).2, (hi.ginv hx).more hW, r.base⟩
theorem RHo.cNone (r : RHo w bh bm base bx v h) {k : Nat} (hk : k < 4) (hx : h.g k = none) : w.cell? ⟨bh, 1 + k, none⟩ = some (.pointer none) := by
  have := r.cg k hk
  rw [hx] at this
  exact this
theorem RHo.cSome (r : RHo w bh bm base bx v h) {k : Nat} (hk : k < 4) {x : Gs} (hx : h.g k = some x) : w.cell? ⟨bh, 1 + k, none⟩ = some (.pointer (some ⟨bx k, 0, none⟩)) := by
  have := r.cg k hk
  rw [hx] at this
  exact this
/-- What Who answers. -/
def whoV (h : Hs) (bx : Nat → Nat) (n : Int) : Value := if 0 < hWho h n then .pointer none else .pointer (some ⟨bx n.toNat, 0, none⟩)
theorem rWho_any (r : RHo w bh bm base bx v h) (n : Int) : Calls Tryz.prog 94 #[.pointer (some ⟨bh, 0, none⟩), .int .i64 n] w fun e w' => e = .returned (.tuple #[whoV h bx n, .int .i64 (hWho h n)]) ∧ ∃ m, w' = w.drewN m := by
  by_cases ho : n < 0 ∨ 3 < n
  · have hw : hWho h n = 1 := by unfold hWho; rw [if_pos ho]
    have hv : whoV h bx n = .pointer none := by unfold whoV; rw [hw, if_pos (by omega)]
    rw [hw, hv]
    clear hw hv r
    rcases ho with h0 | h0
    · have d0 : decide (n < 0) = true := by simp; omega
      go_enter Tryz.func94, Tryz.ntmps94
      go_wp2_with fail
      go_ret2
      exact ⟨rfl, 0, rfl⟩
    · have d0 : decide (n < 0) = false := by simp; omega
      have d1 : decide (3 < n) = true := by simp; omega
      go_enter Tryz.func94, Tryz.ntmps94
      go_wp2_with fail
      go_ret2
      exact ⟨rfl, 0, rfl⟩
  · obtain ⟨k, rfl⟩ := Int.eq_ofNat_of_zero_le (show 0 ≤ n by omega)
    have hk : k < 4 := by omega
    have d0 : decide ((k : Int) < 0) = false := by simp
    have d1 : decide ((3 : Int) < (k : Int)) = false := by simp; omega
    have k0 : (0 : Int) ≤ (k : Int) := by omega
    have k1 : (k : Int) < 4 := by omega
    cases hx : h.g k with
    | none =>
      have hw : hWho h k = 2 := by unfold hWho; rw [if_neg ho, Int.toNat_natCast, hx]
      have hv : whoV h bx k = .pointer none := by unfold whoV; rw [hw, if_pos (by omega)]
      have c := r.cNone hk hx
      rw [hw, hv]
      clear hw hv r hx ho
      go_enter Tryz.func94, Tryz.ntmps94
      go_wp2_with fail
      go_ret2
      exact ⟨rfl, 0, rfl⟩
    | some x =>
      have hw : hWho h k = 0 := (hWho_some hx hk).1
      have hv : whoV h bx k = .pointer (some ⟨bx k, 0, none⟩) := by unfold whoV; rw [hw, if_neg (by omega), Int.toNat_natCast]
      have c := r.cSome hk hx
      rw [hw, hv]
      clear hw hv r hx ho
      go_enter Tryz.func94, Tryz.ntmps94
      go_wp2_with fail
      go_ret2
      exact ⟨rfl, 0, rfl⟩
theorem whoV_no (hw : 0 < hWho h n) : whoV h bx n = .pointer none := by unfold whoV; rw [if_pos hw]
theorem whoV_yes (hx : h.g n = some x) (hn : n < 4) : whoV h bx n = .pointer (some ⟨bx n, 0, none⟩) := by unfold whoV; rw [(hWho_some hx hn).1, if_neg (by omega), Int.toNat_natCast]
end Go.Proofs.YtadpibcgjgcjhaaGreat
/- The document's host: Promised, Guests. -/
namespace Go.Proofs.YtadpibcgjgcjhaaGreat
open Go.ChangeShapes Go.WideShapes Go.ChangeAt Go.RowKit
set_option maxRecDepth 100000
attribute [local go_sem ↓] Go.wp_at_zero Go.wp_at_succ
variable {w w' : World} {bh bm base : Nat} {bx : Nat → Nat} {v : Nat → Value} {h : Hs} {n : Nat} {x : Gs} {s' : Pl} {x' : Gs}

theorem rPromised_any (r : RHo w bh bm base bx v h) : Calls Tryz.prog 105 #[.pointer (some ⟨bh, 0, none⟩)] w fun e w' => e = .returned (.int .i64 (pln (rowS h) 64 : Nat)) ∧ ∃ m, w' = w.drewN m := by
  have HR : Hid (RHo w bh bm base bx v h) := r
  clear r
  go_enter Tryz.func105, Tryz.ntmps105
  go_wp2_with fail
  go_loopg [3, 4] 4 (fun g c i wr => ∃ k m : Nat, k + g = 4 ∧ i = .int .i64 k ∧ c = .int .i64 (pln (rowS h) (16 * k) : Nat) ∧ wr = w.drewN m)
  case atStart => exact ⟨0, 0, by omega, rfl, rfl, rfl⟩
  case round =>
    obtain ⟨k, m, hk, rfl, rfl, rfl⟩ := hrel
    have HK : Hid _ := hk
    clear hk
    by_cases hlt : k < 4
    · have k0 : (0 : Int) ≤ (k : Int) := by omega
      have k1 : (k : Int) < 4 := by omega
      have HRm : Hid (RHo (w.drewN m) bh bm base bx v h) := HR.out.same ((Upd.refl (fun _ => False) w).drewN m)
      cases hx : h.g k with
      | none =>
        have c := HRm.out.cNone hlt hx
        have HP : Hid _ := pln_none hx 16 (Nat.le_refl _)
        clear hx HRm
        go_wp2_with fail
        go_loopg [3, 5] 0 (fun g c i wr => i = .int .i64 0 ∧ c = .int .i64 (pln (rowS h) (16 * k) : Nat) ∧ wr = w.drewN m)
        case atStart => exact ⟨rfl, rfl, rfl⟩
        case round =>
          obtain ⟨rfl, rfl, rfl⟩ := hrel
          go_wp2_with fail
          go_roundg (4 - (k + 1))
          case rel => exact ⟨k + 1, m, by omega, by go_num, by rw [show 16 * (k + 1) = 16 * k + 16 by omega, HP.out], rfl⟩
          case measure => have := HK.out; omega
      | some x =>
        have c := HRm.out.cSome hlt hx
        have HG : Hid _ := (HRm.out.gu k x hx).mp
        have HX : Hid (h.g k = some x) := hx
        clear hx HRm
        go_wp2_with fail
        go_loopg [3, 5] 16 (fun g c i wr => ∃ j : Nat, j + g = 16 ∧ i = .int .i64 j ∧ c = .int .i64 (pln (rowS h) (16 * k + j) : Nat) ∧ wr = w.drewN m)
        case atStart => exact ⟨0, by omega, rfl, rfl, rfl⟩
        case round =>
          obtain ⟨j, hj, rfl, rfl, rfl⟩ := hrel
          have HJ : Hid _ := hj
          clear hj
          by_cases hlj : j < 16
          · have j0 : (0 : Int) ≤ (j : Int) := by omega
            have j1 : (j : Int) < 16 := by omega
            have cs := HG.out.st j hlj
            have HS : Hid _ := rowS_at HX.out hlj
            have hle := pln_le (rowS h) (16 * k + j)
            have HST : Hid (pln (rowS h) (16 * k + (j + 1)) = pln (rowS h) (16 * k + j) + if rowS h (16 * k + j) = 1 then 1 else 0) := rfl
            by_cases h1 : x.m.st j = 1
            · have d : (x.m.st j == 1) = true := by simp [h1]
              go_wp2_with fail
              go_roundg (16 - (j + 1))
              case rel => exact ⟨j + 1, by omega, by go_num, by rw [HST.out, HS.out, if_pos h1]; go_num, rfl⟩
              case measure => have := HJ.out; omega
            · have d : (x.m.st j == 1) = false := by simp [h1]
              go_wp2_with fail
              go_roundg (16 - (j + 1))
              case rel => exact ⟨j + 1, by omega, by go_num, by rw [HST.out, HS.out, if_neg h1]; rfl, rfl⟩
              case measure => have := HJ.out; omega
          · obtain rfl : j = 16 := by have := HJ.out; omega
            go_wp2_with fail
            go_roundg (4 - (k + 1))
            case rel => exact ⟨k + 1, m, by omega, by go_num, rfl, rfl⟩
            case measure => have := HK.out; omega
    · obtain rfl : k = 4 := by have := HK.out; omega
      go_wp2_with fail
      go_ret
      exact ⟨rfl, m, rfl⟩
end Go.Proofs.YtadpibcgjgcjhaaGreat
/- The document's host: Remove, Plug, Unplug, Give. -/
namespace Go.Proofs.YtadpibcgjgcjhaaGreat
open Go.ChangeShapes Go.WideShapes Go.ChangeAt Go.RowKit
set_option maxRecDepth 100000
attribute [local go_sem ↓] Go.wp_at_zero Go.wp_at_succ
variable {w w' : World} {bh bm base : Nat} {bx : Nat → Nat} {v : Nat → Value} {h : Hs} {x : Gs} {s' : Pl} {x' : Gs} {W : Int}

/-- What the document's host may turn. -/
def RFt (bh bm : Nat) (bx : Nat → Nat) (h : Hs) : Nat → Prop := fun k => k = bh ∨ k = bm ∨ ∃ i x, h.g i = some x ∧ k = bx i
/-- How an act of the document's host ends. -/
def HPost (w : World) (bh bm base : Nat) (bx : Nat → Nat) (h : Hs) (r : Int × Hs) (e : Ending) (w' : World) : Prop :=
  e = .returned (.int .i64 r.1) ∧ (∃ v', RHo w' bh bm base bx v' r.2) ∧ Upd (RFt bh bm bx h) w w'
theorem RHo.go {n : Nat} {f : Nat} {av : Array Value} {res : Int × Pl × Gs} (r : RHo w bh bm base bx v h) (hi : HInv h W) (hW : W ≤ 1000000) (hx : h.g n = some x) (hc : ∀ v, RPre w (bx n) bm base v h.s x (oth h n) → Calls Tryz.prog f av w (RPost w (bx n) bm base v res)) :
    Calls Tryz.prog f av w fun e w' => e = .returned (.int .i64 res.1) ∧ (∃ v', RHo w' bh bm base bx v' (h.put n res.2)) ∧ Upd (fun k => k = bm ∨ k = bx n) w w' := by
  refine (hc _ (r.pre hi hW hx)).mono ?_
  rintro e w' ⟨he, hr, ⟨v', hg, hf⟩, hu⟩
  exact ⟨he, ⟨_, r.act hx hr hg hf hu⟩, hu⟩
theorem upd_ft {n : Nat} {w1 w2 : World} (u : Upd (RFt bh bm bx h) w w1) (hx : h.g n = some x) (u2 : Upd (fun k => k = bm ∨ k = bx n) w1 w2) : Upd (RFt bh bm bx h) w w2 :=
  u.trans u2 (fun i _ e => by
    rcases e with e | e
    · exact Or.inr (Or.inl e)
    · exact Or.inr (Or.inr ⟨n, x, hx, e⟩))
theorem RHo.off {n : Nat} (hn : n < 4) (r : RHo w bh bm base bx v (h.put n (s', x'))) : RHo (w.setCell ⟨bh, 1 + n, none⟩ (.pointer none)) bh bm base bx v (hOff s' h n) := by
  have u := Upd.one w bh (1 + n) (.pointer none)
  have hne : ∀ i y, (hOff s' h n).g i = some y → i ≠ n ∧ (h.put n (s', x')).g i = some y := fun i y hy => by
    have hy : setAt h.g n none i = some y := hy
    by_cases e : i = n
    · subst e; rw [setAt_same] at hy; cases hy
    · rw [setAt_other _ _ _ _ e] at hy; exact ⟨e, (setAt_other _ _ _ _ e).trans hy⟩
  have hc := r.cg n hn
  refine ⟨?_, fun i hi => ?_, fun o => by rw [World.frozen?_setCell]; exact r.fz o, r.ref.upd u (fun e => r.hm e.symm), fun i y hy => ?_, r.hm, fun i y hy => r.ne i y (hne i y hy).2, fun i j y z hy hz e => r.nx i j y z (hne i y hy).2 (hne j z hz).2 e, fun i y k hy hk => ?_, Nat.le_trans r.base u.size, fun j hj => Nat.lt_of_lt_of_le (r.lx j hj) u.size, fun i y k j hy hk hj => r.nl i y k j (hne i y hy).2 hk hj⟩
  · rw [World.cell?_setCell_other _ _ _ _ (addr_ne (Or.inr (by omega)))]; exact r.c0
  · by_cases e : i = n
    · subst e
      rw [World.cell?_setCell_same _ _ _ hc, show (hOff s' h i).g i = none from setAt_same _ _ _]
      rfl
    · rw [World.cell?_setCell_other _ _ _ _ (addr_ne (Or.inr (by omega))), r.cg i hi, show (h.put n (s', x')).g i = h.g i from setAt_other _ _ _ _ e, show (hOff s' h n).g i = h.g i from setAt_other _ _ _ _ e]
  · have h1 := (hne i y hy).2
    exact (r.gu i y h1).upd u (r.ne i y h1).1 (fun k hk e => (r.nv i y k h1 hk).1 e)
  · have h1 := (hne i y hy).2
    have h2 := r.nv i y k h1 hk
    exact ⟨h2.1, h2.2.1, fun j z hz => h2.2.2 j z (hne j z hz).2⟩
theorem rRemove_any (r : RHo w bh bm base bx v h) (hi : HInv h W) (hW : W ≤ 1000000) (n : Int) : Calls Tryz.prog 85 #[.pointer (some ⟨bh, 0, none⟩), .int .i64 n] w (HPost w bh bm base bx h (hRemove h n)) := by
  have HR : Hid (RHo w bh bm base bx v h) := r
  unfold hRemove
  by_cases h0 : 0 < hWho h n
  · rw [if_pos h0]
    have HW : Hid _ := rWho_any r n
    have d : decide (0 < hWho h n) = true := by simp; exact h0
    clear r hi
    go_enter Tryz.func85, Tryz.ntmps85
    go_wp2_with (go_at_call 94; refine Calls.mono HW.out ?_; rintro e w1 ⟨rfl, m, rfl⟩)
    go_ret
    exact ⟨rfl, ⟨v, HR.out.same ((Upd.refl (fun _ => False) w).drewN m)⟩, (Upd.refl _ w).drewN m⟩
  · rw [if_neg h0]
    have hw0 : hWho h n = 0 := by have := hWho_le (h := h) n; omega
    obtain ⟨k, x, rfl, hk, hx, hat⟩ := hWho_zero hw0
    have hv := whoV_yes (bx := bx) hx hk
    have HW : Hid (Calls Tryz.prog 94 #[.pointer (some ⟨bh, 0, none⟩), .int .i64 (k : Int)] w fun e w' => e = .returned (.tuple #[.pointer (some ⟨bx k, 0, none⟩), .int .i64 0]) ∧ ∃ m, w' = w.drewN m) := by
      have := rWho_any r (k : Int)
      rw [hv, hw0] at this
      exact this
    rw [hat, Int.toNat_natCast]
    have HX : Hid (h.g k = some x) := hx
    have HI : Hid (HInv h W) := hi
    have k0 : (0 : Int) ≤ (k : Int) := by omega
    have k1 : (k : Int) < 4 := by omega
    clear r hi hv hat hx h0 hw0
    go_enter Tryz.func85, Tryz.ntmps85
    go_wp2_with (go_at_call 94; refine Calls.mono HW.out ?_; rintro e w1 ⟨rfl, m, rfl⟩)
    go_loopg [7] 16 (fun g i wr => ∃ (j : Nat) (v' : Nat → Value), j + g = 16 ∧ i = .int .i64 j ∧ Hid (RHo wr bh bm base bx v' (h.put k (gClear h.s x j))) ∧ Hid (Upd (RFt bh bm bx h) w wr))
    case atStart => exact ⟨0, v, by omega, rfl, by rw [show h.put k (gClear h.s x 0) = h from Hs.put_self HX.out]; exact HR.out.same ((Upd.refl (fun _ => False) w).drewN m), (Upd.refl _ w).drewN m⟩
    case round =>
      obtain ⟨j, v', hj, rfl, HRj, HUj⟩ := hrel
      have HJ : Hid _ := hj
      clear hj
      by_cases hlt : j < 16
      · have hc := HRj.out.go (HI.out.clear HX.out j) hW (put_at _ _ _) (fun _ p => p.unplug (j : Int))
        have HC : Hid _ := hc
        clear hc
        go_wp2_with fail
        refine Calls.mono HC.out ?_
        rintro e w2 ⟨rfl, ⟨v2, hr2⟩, hu2⟩
        rw [put_put] at hr2
        have HR2 : Hid (RHo w2 bh bm base bx v2 (h.put k (gClear h.s x (j + 1)))) := hr2
        have HU2 : Hid _ := upd_ft HUj.out HX.out hu2
        clear hr2 hu2 HC
        go_wp2_with fail
        go_roundg (16 - (j + 1))
        case rel => exact ⟨j + 1, v2, by omega, by go_num, HR2.out, HU2.out⟩
        case measure => have := HJ.out; omega
      · obtain rfl : j = 16 := by have := HJ.out; omega
        have c := HRj.out.cg k hk
        have z := HRj.out.fz (1 + k)
        have HO : Hid _ := HRj.out.off hk
        go_wp2_with fail
        go_ret
        exact ⟨rfl, ⟨v', HO.out⟩, HUj.out.trans (Upd.one wr bh (1 + k) (.pointer none)) (fun _ _ e => Or.inl e)⟩
theorem rPlug_host (r : RHo w bh bm base bx v h) (hi : HInv h W) (hW : W ≤ 1000000) (n b : Int) : Calls Tryz.prog 86 #[.pointer (some ⟨bh, 0, none⟩), .int .i64 n, .int .i64 b] w (HPost w bh bm base bx h (hPlug h n b)) := by
  have HR : Hid (RHo w bh bm base bx v h) := r
  unfold hPlug
  by_cases h0 : 0 < hWho h n
  · rw [if_pos h0]
    have HW : Hid _ := rWho_any r n
    have d : decide (0 < hWho h n) = true := by simp; exact h0
    clear r hi
    go_enter Tryz.func86, Tryz.ntmps86
    go_wp2_with (go_at_call 94; refine Calls.mono HW.out ?_; rintro e w1 ⟨rfl, m, rfl⟩)
    go_ret
    exact ⟨rfl, ⟨v, HR.out.same ((Upd.refl (fun _ => False) w).drewN m)⟩, (Upd.refl _ w).drewN m⟩
  · rw [if_neg h0]
    have hw0 : hWho h n = 0 := by have := hWho_le (h := h) n; omega
    obtain ⟨k, x, rfl, hk, hx, hat⟩ := hWho_zero hw0
    have hv := whoV_yes (bx := bx) hx hk
    have HW : Hid (Calls Tryz.prog 94 #[.pointer (some ⟨bh, 0, none⟩), .int .i64 (k : Int)] w fun e w' => e = .returned (.tuple #[.pointer (some ⟨bx k, 0, none⟩), .int .i64 0]) ∧ ∃ m, w' = w.drewN m) := by
      have := rWho_any r (k : Int)
      rw [hv, hw0] at this
      exact this
    rw [hat, Int.toNat_natCast]
    have HX : Hid (h.g k = some x) := hx
    have HI : Hid (HInv h W) := hi
    have k0 : (0 : Int) ≤ (k : Int) := by omega
    have k1 : (k : Int) < 4 := by omega
    clear r hi hv hat hx h0 hw0
    by_cases hb : b < 0 ∨ 3 < b
    · rw [if_pos hb]
      rcases hb with hb | hb
      · have d0 : decide (b < 0) = true := by simp; omega
        go_enter Tryz.func86, Tryz.ntmps86
        go_wp2_with (go_at_call 94; refine Calls.mono HW.out ?_; rintro e w1 ⟨rfl, m, rfl⟩)
        go_ret
        exact ⟨rfl, ⟨v, HR.out.same ((Upd.refl (fun _ => False) w).drewN m)⟩, (Upd.refl _ w).drewN m⟩
      · have d0 : decide (b < 0) = false := by simp; omega
        have d1 : decide (3 < b) = true := by simp; omega
        go_enter Tryz.func86, Tryz.ntmps86
        go_wp2_with (go_at_call 94; refine Calls.mono HW.out ?_; rintro e w1 ⟨rfl, m, rfl⟩)
        go_ret
        exact ⟨rfl, ⟨v, HR.out.same ((Upd.refl (fun _ => False) w).drewN m)⟩, (Upd.refl _ w).drewN m⟩
    · rw [if_neg hb]
      obtain ⟨q, rfl⟩ := Int.eq_ofNat_of_zero_le (show 0 ≤ b by omega)
      have hq : q < 4 := by omega
      have d0 : decide ((q : Int) < 0) = false := by simp
      have d1 : decide ((3 : Int) < (q : Int)) = false := by simp; omega
      rw [Int.toNat_natCast]
      clear hb
      have w4 : IntKind.i64.wrap (4 * (q : Int)) = 4 * (q : Int) := by rw [IntKind.wrap_i64]; omega
      have i0 : (0 : Int) ≤ 4 * (q : Int) := by omega
      have i1 : (4 * (q : Int)) < 16 := by omega
      have it : (4 * (q : Int)).toNat = 4 * q := by omega
      by_cases hs : x.m.st (4 * q) ≠ 0
      · rw [if_pos hs]
        have d2 : (x.m.st (4 * q) != 0) = true := by simp; exact hs
        go_enter Tryz.func86, Tryz.ntmps86
        go_wp2_with (go_at_call 94; refine Calls.mono HW.out ?_; rintro e w1 ⟨rfl, m, rfl⟩; have cs := (HR.out.gu k x HX.out).mp.st (4 * q) (by omega))
        go_ret
        exact ⟨rfl, ⟨v, HR.out.same ((Upd.refl (fun _ => False) w).drewN m)⟩, (Upd.refl _ w).drewN m⟩
      · rw [if_neg hs]
        have hs0 : x.m.st (4 * q) = 0 := by simpa using hs
        have d2 : (x.m.st (4 * q) != 0) = false := by simp [hs0]
        have hle := pln_le (rowS h) 64
        have sA : w.cell? ⟨bh, 0, none⟩ = some (.pointer (some ⟨bm, 0, none⟩)) ∧ w.cell? ⟨bm, 0, none⟩ = some (.int .i64 h.s.n) := ⟨HR.out.c0, HR.out.ref.num⟩
        have w6 : IntKind.i64.wrap (((pln (rowS h) 64 : Nat) : Int) + 4) = ((pln (rowS h) 64 : Nat) : Int) + 4 := by rw [IntKind.wrap_i64]; omega
        clear hs hs0
        by_cases hp : h.s.n < pln (rowS h) 64 + 4
        · rw [if_pos hp]
          have d3 : decide ((h.s.n : Int) < ((pln (rowS h) 64 : Nat) : Int) + 4) = true := by simp; omega
          clear hp
          go_enter Tryz.func86, Tryz.ntmps86
          go_wp2_with (go_at_call 94; refine Calls.mono HW.out ?_; rintro e w1 ⟨rfl, m, rfl⟩; have cs := (HR.out.gu k x HX.out).mp.st (4 * q) (by omega))
          have HRm : Hid (RHo (w.drewN m).drew bh bm base bx v h) := HR.out.same ((Upd.refl (fun _ => False) w).drewN m).drew
          have HP : Hid _ := rPromised_any HRm.out
          generalize pln (rowS h) 64 = P at *
          go_region_held3 (fun w' => w'.cell? ⟨bh, 0, none⟩ = some (.pointer (some ⟨bm, 0, none⟩)) ∧ w'.cell? ⟨bm, 0, none⟩ = some (.int .i64 h.s.n)) (first | exact sA | exact h4c)
            ((go_at_call 105; refine Calls.mono HP.out ?_; rintro e w2 ⟨rfl, m2, rfl⟩; have h4c : ((w.drewN m).drew.drewN m2).cell? ⟨bh, 0, none⟩ = some (.pointer (some ⟨bm, 0, none⟩)) ∧ ((w.drewN m).drew.drewN m2).cell? ⟨bm, 0, none⟩ = some (.int .i64 h.s.n) := sA))
          go_wp2_with fail
          go_ret
          exact ⟨rfl, ⟨v, HR.out.same ((Upd.refl (fun _ => False) w).drewN _)⟩, (Upd.refl _ w).drewN _⟩
        · rw [if_neg hp]
          have d3 : decide ((h.s.n : Int) < ((pln (rowS h) 64 : Nat) : Int) + 4) = false := by simp; omega
          clear hp
          go_enter Tryz.func86, Tryz.ntmps86
          go_wp2_with (go_at_call 94; refine Calls.mono HW.out ?_; rintro e w1 ⟨rfl, m, rfl⟩; have cs := (HR.out.gu k x HX.out).mp.st (4 * q) (by omega))
          have HRm : Hid (RHo (w.drewN m).drew bh bm base bx v h) := HR.out.same ((Upd.refl (fun _ => False) w).drewN m).drew
          have HP : Hid _ := rPromised_any HRm.out
          generalize pln (rowS h) 64 = P at *
          go_region_held3 (fun w' => w'.cell? ⟨bh, 0, none⟩ = some (.pointer (some ⟨bm, 0, none⟩)) ∧ w'.cell? ⟨bm, 0, none⟩ = some (.int .i64 h.s.n)) (first | exact sA | exact h4c)
            ((go_at_call 105; refine Calls.mono HP.out ?_; rintro e w2 ⟨rfl, m2, rfl⟩; have h4c : ((w.drewN m).drew.drewN m2).cell? ⟨bh, 0, none⟩ = some (.pointer (some ⟨bm, 0, none⟩)) ∧ ((w.drewN m).drew.drewN m2).cell? ⟨bm, 0, none⟩ = some (.int .i64 h.s.n) := sA))
          have HRp : Hid (RHo (w.drewN (m + 1 + m2)) bh bm base bx v h) := HR.out.same ((Upd.refl (fun _ => False) w).drewN _)
          have HUp : Hid (Upd (RFt bh bm bx h) w (w.drewN (m + 1 + m2))) := (Upd.refl _ w).drewN _
          clear h4c sA cs HP HRm
          go_wp2_with fail
          revert HRp HUp
          generalize w.drewN (m + 1 + m2) = wp
          intro HRp HUp
          go_loopg [9] 4 (fun g i wr => ∃ (j : Nat) (v' : Nat → Value), j + g = 4 ∧ i = .int .i64 j ∧ Hid (RHo wr bh bm base bx v' (h.put k (gPlugs h.s x q j))) ∧ Hid (Upd (RFt bh bm bx h) w wr))
          case atStart => exact ⟨0, v, by omega, rfl, by rw [show h.put k (gPlugs h.s x q 0) = h from Hs.put_self HX.out]; exact HRp.out, HUp.out⟩
          case round =>
            obtain ⟨j, v', hj, rfl, HRj, HUj⟩ := hrel
            have HJ : Hid _ := hj
            clear hj
            by_cases hlt : j < 4
            · have hcast : ((4 * q + j : Nat) : Int) = 4 * (q : Int) + (j : Int) := by omega
              have hc := HRj.out.go (HI.out.plugs HX.out q j) hW (put_at _ _ _) (fun _ p => p.plug ((4 * q + j : Nat) : Int))
              rw [hcast] at hc
              have HC : Hid _ := hc
              have HCA : Hid _ := hcast
              have w5 : IntKind.i64.wrap (4 * (q : Int) + (j : Int)) = 4 * (q : Int) + (j : Int) := by rw [IntKind.wrap_i64]; omega
              clear hc hcast
              go_wp2_with fail
              refine Calls.mono HC.out ?_
              rintro e w2 ⟨rfl, ⟨v2, hr2⟩, hu2⟩
              rw [put_put, ← HCA.out] at hr2
              have HR2 : Hid (RHo w2 bh bm base bx v2 (h.put k (gPlugs h.s x q (j + 1)))) := hr2
              have HU2 : Hid _ := upd_ft HUj.out HX.out hu2
              clear hr2 hu2 HC
              go_wp2_with fail
              go_roundg (4 - (j + 1))
              case rel => exact ⟨j + 1, v2, by omega, by go_num, HR2.out, HU2.out⟩
              case measure => have := HJ.out; omega
            · obtain rfl : j = 4 := by have := HJ.out; omega
              go_wp2_with fail
              go_ret
              exact ⟨rfl, ⟨v', HRj.out⟩, HUj.out⟩
end Go.Proofs.YtadpibcgjgcjhaaGreat
