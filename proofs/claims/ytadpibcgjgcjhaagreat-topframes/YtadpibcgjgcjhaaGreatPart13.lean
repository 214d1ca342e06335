/- What a host answers hangs on its pages' states and, of a guest's loads and stores, on its flat memory (E5). -/
import Derived.Test.YtadpibcgjgcjhaaGreatPart12
import Derived.Test.YtadpibcgjgcjhaaGreatPart08
namespace Go.Proofs.YtadpibcgjgcjhaaGreat
open Go.RowKit
variable {h : Hs} {t : Nat → Nat → Int} {F F' : Nat → Option Fl} {W : Int} {x : Gs} {f : Fl}

def fWho (F : Nat → Option Fl) (n : Int) : Int := if n < 0 ∨ 3 < n then 1 else match F n.toNat with
  | none => 2
  | some _ => 0
def fSt (o : Option Fl) (j : Nat) : Int := match o with
  | some f => f.st j
  | none => 0
def rowF (F : Nat → Option Fl) (k : Nat) : Int := fSt (F (k / 16)) (k % 16)
theorem pln_congr {S T : Nat → Int} : ∀ K, (∀ k, k < K → S k = T k) → pln S K = pln T K
  | 0, _ => rfl
  | K + 1, h => by simp only [pln]; rw [pln_congr K (fun k hk => h k (by omega)), h K (by omega)]
theorem HF.who (hf : HF h t F W) (n : Int) : hWho h n = fWho F n := by
  unfold hWho fWho
  split
  · rfl
  · have := hf.non n.toNat
    cases hx : h.g n.toNat with
    | none => rw [this.1 hx]
    | some x =>
      cases hq : F n.toNat with
      | none => have := this.2 hq; rw [hx] at this; cases this
      | some f => rfl
theorem HF.rowF (hf : HF h t F W) (k : Nat) : rowS h k = rowF F k := by
  unfold rowS Go.Proofs.YtadpibcgjgcjhaaGreat.rowF gSt fSt
  have hn := hf.non (k / 16)
  cases hx : h.g (k / 16) with
  | none => rw [hn.1 hx]
  | some x =>
    cases hq : F (k / 16) with
    | none => have := hn.2 hq; rw [hx] at this; cases this
    | some f => exact ((hf.fl _ x f hx hq).st (k % 16) (by omega)).symm
theorem HF.prom (hf : HF h t F W) : pln (rowS h) 64 = pln (Go.Proofs.YtadpibcgjgcjhaaGreat.rowF F) 64 := pln_congr 64 (fun k _ => hf.rowF k)
/-- What Plug answers. -/
def cPlug (F : Nat → Option Fl) (N : Nat) (n b : Int) : Int :=
  if 0 < fWho F n then fWho F n else if b < 0 ∨ 3 < b then 1 else if fSt (F n.toNat) (4 * b.toNat) ≠ 0 then 4 else if N < pln (rowF F) 64 + 4 then 7 else 0
def cUnplug (F : Nat → Option Fl) (n b : Int) : Int :=
  if 0 < fWho F n then fWho F n else if b < 0 ∨ 3 < b then 1 else if fSt (F n.toNat) (4 * b.toNat) = 0 then 2 else 0
def cGive (F : Nat → Option Fl) (N : Nat) (n p : Int) (back : Bool) : Int :=
  if 0 < fWho F n then fWho F n else if onB p = true then (if back = true then (if fSt (F n.toNat) p.toNat = 2 then (if pln (rowF F) 64 = N then 7 else 0) else 8) else (if fSt (F n.toNat) p.toNat = 1 then 0 else 8)) else 1
def cAdd (F : Nat → Option Fl) : Int × Int := if (F 0).isNone then (0, 0) else if (F 1).isNone then (1, 0) else if (F 2).isNone then (2, 0) else if (F 3).isNone then (3, 0) else (0, 4)
theorem HF.st_at (hf : HF h t F W) {n : Int} (hw : ¬ 0 < hWho h n) {j : Nat} (hj : j < 16) : (hAt h n).m.st j = fSt (F n.toNat) j := by
  obtain ⟨k, x, rfl, hk, hx, hat⟩ := hWho_zero (show hWho h n = 0 by have := hWho_le (h := h) n; omega)
  obtain ⟨f, hq, hv⟩ := hf.view hx
  rw [hat, Int.toNat_natCast, hq]
  exact (hv.st j hj).symm
theorem HF.cplug (hf : HF h t F W) (n b : Int) : (hPlug h n b).1 = cPlug F h.s.n n b := by
  unfold hPlug cPlug
  rw [← hf.who, ← hf.prom]
  by_cases h0 : 0 < hWho h n
  · rw [if_pos h0, if_pos h0]
  · rw [if_neg h0, if_neg h0]
    by_cases hb : b < 0 ∨ 3 < b
    · rw [if_pos hb, if_pos hb]
    · rw [if_neg hb, if_neg hb, hf.st_at h0 (by omega)]
      repeat' split
      all_goals rfl
theorem HF.cunplug (hf : HF h t F W) (n b : Int) : (hUnplug h n b).1 = cUnplug F n b := by
  unfold hUnplug cUnplug
  rw [← hf.who]
  by_cases h0 : 0 < hWho h n
  · rw [if_pos h0, if_pos h0]
  · rw [if_neg h0, if_neg h0]
    by_cases hb : b < 0 ∨ 3 < b
    · rw [if_pos hb, if_pos hb]
    · rw [if_neg hb, if_neg hb]
      have hst := hf.st_at h0 (show 4 * b.toNat < 16 by omega)
      obtain ⟨k, x, rfl, hk, hx, hat⟩ := hWho_zero (show hWho h n = 0 by have := hWho_le (h := h) n; omega)
      rw [hat] at hst ⊢
      rw [← hst]
      have hb4 : b.toNat < 4 := by omega
      by_cases hs0 : x.m.st (4 * b.toNat) = 0
      · rw [if_pos hs0, gUnplugs_no _ _ hb4 hs0 3]
      · have hall : ∀ j, j < 4 → x.m.st (4 * b.toNat + j) ≠ 0 := fun j hj e => hs0 ((hf.blk k x hx b.toNat j hb4 hj).2 e)
        rw [if_neg hs0, gUnplugs_is _ _ hb4 hall 4 (Nat.le_refl _)]
theorem HF.cgive (hf : HF h t F W) (n p : Int) (back : Bool) : (hGive h n p back).1 = cGive F h.s.n n p back := by
  unfold hGive cGive
  rw [← hf.who, ← hf.prom]
  by_cases h0 : 0 < hWho h n
  · rw [if_pos h0, if_pos h0]
  · rw [if_neg h0, if_neg h0]
    by_cases ho : onB p = true
    · have hp := (onB_iff p).1 ho
      rw [if_pos ho, ← hf.st_at h0 (show p.toNat < 16 by omega)]
      obtain ⟨q, rfl⟩ := Int.eq_ofNat_of_zero_le hp.1
      have hq16 : q < 16 := by omega
      cases back with
      | true =>
        simp only [ho, Bool.and_self, true_and, if_true, Int.toNat_natCast]
        by_cases h2 : (hAt h n).m.st q = 2
        · by_cases h3 : pln (rowS h) 64 = h.s.n
          · rw [if_pos ⟨h2, h3⟩, if_pos h2, if_pos h3]
          · rw [if_neg (fun c => h3 c.2), if_pos h2, if_neg h3, gBack_yes _ _ hq16 h2]
        · rw [if_neg (fun c => h2 c.1), if_neg h2]
          unfold gGive gMap giveR
          simp only [ho, if_true, Int.toNat_natCast]
          rw [if_neg h2]
      | false =>
        simp only [Bool.false_and, Bool.false_eq_true, false_and, if_false, Int.toNat_natCast]
        by_cases h1 : (hAt h n).m.st q = 1
        · rw [if_pos h1, gGive_yes _ _ hq16 h1]
        · rw [if_neg h1]
          unfold gGive gMap giveR
          simp only [ho, if_true, Int.toNat_natCast, Bool.false_eq_true, if_false]
          rw [if_neg h1]
    · have ho' : onB p = false := by simpa using ho
      rw [if_neg ho, if_neg (fun c => by rw [ho'] at c; simp at c)]
      unfold gGive gMap giveR
      simp only [ho', Bool.false_eq_true, if_false]
theorem HF.cadd (hf : HF h t F W) : (hAdd h).1 = cAdd F := by
  unfold hAdd hFree cAdd
  have e : ∀ i, (h.g i = none) ↔ ((F i).isNone = true) := fun i => by rw [hf.non i, Option.isNone_iff_eq_none]
  by_cases h0 : h.g 0 = none
  · rw [if_pos h0, if_pos ((e 0).1 h0)]; rfl
  · rw [if_neg h0, if_neg (fun c => h0 ((e 0).2 c))]
    by_cases h1 : h.g 1 = none
    · rw [if_pos h1, if_pos ((e 1).1 h1)]; rfl
    · rw [if_neg h1, if_neg (fun c => h1 ((e 1).2 c))]
      by_cases h2 : h.g 2 = none
      · rw [if_pos h2, if_pos ((e 2).1 h2)]; rfl
      · rw [if_neg h2, if_neg (fun c => h2 ((e 2).2 c))]
        by_cases h3 : h.g 3 = none
        · rw [if_pos h3, if_pos ((e 3).1 h3)]; rfl
        · rw [if_neg h3, if_neg (fun c => h3 ((e 3).2 c))]
/-- Two hosts whose pages have the same states. -/
def Alk (F F' : Nat → Option Fl) : Prop := ∀ i, (F i = none ↔ F' i = none) ∧ ∀ f f', F i = some f → F' i = some f' → f.st = f'.st
theorem Alk.st (ha : Alk F F') (i : Nat) : fSt (F i) = fSt (F' i) := by
  obtain ⟨h1, h2⟩ := ha i
  cases hq : F i with
  | none => rw [h1.1 hq]
  | some f =>
    cases hr : F' i with
    | none => have := h1.2 hr; rw [hq] at this; cases this
    | some f' => exact h2 f f' hq hr
theorem Alk.row (ha : Alk F F') : rowF F = rowF F' := by
  funext k
  unfold rowF
  rw [ha.st]
theorem Alk.who (ha : Alk F F') (n : Int) : fWho F n = fWho F' n := by
  unfold fWho
  split
  · rfl
  · have := (ha n.toNat).1
    cases hq : F n.toNat with
    | none => rw [this.1 hq]
    | some f =>
      cases hr : F' n.toNat with
      | none => have := this.2 hr; rw [hq] at this; cases this
      | some f' => rfl
theorem Alk.plug (ha : Alk F F') (N : Nat) (n b : Int) : cPlug F N n b = cPlug F' N n b := by unfold cPlug; rw [ha.who, ha.row, ha.st]
theorem Alk.unplug (ha : Alk F F') (n b : Int) : cUnplug F n b = cUnplug F' n b := by unfold cUnplug; rw [ha.who, ha.st]
theorem Alk.give (ha : Alk F F') (N : Nat) (n p : Int) (back : Bool) : cGive F N n p back = cGive F' N n p back := by unfold cGive; rw [ha.who, ha.row, ha.st]
theorem Alk.add (ha : Alk F F') : cAdd F = cAdd F' := by
  have e : ∀ i, (F i).isNone = (F' i).isNone := fun i => by
    rw [Bool.eq_iff_iff, Option.isNone_iff_eq_none, Option.isNone_iff_eq_none]; exact (ha i).1
  unfold cAdd
  rw [e 0, e 1, e 2, e 3]
theorem Alk.refl (F : Nat → Option Fl) : Alk F F := fun _ => ⟨Iff.rfl, fun f f' h1 h2 => by rw [h1] at h2; cases h2; rfl⟩
end Go.Proofs.YtadpibcgjgcjhaaGreat
/- A host, plainly: what its loops keep. -/
namespace Go.Proofs.YtadpibcgjgcjhaaGreat
open Go.RowKit
variable {h : Hs} {W : Int} {x : Gs}

/-- A guest's pointer. -/
def gPtr (o : Option Gs) (b : Nat) : Value := match o with
  | some _ => .pointer (some ⟨b, 0, none⟩)
  | none => .pointer none
theorem pln_le (S : Nat → Int) : ∀ K, pln S K ≤ K
  | 0 => Nat.le_refl _
  | K + 1 => by have := pln_le S K; simp only [pln]; split <;> omega
theorem pln_none {n : Nat} (hx : h.g n = none) : ∀ j, j ≤ 16 → pln (rowS h) (16 * n + j) = pln (rowS h) (16 * n)
  | 0, _ => rfl
  | j + 1, hj => by
    have ih := pln_none hx j (by omega)
    have : rowS h (16 * n + j) = 0 := by
      unfold rowS
      rw [show (16 * n + j) / 16 = n by omega, hx]; rfl
    rw [show 16 * n + (j + 1) = (16 * n + j) + 1 by omega]
    simp only [pln]
    rw [this, ih]; simp
theorem HInv.unplug1 {n : Nat} (hi : HInv h W) (hx : h.g n = some x) (k : Int) : HInv (h.put n (gUnplug h.s x k).2) W :=
  hi.put hx ((hi.ginv hx).unplug k) (hi.gi n x hx).2.di (unplug_n _ _ _) (Int.le_refl _)
theorem HInv.plug1 {n : Nat} (hi : HInv h W) (hx : h.g n = some x) (k : Int) : HInv (h.put n (gPlug h.s x k).2) W :=
  hi.put hx ((hi.ginv hx).plug k) (hi.gi n x hx).2.di (plug_n _ _ _) (Int.le_refl _)
theorem HInv.clear {n : Nat} (hi : HInv h W) (hx : h.g n = some x) : ∀ j, HInv (h.put n (gClear h.s x j)) W
  | 0 => by rw [show h.put n (gClear h.s x 0) = h from Hs.put_self hx]; exact hi
  | j + 1 => by
    have := (hi.clear hx j).unplug1 (put_at _ _ _) (j : Int)
    rw [put_put] at this
    exact this
theorem HInv.plugs {n : Nat} (hi : HInv h W) (hx : h.g n = some x) (b : Nat) : ∀ j, HInv (h.put n (gPlugs h.s x b j)) W
  | 0 => by rw [show h.put n (gPlugs h.s x b 0) = h from Hs.put_self hx]; exact hi
  | j + 1 => by
    have := (hi.plugs hx b j).plug1 (put_at _ _ _) ((4 * b + j : Nat) : Int)
    rw [put_put] at this
    exact this
theorem HInv.unplugs {n : Nat} (hi : HInv h W) (hx : h.g n = some x) (b : Nat) : ∀ j, HInv (h.put n (gUnplugs h.s x b j).2) W
  | 0 => by rw [show h.put n (gUnplugs h.s x b 0).2 = h from Hs.put_self hx]; exact hi
  | j + 1 => by
    have h1 := hi.unplugs hx b j
    show HInv (h.put n (if 0 < (gUnplugs h.s x b j).1 then gUnplugs h.s x b j else gUnplug (gUnplugs h.s x b j).2.1 (gUnplugs h.s x b j).2.2 ((4 * b + j : Nat) : Int)).2) W
    split
    · exact h1
    · have := h1.unplug1 (put_at _ _ _) ((4 * b + j : Nat) : Int)
      rw [put_put] at this
      exact this
theorem hFree_at {k : Nat} (hk : k < 4) (hs : ∀ i, i < k → h.g i ≠ none) (hx : h.g k = none) : hFree h = some k := by
  unfold hFree
  have : k = 0 ∨ k = 1 ∨ k = 2 ∨ k = 3 := by omega
  rcases this with rfl | rfl | rfl | rfl
  · rw [if_pos hx]
  · rw [if_neg (hs 0 (by omega)), if_pos hx]
  · rw [if_neg (hs 0 (by omega)), if_neg (hs 1 (by omega)), if_pos hx]
  · rw [if_neg (hs 0 (by omega)), if_neg (hs 1 (by omega)), if_neg (hs 2 (by omega)), if_pos hx]
theorem hFree_no (hs : ∀ i, i < 4 → h.g i ≠ none) : hFree h = none := by
  unfold hFree
  rw [if_neg (hs 0 (by omega)), if_neg (hs 1 (by omega)), if_neg (hs 2 (by omega)), if_neg (hs 3 (by omega))]
end Go.Proofs.YtadpibcgjgcjhaaGreat
/- Sealing, page by page; the row of leaves read by the document's host. -/
namespace Go.Proofs.YtadpibcgjgcjhaaGreat
open Go.RowKit
variable {h : Hs} {W : Int} {n : Nat} {x y : Gs}

theorem sealTo_zero (h : Hs) (fr : Int) : hSealTo h fr 0 = h := by
  have e : ∀ j, (hSealTo h fr 0).g j = h.g j := fun j => by
    show (h.g j).map _ = _
    cases h.g j with
    | none => rfl
    | some x =>
      have : sealOf x.m (16 * j) fr 0 = x.m := by
        unfold sealOf
        have : (fun k => if (k < 16 ∧ 16 * j + k < 0) ∧ (x.m.lf k).there = true ∧ (x.m.lf k).fr = fr then { x.m.lf k with wr := false } else x.m.lf k) = x.m.lf := by
          funext k
          rw [if_neg (by omega)]
        rw [this]
      simp only [Option.map_some]
      rw [this]
  have e2 : (hSealTo h fr 0).g = h.g := funext e
  show (⟨h.s, (hSealTo h fr 0).g⟩ : Hs) = h
  rw [e2]
theorem sealOf_next (m : Mp) (fr : Int) {j i : Nat} (hj : j ≠ i / 16) : sealOf m (16 * j) fr (i + 1) = sealOf m (16 * j) fr i := by
  unfold sealOf
  have : (fun k => if (k < 16 ∧ 16 * j + k < i + 1) ∧ (m.lf k).there = true ∧ (m.lf k).fr = fr then { m.lf k with wr := false } else m.lf k) = (fun k => if (k < 16 ∧ 16 * j + k < i) ∧ (m.lf k).there = true ∧ (m.lf k).fr = fr then { m.lf k with wr := false } else m.lf k) := by
    funext k
    by_cases hk : k < 16
    · have e : (k < 16 ∧ 16 * j + k < i + 1) ↔ (k < 16 ∧ 16 * j + k < i) := by omega
      by_cases hc : (k < 16 ∧ 16 * j + k < i) ∧ (m.lf k).there = true ∧ (m.lf k).fr = fr
      · rw [if_pos hc, if_pos ⟨e.2 hc.1, hc.2⟩]
      · rw [if_neg hc, if_neg (fun c => hc ⟨e.1 c.1, c.2⟩)]
    · rw [if_neg (fun c => hk c.1.1), if_neg (fun c => hk c.1.1)]
  rw [this]
theorem sealOf_skip (m : Mp) (fr : Int) {i : Nat} (hn : ¬ ((m.lf (i % 16)).there = true ∧ (m.lf (i % 16)).fr = fr)) : sealOf m (16 * (i / 16)) fr (i + 1) = sealOf m (16 * (i / 16)) fr i := by
  unfold sealOf
  have : (fun k => if (k < 16 ∧ 16 * (i / 16) + k < i + 1) ∧ (m.lf k).there = true ∧ (m.lf k).fr = fr then { m.lf k with wr := false } else m.lf k) = (fun k => if (k < 16 ∧ 16 * (i / 16) + k < i) ∧ (m.lf k).there = true ∧ (m.lf k).fr = fr then { m.lf k with wr := false } else m.lf k) := by
    funext k
    by_cases hk : k = i % 16
    · rw [hk, if_neg (fun c => hn c.2), if_neg (fun c => hn c.2)]
    · have e : (k < 16 ∧ 16 * (i / 16) + k < i + 1) ↔ (k < 16 ∧ 16 * (i / 16) + k < i) := by omega
      by_cases hc : (k < 16 ∧ 16 * (i / 16) + k < i) ∧ (m.lf k).there = true ∧ (m.lf k).fr = fr
      · rw [if_pos hc, if_pos ⟨e.2 hc.1, hc.2⟩]
      · rw [if_neg hc, if_neg (fun c => hc ⟨e.1 c.1, c.2⟩)]
  rw [this]
theorem sealOf_step (m : Mp) (fr : Int) {i : Nat} (ht : (m.lf (i % 16)).there = true) (hf : (m.lf (i % 16)).fr = fr) : (sealR (sealOf m (16 * (i / 16)) fr i) ((i % 16 : Nat) : Int)).2 = sealOf m (16 * (i / 16)) fr (i + 1) := by
  have hon : onB ((i % 16 : Nat) : Int) = true := (onB_iff _).2 (by omega)
  have hat : (sealOf m (16 * (i / 16)) fr i).lf (i % 16) = m.lf (i % 16) := by
    unfold sealOf
    simp only
    rw [if_neg (by omega)]
  unfold sealR
  rw [if_pos hon, Int.toNat_natCast, hat, if_pos ht]
  show ({ sealOf m (16 * (i / 16)) fr i with lf := setAt (sealOf m (16 * (i / 16)) fr i).lf (i % 16) { m.lf (i % 16) with wr := false } } : Mp) = _
  have : setAt (sealOf m (16 * (i / 16)) fr i).lf (i % 16) { m.lf (i % 16) with wr := false } = (sealOf m (16 * (i / 16)) fr (i + 1)).lf := by
    funext k
    by_cases hk : k = i % 16
    · subst hk
      rw [setAt_same]
      unfold sealOf
      simp only
      rw [if_pos ⟨⟨by omega, by omega⟩, ht, hf⟩]
    · rw [setAt_other _ _ _ _ hk]
      unfold sealOf
      simp only
      have e : (k < 16 ∧ 16 * (i / 16) + k < i + 1) ↔ (k < 16 ∧ 16 * (i / 16) + k < i) := by omega
      by_cases hc : (k < 16 ∧ 16 * (i / 16) + k < i) ∧ (m.lf k).there = true ∧ (m.lf k).fr = fr
      · rw [if_pos hc, if_pos ⟨e.2 hc.1, hc.2⟩]
      · rw [if_neg hc, if_neg (fun c => hc ⟨e.1 c.1, c.2⟩)]
  rw [this]
  rfl
theorem Hs.ext' {a b : Hs} (h1 : a.s = b.s) (h2 : ∀ j, a.g j = b.g j) : a = b := by
  cases a
  cases b
  simp only at h1 h2
  rw [h1, funext h2]
theorem sealTo_none (h : Hs) (fr : Int) {i : Nat} (hx : h.g (i / 16) = none) : hSealTo h fr (i + 1) = hSealTo h fr i := by
  refine Hs.ext' rfl (fun j => ?_)
  show (h.g j).map _ = (h.g j).map _
  by_cases e : j = i / 16
  · rw [e, hx]; rfl
  · cases h.g j with
    | none => rfl
    | some z =>
      simp only [Option.map_some]
      rw [sealOf_next _ _ e]
theorem sealTo_skip (h : Hs) (fr : Int) {i : Nat} (hx : h.g (i / 16) = some x) (hn : ¬ ((x.m.lf (i % 16)).there = true ∧ (x.m.lf (i % 16)).fr = fr)) : hSealTo h fr (i + 1) = hSealTo h fr i := by
  refine Hs.ext' rfl (fun j => ?_)
  show (h.g j).map _ = (h.g j).map _
  by_cases e : j = i / 16
  · subst e
    rw [hx]
    simp only [Option.map_some]
    rw [sealOf_skip _ _ hn]
  · cases h.g j with
    | none => rfl
    | some z =>
      simp only [Option.map_some]
      rw [sealOf_next _ _ e]
theorem sealTo_step (h : Hs) (fr : Int) {i : Nat} (hx : h.g (i / 16) = some x) (ht : (x.m.lf (i % 16)).there = true) (hf : (x.m.lf (i % 16)).fr = fr) :
    (hSealTo h fr i).put (i / 16) (gSeal h.s { x with m := sealOf x.m (16 * (i / 16)) fr i } ((i % 16 : Nat) : Int)).2 = hSealTo h fr (i + 1) := by
  refine Hs.ext' rfl (fun j => ?_)
  by_cases e : j = i / 16
  · subst e
    rw [put_at, sealTo_at h fr (i + 1) hx]
    show some ({ x with m := (sealR (sealOf x.m (16 * (i / 16)) fr i) ((i % 16 : Nat) : Int)).2 } : Gs) = _
    rw [sealOf_step _ _ ht hf]
  · show setAt (hSealTo h fr i).g (i / 16) _ j = _
    rw [setAt_other _ _ _ _ e]
    show (h.g j).map _ = (h.g j).map _
    cases h.g j with
    | none => rfl
    | some z =>
      simp only [Option.map_some]
      rw [sealOf_next _ _ e]
theorem HInv.seal1 (hi : HInv h W) (hx : h.g n = some x) (k : Int) : HInv (h.put n (gSeal h.s x k).2) W :=
  hi.put hx ((hi.ginv hx).seal k) (hi.gi n x hx).2.di rfl (Int.le_refl _)
theorem HInv.sealTo (hi : HInv h W) (fr : Int) : ∀ i, HInv (hSealTo h fr i) W
  | 0 => by rw [sealTo_zero]; exact hi
  | i + 1 => by
    have ih := hi.sealTo fr i
    cases hx : h.g (i / 16) with
    | none => rw [sealTo_none h fr hx]; exact ih
    | some x =>
      by_cases hc : (x.m.lf (i % 16)).there = true ∧ (x.m.lf (i % 16)).fr = fr
      · rw [← sealTo_step h fr hx hc.1 hc.2]
        exact ih.seal1 (sealTo_at h fr i hx) _
      · rw [sealTo_skip h fr hx hc]; exact ih
/-- A leaf of the row, whatever was sealed. -/
theorem sealTo_leaf (m : Mp) (base : Nat) (fr : Int) (i k : Nat) : ((sealOf m base fr i).lf k).there = (m.lf k).there ∧ ((sealOf m base fr i).lf k).fr = (m.lf k).fr := by
  unfold sealOf
  simp only
  split <;> exact ⟨rfl, rfl⟩
/-- The first hit. -/
theorem hFst_at {fr : Int} {k N : Nat} (hk : k < N) (hno : ∀ i, i < k → hHit h fr i = false) (hh : hHit h fr k = true) : hFst h fr 0 N = some k := by
  rcases hFst_spec h fr N 0 with ⟨j, e, _, b, c, d⟩ | ⟨_, d⟩
  · have : j = k := by
      rcases Nat.lt_trichotomy j k with h1 | h1 | h1
      · have := hno j h1; rw [c] at this; simp at this
      · exact h1
      · have := d k (by omega) h1; rw [hh] at this; simp at this
    rw [e, this]
  · have := d k (by omega) (by omega)
    rw [hh] at this; simp at this
theorem hFst_non {fr : Int} {N : Nat} (hno : ∀ i, i < N → hHit h fr i = false) : hFst h fr 0 N = none := by
  rcases hFst_spec h fr N 0 with ⟨j, _, _, b, c, _⟩ | ⟨e, _⟩
  · have := hno j (by omega); rw [c] at this; simp at this
  · exact e
theorem hHit_none {fr : Int} {k : Nat} (hx : h.g (k / 16) = none) : hHit h fr k = false := by
  unfold hHit rowL
  rw [hx]
  simp [gLf, lf0]
theorem row_some {k : Nat} (hx : h.g (k / 16) = some x) : rowL h k = x.m.lf (k % 16) := by
  unfold rowL
  rw [hx]
  rfl
end Go.Proofs.YtadpibcgjgcjhaaGreat
/- Package leaves: what Join and Touch answer and turn. -/
namespace Go.Proofs.YtadpibcgjgcjhaaGreat
open Go.ChangeShapes Go.WideShapes Go.ChangeAt Go.RowKit
set_option maxRecDepth 100000
attribute [local go_sem ↓] Go.wp_at_zero Go.wp_at_succ

theorem lvTake_ok (w : World) (bp bf j : Nat) (s : Pl) (h : PoolAt w bp bf s) (hj : j < s.n) (h0 : s.refs j = 0) (hr : ∀ i, i < j → s.refs i ≠ 0) :
    Calls Tryz.prog 170 #[.pointer (some ⟨bp, 0, none⟩)] w fun e w' => e = .returned (.tuple #[.int .i64 j, .nilIface]) ∧ PoolAt w' bp bf { s with refs := setAt s.refs j 1, byt := setAt s.byt j fun _ => 0 } ∧ Upd (fun k => k = bf) w w' := by
  refine (take_at w bp bf j s h hj h0 hr).mono ?_
  rintro e w' ⟨rfl, rfl⟩
  refine ⟨rfl, ?_, (Upd.row _ _ _ _).trans (Upd.one _ _ _ _) (fun _ _ e => e)⟩
  exact (h.setRow (f := j) hj (fun _ => 0)).setRef (f := j) hj (by omega)

/-- No frame is free: nothing turns. -/
theorem move_full (w : World) (bl bp bf k : Nat) (m : Mp) (s : Pl) (h : LvAt w bl bp m) (hp : PoolAt w bp bf s) (hfull : ∀ i, i < s.n → s.refs i ≠ 0) :
    Calls Tryz.prog 165 #[.pointer (some ⟨bl, 0, none⟩), .pointer (some ⟨bl, 1 + k * 4, none⟩)] w fun e w' => e = .returned (.tuple #[.int .i64 0, .bool false, .iface 85 (.int .i64 3)]) ∧ w' = w := by
  have c0 := h.pool
  have HF : Hid _ := hfull
  clear hfull
  go_enter Tryz.func165, Tryz.ntmps165
  go_wp2_with fail
  refine (take_full _ _ _ s hp HF.out).mono ?_
  rintro e w1 ⟨rfl, rfl⟩
  go_wp2_with fail
  go_ret3
  exact ⟨rfl, rfl⟩
/-- The page was in no frame. -/
theorem move_new (w : World) (bl bp bf k j : Nat) (m : Mp) (s : Pl) (h : LvAt w bl bp m) (hp : PoolAt w bp bf s) (h1 : bl ≠ bp) (h2 : bl ≠ bf) (hk : k < 16) (hlt : bf < w.heap.size) (hm : ∀ k, k < s.n → s.refs k ≤ 1000000)
    (ht : (m.lf k).there = false) (hj : j < s.n) (hj0 : s.refs j = 0) (hjr : ∀ i, i < j → s.refs i ≠ 0) :
    Calls Tryz.prog 165 #[.pointer (some ⟨bl, 0, none⟩), .pointer (some ⟨bl, 1 + k * 4, none⟩)] w fun e w' => e = .returned (.tuple #[.int .i64 j, .bool false, .nilIface]) ∧
      PoolAt w' bp bf { s with refs := setAt s.refs j 1, byt := setAt s.byt j fun _ => 0 } ∧ LvAt w' bl bp { m with lf := setAt m.lf k ⟨true, true, j⟩ } ∧ Upd (fun k => k = bf ∨ k = bl) w w' := by
  have c0 := h.pool
  have H1 : Hid _ := h1
  have H2 : Hid _ := h2
  have HM : Hid _ := hm
  have HT : Hid _ := ht
  have HJ0 : Hid _ := hj0
  have HJR : Hid _ := hjr
  clear ht h1 h2 hm hj0 hjr
  go_enter Tryz.func165, Tryz.ntmps165
  go_wp2_with fail
  refine (lvTake_ok _ _ _ j s hp hj HJ0.out HJR.out).mono ?_
  rintro e w1 ⟨rfl, hp1, hu1⟩
  have hl1 := h.upd hu1 H2.out
  have c1 := hl1.th k hk
  rw [HT.out] at c1
  clear c0
  go_wp2_with fail
  refine (leave_any _ _ _ _ k m _ hl1 hp1 H1.out H2.out hk (Nat.lt_of_lt_of_le hlt hu1.size) (setAt_le (fun f hf => HM.out f hf) (by omega))).mono ?_
  rintro e w2 ⟨rfl, hp2, hl2, hu2⟩
  simp only [leaveP, HT.out, Bool.false_eq_true, if_false] at hp2
  have d1 := hl2.th k hk
  have d2 := hl2.wr k hk
  have d3 := hl2.fr k hk
  have d4 := hl2.fz (1 + k * 4 + 1)
  have d5 := hl2.fz (1 + k * 4 + 1 + 1)
  have d6 := hl2.fz (1 + k * 4 + 1 + 2)
  have h3 := hl2.setLf hk ⟨true, true, j⟩
  simp only [leaveM, setAt_twice] at h3
  have hu3 := Upd.three w2 bl (1 + k * 4 + 1) (1 + k * 4 + 1 + 1) (1 + k * 4 + 1 + 2) (.bool true) (.bool true) (.int .i64 j)
  have hp3 := hp2.upd hu3 (Ne.symm H1.out) (Ne.symm H2.out) (Nat.lt_of_lt_of_le hlt (Nat.le_trans hu1.size hu2.size))
  have hu4 := ((hu1.wide (T := fun k => k = bf ∨ k = bl) (fun _ e => Or.inl e)).trans hu2 (fun _ _ e => e)).trans hu3 (fun _ _ e => Or.inr e)
  have H3 : Hid _ := h3
  have HU4 : Hid _ := hu4
  have HP3 : Hid _ := hp3
  clear h3 hu3 hp3 hu4 hl1 hu1 hp1 hp2 hu2 hl2 c1
  go_wp2_with fail
  go_ret3
  exact ⟨rfl, HP3.out, H3.out, HU4.out⟩
/-- The page was in a frame: it moves. -/
theorem move_yes (w : World) (bl bp bf k j : Nat) (m : Mp) (s : Pl) (h : LvAt w bl bp m) (hp : PoolAt w bp bf s) (h1 : bl ≠ bp) (h2 : bl ≠ bf) (hk : k < 16) (hlt : bf < w.heap.size) (hm : ∀ k, k < s.n → s.refs k ≤ 1000000)
    (ht : (m.lf k).there = true) (f0 : 0 ≤ (m.lf k).fr) (f1 : (m.lf k).fr < s.n) (hused : s.refs (m.lf k).fr.toNat ≠ 0) (hj : j < s.n) (hj0 : s.refs j = 0) (hjr : ∀ i, i < j → s.refs i ≠ 0) :
    Calls Tryz.prog 165 #[.pointer (some ⟨bl, 0, none⟩), .pointer (some ⟨bl, 1 + k * 4, none⟩)] w fun e w' => e = .returned (.tuple #[.int .i64 j, .bool true, .nilIface]) ∧
      PoolAt w' bp bf (({ s with refs := setAt s.refs j 1, byt := setAt (setAt s.byt j fun _ => 0) j (setAt s.byt j (fun _ => 0) (m.lf k).fr.toNat) } : Pl).share (m.lf k).fr (-1)).2 ∧ LvAt w' bl bp { m with lf := setAt m.lf k ⟨true, true, j⟩ } ∧ Upd (fun k => k = bf ∨ k = bl) w w' := by
  have c0 := h.pool
  have hfj : (m.lf k).fr.toNat ≠ j := fun e => hused (by rw [e]; exact hj0)
  have hfill : ({ s with refs := setAt s.refs j 1, byt := setAt s.byt j fun _ => 0 } : Pl).fill j (m.lf k).fr = (0, { s with refs := setAt s.refs j 1, byt := setAt (setAt s.byt j fun _ => 0) j (setAt s.byt j (fun _ => 0) (m.lf k).fr.toNat) }) := by
    have e1 : ({ s with refs := setAt s.refs j 1, byt := setAt s.byt j fun _ => 0 } : Pl).used j = true := (Pl.used_iff _ _).2 ⟨by omega, by show (j : Int) < s.n; omega, by show setAt s.refs j 1 _ ≠ 0; rw [Int.toNat_natCast, setAt_same]; omega⟩
    have e2 : ({ s with refs := setAt s.refs j 1, byt := setAt s.byt j fun _ => 0 } : Pl).used (m.lf k).fr = true := (Pl.used_iff _ _).2 ⟨f0, f1, by show setAt s.refs j 1 _ ≠ 0; rw [setAt_other _ _ _ _ hfj]; exact hused⟩
    unfold Pl.fill
    rw [e1, e2]
    simp only [Int.toNat_natCast, setAt_same, Bool.and_self, if_true]
    rw [if_neg (by omega)]
  have H1 : Hid _ := h1
  have H2 : Hid _ := h2
  have HM : Hid _ := hm
  have HT : Hid _ := ht
  have HJ0 : Hid _ := hj0
  have HJR : Hid _ := hjr
  have HFJ : Hid _ := hfj
  have HFI : Hid _ := hfill
  clear ht h1 h2 hm hj0 hjr hfj hused hfill
  go_enter Tryz.func165, Tryz.ntmps165
  go_wp2_with fail
  refine (lvTake_ok _ _ _ j s hp hj HJ0.out HJR.out).mono ?_
  rintro e w1 ⟨rfl, hp1, hu1⟩
  have hl1 := h.upd hu1 H2.out
  have c1 := hl1.th k hk
  have c2 := hl1.fr k hk
  have c3 := hl1.pool
  rw [HT.out] at c1
  clear c0
  go_wp2_with fail
  go_region_held3 (fun w' => w'.cell? ⟨bl, 0, none⟩ = some (.pointer (some ⟨bp, 0, none⟩)) ∧ w'.cell? ⟨bl, 1 + k * 4 + 1 + 2, none⟩ = some (.int .i64 (m.lf k).fr)) (first | exact ⟨c3, c2⟩ | exact h1c)
    ((go_at_call 171; refine (fill_any _ _ _ _ _ _ (by first | exact hp1 | exact hp1.drew)).mono ?_; rintro e w2 ⟨rfl, hp2, hu2⟩; have h1c : w2.cell? ⟨bl, 0, none⟩ = some (.pointer (some ⟨bp, 0, none⟩)) ∧ w2.cell? ⟨bl, 1 + k * 4 + 1 + 2, none⟩ = some (.int .i64 (m.lf k).fr) := ⟨hu2.cell (by exact c3) H2.out, hu2.cell (by exact c2) H2.out⟩))
  rw [HFI.out] at hp2
  simp only at hp2
  have hu2' : Upd (fun k => k = bf) w w2 := hu1.drew.trans hu2 (fun _ _ e => e)
  have hl2 := h.upd hu2' H2.out
  clear h1c hl1 c1 c2 c3 hp1 hu1 hu2
  go_wp2_with fail
  refine (leave_any _ _ _ _ k m _ hl2 hp2 H1.out H2.out hk (Nat.lt_of_lt_of_le hlt hu2'.size) (setAt_le (fun f hf => HM.out f hf) (by omega))).mono ?_
  rintro e w3 ⟨rfl, hp3, hl3, hu3⟩
  simp only [leaveP, HT.out, if_true] at hp3
  have d1 := hl3.th k hk
  have d2 := hl3.wr k hk
  have d3 := hl3.fr k hk
  have d4 := hl3.fz (1 + k * 4 + 1)
  have d5 := hl3.fz (1 + k * 4 + 1 + 1)
  have d6 := hl3.fz (1 + k * 4 + 1 + 2)
  have h4 := hl3.setLf hk ⟨true, true, j⟩
  simp only [leaveM, setAt_twice] at h4
  have hu4 := Upd.three w3 bl (1 + k * 4 + 1) (1 + k * 4 + 1 + 1) (1 + k * 4 + 1 + 2) (.bool true) (.bool true) (.int .i64 j)
  have hp4 := hp3.upd hu4 (Ne.symm H1.out) (Ne.symm H2.out) (Nat.lt_of_lt_of_le hlt (Nat.le_trans hu2'.size hu3.size))
  have hu5 := ((hu2'.wide (T := fun k => k = bf ∨ k = bl) (fun _ e => Or.inl e)).trans hu3 (fun _ _ e => e)).trans hu4 (fun _ _ e => Or.inr e)
  have H4 : Hid _ := h4
  have HU5 : Hid _ := hu5
  have HP4 : Hid _ := hp4
  clear h4 hu4 hp4 hu5 hl2 hu2' hp2 hp3 hu3 hl3
  go_wp2_with fail
  go_ret3
  exact ⟨rfl, HP4.out, H4.out, HU5.out⟩
end Go.Proofs.YtadpibcgjgcjhaaGreat
/- Package leaves: what Touch answers and turns. -/
namespace Go.Proofs.YtadpibcgjgcjhaaGreat
open Go.ChangeShapes Go.WideShapes Go.ChangeAt Go.RowKit
set_option maxRecDepth 100000
attribute [local go_sem ↓] Go.wp_at_zero Go.wp_at_succ

theorem lvTouch_out (w : World) (bl : Nat) (n : Int) (wt : Bool) (ho : onB n = false) :
    Calls Tryz.prog 151 #[.pointer (some ⟨bl, 0, none⟩), .int .i64 n, .bool wt] w fun e w' => e = .returned (.tuple #[.int .i64 0, .bool false, .iface 85 (.int .i64 1)]) ∧ w' = w := by
  go_enter Tryz.func151, Tryz.ntmps151
  go_wp2_with (go_at_call 119; refine (page_no _ _ _ ho).mono ?_; rintro e w' ⟨rfl, rfl⟩)
  go_ret3
  exact ⟨rfl, rfl⟩
theorem lvTouch_absent (w : World) (bl bp k : Nat) (wt : Bool) (m : Mp) (h : LvAt w bl bp m) (hk : k < 16) (hs : m.st k = 0) :
    Calls Tryz.prog 151 #[.pointer (some ⟨bl, 0, none⟩), .int .i64 k, .bool wt] w fun e w' => e = .returned (.tuple #[.int .i64 0, .bool false, .iface 85 (.int .i64 2)]) ∧ w' = w := by
  have c1 := h.st k hk
  have b1 : (m.st k == 0) = true := by simp [hs]
  clear hs
  go_enter Tryz.func151, Tryz.ntmps151
  go_wp2_with (go_at_call 119; refine (page_yes _ _ _ hk).mono ?_; rintro e w' ⟨rfl, rfl⟩)
  go_ret3
  exact ⟨rfl, rfl⟩
theorem lvTouch_gone (w : World) (bl bp k : Nat) (wt : Bool) (m : Mp) (h : LvAt w bl bp m) (hk : k < 16) (hs : m.st k = 2) :
    Calls Tryz.prog 151 #[.pointer (some ⟨bl, 0, none⟩), .int .i64 k, .bool wt] w fun e w' => e = .returned (.tuple #[.int .i64 0, .bool false, .iface 85 (.int .i64 6)]) ∧ w' = w := by
  have c1 := h.st k hk
  have b1 : (m.st k == 0) = false := by simp [hs]
  have b2 : (m.st k == 2) = true := by simp [hs]
  clear hs
  go_enter Tryz.func151, Tryz.ntmps151
  go_wp2_with (go_at_call 119; refine (page_yes _ _ _ hk).mono ?_; rintro e w' ⟨rfl, rfl⟩)
  go_ret3
  exact ⟨rfl, rfl⟩
theorem lvTouch_keep (w : World) (bl bp k : Nat) (wt : Bool) (m : Mp) (h : LvAt w bl bp m) (hk : k < 16) (h0 : m.st k ≠ 0) (h2 : m.st k ≠ 2) (ht : (m.lf k).there = true) (hw : (!wt || (m.lf k).wr) = true) :
    Calls Tryz.prog 151 #[.pointer (some ⟨bl, 0, none⟩), .int .i64 k, .bool wt] w fun e w' => e = .returned (.tuple #[.int .i64 (m.lf k).fr, .bool false, .nilIface]) ∧ w' = w := by
  have c1 := h.st k hk
  have b1 : (m.st k == 0) = false := by simp [h0]
  have b2 : (m.st k == 2) = false := by simp [h2]
  have c2 := h.th k hk
  have c3 := h.wr k hk
  have c4 := h.fr k hk
  rw [ht] at c2
  clear h0 h2 ht
  cases hwr : (m.lf k).wr with
  | true =>
    rw [hwr] at c3
    clear hw hwr
    go_enter Tryz.func151, Tryz.ntmps151
    go_wp2_with (go_at_call 119; refine (page_yes _ _ _ hk).mono ?_; rintro e w' ⟨rfl, rfl⟩)
    go_ret3
    exact ⟨rfl, rfl⟩
  | false =>
    rw [hwr] at c3 hw
    obtain rfl : wt = false := by simpa using hw
    clear hw hwr
    go_enter Tryz.func151, Tryz.ntmps151
    go_wp2_with (go_at_call 119; refine (page_yes _ _ _ hk).mono ?_; rintro e w' ⟨rfl, rfl⟩)
    go_ret3
    exact ⟨rfl, rfl⟩
theorem alone_is (w : World) (bl bp bf : Nat) (f : Int) (m : Mp) (s : Pl) (h : LvAt w bl bp m) (hp : PoolAt w bp bf s) (f0 : 0 ≤ f) (f1 : f < s.n) {u : Bool} (hu : (s.refs f.toNat == 1) = u) :
    Calls Tryz.prog 164 #[.pointer (some ⟨bl, 0, none⟩), .int .i64 f] w fun e w' => e = .returned (.bool u) ∧ Upd (fun _ => False) w w' := by
  subst hu; exact alone_any w bl bp bf f m s h hp f0 f1
theorem lvTouch_own (w : World) (bl bp bf k : Nat) (m : Mp) (s : Pl) (h : LvAt w bl bp m) (hp : PoolAt w bp bf s) (h1 : bl ≠ bp) (h2 : bl ≠ bf) (hk : k < 16) (hlt : bf < w.heap.size) (s0 : m.st k ≠ 0) (s2 : m.st k ≠ 2)
    (ht : (m.lf k).there = true) (hw : (m.lf k).wr = false) (f0 : 0 ≤ (m.lf k).fr) (f1 : (m.lf k).fr < s.n) (hone : s.refs (m.lf k).fr.toNat = 1) :
    Calls Tryz.prog 151 #[.pointer (some ⟨bl, 0, none⟩), .int .i64 k, .bool true] w fun e w' => e = .returned (.tuple #[.int .i64 (m.lf k).fr, .bool false, .nilIface]) ∧
      PoolAt w' bp bf s ∧ LvAt w' bl bp { m with lf := setAt m.lf k { m.lf k with wr := true } } ∧ Upd (fun k => k = bf ∨ k = bl) w w' := by
  have c1 := h.st k hk
  have b1 : (m.st k == 0) = false := by simp [s0]
  have b2 : (m.st k == 2) = false := by simp [s2]
  have c2 := h.th k hk
  have c3 := h.wr k hk
  have c4 := h.fr k hk
  rw [ht] at c2
  rw [hw] at c3
  have H1 : Hid _ := h1
  have H2 : Hid _ := h2
  have HT : Hid _ := ht
  have hb : (s.refs (m.lf k).fr.toNat == 1) = true := by simp [hone]
  have HB : Hid _ := hb
  clear s0 s2 ht hw h1 h2 hone hb
  go_enter Tryz.func151, Tryz.ntmps151
  go_wp2_with (go_at_call 119; refine (page_yes _ _ _ hk).mono ?_; rintro e w' ⟨rfl, rfl⟩)
  refine (alone_is _ _ _ _ _ m s h hp f0 f1 HB.out).mono ?_
  rintro e w1 ⟨rfl, hu1⟩
  have hl1 := h.upd hu1 (fun f => f)
  have hp1 := hp.upd hu1 (fun f => f) (fun f => f) hlt
  have d2 := hl1.wr k hk
  have d3 := hl1.fr k hk
  have d4 := hl1.fz (1 + k * 4 + 1 + 1)
  have h3 := hl1.setWr hk true
  have d5 := h3.fr k hk
  simp only [setAt_same] at d5
  have hu3 := Upd.one w1 bl (1 + k * 4 + 1 + 1) (.bool true)
  have hp3 := hp1.upd hu3 (Ne.symm H1.out) (Ne.symm H2.out) (Nat.lt_of_lt_of_le hlt hu1.size)
  have hu4 := (hu1.wide (T := fun k => k = bf ∨ k = bl) (fun _ f => f.elim)).trans hu3 (fun _ _ e => Or.inr e)
  have H3 : Hid _ := h3
  have HU4 : Hid _ := hu4
  have HP3 : Hid _ := hp3
  clear h3 hu3 hp3 hu4 hl1 hu1 hp1 c1 c2 c3 c4
  go_wp2_with fail
  go_ret3
  exact ⟨rfl, HP3.out, H3.out, HU4.out⟩
theorem lvTouch_new (w : World) (bl bp k : Nat) (wt : Bool) (m : Mp) (h : LvAt w bl bp m) (hk : k < 16) (s0 : m.st k ≠ 0) (s2 : m.st k ≠ 2) (ht : (m.lf k).there = false) (x y z : Value) (R : World → Prop)
    (hmv : Calls Tryz.prog 165 #[.pointer (some ⟨bl, 0, none⟩), .pointer (some ⟨bl, 1 + k * 4, none⟩)] w fun e w' => e = .returned (.tuple #[x, y, z]) ∧ R w') :
    Calls Tryz.prog 151 #[.pointer (some ⟨bl, 0, none⟩), .int .i64 k, .bool wt] w fun e w' => e = .returned (.tuple #[x, y, z]) ∧ R w' := by
  have c1 := h.st k hk
  have b1 : (m.st k == 0) = false := by simp [s0]
  have b2 : (m.st k == 2) = false := by simp [s2]
  have c2 := h.th k hk
  rw [ht] at c2
  clear s0 s2 ht
  go_enter Tryz.func151, Tryz.ntmps151
  go_wp2_with (go_at_call 119; refine (page_yes _ _ _ hk).mono ?_; rintro e w' ⟨rfl, rfl⟩)
  refine Calls.mono hmv ?_
  rintro e w1 ⟨rfl, hR⟩
  go_wp2_with fail
  go_ret3
  exact ⟨rfl, hR⟩
theorem lvTouch_shared (w : World) (bl bp bf k : Nat) (m : Mp) (s : Pl) (h : LvAt w bl bp m) (hp : PoolAt w bp bf s) (hk : k < 16) (s0 : m.st k ≠ 0) (s2 : m.st k ≠ 2)
    (ht : (m.lf k).there = true) (hw : (m.lf k).wr = false) (f0 : 0 ≤ (m.lf k).fr) (f1 : (m.lf k).fr < s.n) (hone : s.refs (m.lf k).fr.toNat ≠ 1) (x y z : Value) (R : World → Prop)
    (hmv : ∀ w1, Upd (fun _ => False) w w1 → Calls Tryz.prog 165 #[.pointer (some ⟨bl, 0, none⟩), .pointer (some ⟨bl, 1 + k * 4, none⟩)] w1 fun e w' => e = .returned (.tuple #[x, y, z]) ∧ R w') :
    Calls Tryz.prog 151 #[.pointer (some ⟨bl, 0, none⟩), .int .i64 k, .bool true] w fun e w' => e = .returned (.tuple #[x, y, z]) ∧ R w' := by
  have c1 := h.st k hk
  have b1 : (m.st k == 0) = false := by simp [s0]
  have b2 : (m.st k == 2) = false := by simp [s2]
  have c2 := h.th k hk
  have c3 := h.wr k hk
  have c4 := h.fr k hk
  rw [ht] at c2
  rw [hw] at c3
  have hb : (s.refs (m.lf k).fr.toNat == 1) = false := by simp [hone]
  have HB : Hid _ := hb
  clear s0 s2 ht hw hone hb
  go_enter Tryz.func151, Tryz.ntmps151
  go_wp2_with (go_at_call 119; refine (page_yes _ _ _ hk).mono ?_; rintro e w' ⟨rfl, rfl⟩)
  refine (alone_is _ _ _ _ _ m s h hp f0 f1 HB.out).mono ?_
  rintro e w1 ⟨rfl, hu1⟩
  clear c1 c2 c3 c4
  go_wp2_with fail
  refine Calls.mono (hmv w1 hu1) ?_
  rintro e w2 ⟨rfl, hR⟩
  go_wp2_with fail
  go_ret3
  exact ⟨rfl, hR⟩
theorem lvTouch (w : World) (bl bp bf : Nat) (n : Int) (wt : Bool) (m m' : Mp) (s : Pl) (h : LvAt w bl bp m) (hp : PoolAt w bp bf s) (h1 : bl ≠ bp) (h2 : bl ≠ bf) (hn : 0 < s.n) (hi : Inv s m m') :
    Calls Tryz.prog 151 #[.pointer (some ⟨bl, 0, none⟩), .int .i64 n, .bool wt] w fun e w' => e = .returned (.tuple #[.int .i64 (touchR s m n wt).1.1, .bool (touchR s m n wt).1.2.1, errV (touchR s m n wt).1.2.2]) ∧ PoolAt w' bp bf (touchR s m n wt).2.1 ∧ LvAt w' bl bp (touchR s m n wt).2.2 ∧ Upd (fun k => k = bf ∨ k = bl) w w' := by
  have hlt : bf < w.heap.size := World.block_lt_of_cell? w _ (hp.refs 0 hn)
  have hm : ∀ k, k < s.n → s.refs k ≤ 1000000 := fun k hk => by have := hi.le k hk; omega
  cases ho : onB n with
  | false =>
    simp only [touchR, ho, Bool.false_eq_true, if_false, errV1]
    refine (lvTouch_out w bl n wt ho).mono ?_
    rintro e w' ⟨rfl, rfl⟩
    exact ⟨rfl, hp, h, Upd.refl _ _⟩
  | true =>
    obtain ⟨h0, h1'⟩ := (onB_iff n).1 ho
    obtain ⟨k, rfl⟩ := Int.eq_ofNat_of_zero_le h0
    have hk : k < 16 := by omega
    by_cases s0 : m.st k = 0
    · simp only [touchR, ho, if_true, Int.toNat_natCast, s0, errV2]
      refine (lvTouch_absent w bl bp k wt m h hk s0).mono ?_
      rintro e w' ⟨rfl, rfl⟩
      exact ⟨rfl, hp, h, Upd.refl _ _⟩
    · by_cases s2 : m.st k = 2
      · simp only [touchR, ho, if_true, Int.toNat_natCast, s2, errV6, show ¬ ((2 : Int) = 0) by omega, if_false]
        refine (lvTouch_gone w bl bp k wt m h hk s2).mono ?_
        rintro e w' ⟨rfl, rfl⟩
        exact ⟨rfl, hp, h, Upd.refl _ _⟩
      · cases ha : ((m.lf k).there && (!wt || (m.lf k).wr)) with
        | true =>
          simp only [touchR, ho, if_true, Int.toNat_natCast, s0, s2, if_false, ha, errV_zero]
          simp only [Bool.and_eq_true] at ha
          refine (lvTouch_keep w bl bp k wt m h hk s0 s2 ha.1 ha.2).mono ?_
          rintro e w' ⟨rfl, rfl⟩
          exact ⟨rfl, hp, h, Upd.refl _ _⟩
        | false =>
          cases ht : (m.lf k).there with
          | false =>
            have hsp := firstFrom_spec s.refs s.n 0
            cases hff : firstFrom s.refs 0 s.n with
            | none =>
              rw [hff] at hsp
              simp only [touchR, ho, if_true, Int.toNat_natCast, s0, s2, if_false, ht, Bool.false_and, Bool.false_eq_true, take_none hff, show ¬ ((3 : Int) = 0) by omega, errV3]
              refine lvTouch_new w bl bp k wt m h hk s0 s2 ht _ _ _ _ ?_
              refine (move_full w bl bp bf k m s h hp (fun i hi => hsp i (by omega) (by omega))).mono ?_
              rintro e w' ⟨rfl, rfl⟩
              exact ⟨rfl, hp, h, Upd.refl _ _⟩
            | some j =>
              rw [hff] at hsp
              obtain ⟨_, j1, j2, j3⟩ := hsp
              simp only [touchR, ho, if_true, Int.toNat_natCast, s0, s2, if_false, ht, Bool.false_and, Bool.false_eq_true, take_some hff, errV_zero]
              exact lvTouch_new w bl bp k wt m h hk s0 s2 ht _ _ _ _ (move_new w bl bp bf k j m s h hp h1 h2 hk hlt hm ht (by omega) j2 (fun i hi => j3 i (by omega) hi))
          | true =>
            rw [ht] at ha
            have hw : (m.lf k).wr = false := by
              cases hh : (m.lf k).wr with
              | false => rfl
              | true => rw [hh] at ha; simp at ha
            have hwt : wt = true := by
              cases wt with
              | true => rfl
              | false => simp at ha
            subst hwt
            obtain ⟨f0, f1, f2⟩ := hi.ok k hk ht
            by_cases hone : s.refs (m.lf k).fr.toNat = 1
            · have hb : (s.refs (m.lf k).fr.toNat == 1) = true := by simp [hone]
              simp only [touchR, ho, if_true, Int.toNat_natCast, s0, s2, if_false, ht, hw, hb, Bool.true_and, Bool.not_true, Bool.or_self, Bool.false_eq_true, errV_zero]
              have := lvTouch_own w bl bp bf k m s h hp h1 h2 hk hlt s0 s2 ht hw f0 f1 hone
              simpa only [ht] using this
            · have hb : (s.refs (m.lf k).fr.toNat == 1) = false := by simp [hone]
              have hsp := firstFrom_spec s.refs s.n 0
              cases hff : firstFrom s.refs 0 s.n with
              | none =>
                rw [hff] at hsp
                simp only [touchR, ho, if_true, Int.toNat_natCast, s0, s2, if_false, ht, hw, hb, Bool.and_false, Bool.not_true, Bool.or_self, Bool.false_eq_true, take_none hff, show ¬ ((3 : Int) = 0) by omega, errV3]
                refine lvTouch_shared w bl bp bf k m s h hp hk s0 s2 ht hw f0 f1 hone _ _ _ _ (fun w1 hu1 => ?_)
                refine (move_full w1 bl bp bf k m s (h.upd hu1 (fun f => f)) (hp.upd hu1 (fun f => f) (fun f => f) hlt) (fun i hi => hsp i (by omega) (by omega))).mono ?_
                rintro e w' ⟨rfl, rfl⟩
                exact ⟨rfl, hp.upd hu1 (fun f => f) (fun f => f) hlt, h.upd hu1 (fun f => f), hu1.wide (fun _ f => f.elim)⟩
              | some j =>
                rw [hff] at hsp
                obtain ⟨_, j1, j2, j3⟩ := hsp
                simp only [touchR, ho, if_true, Int.toNat_natCast, s0, s2, if_false, ht, hw, hb, Bool.and_false, Bool.not_true, Bool.or_self, Bool.false_eq_true, take_some hff, errV_zero]
                refine lvTouch_shared w bl bp bf k m s h hp hk s0 s2 ht hw f0 f1 hone _ _ _ _ (fun w1 hu1 => ?_)
                refine (move_yes w1 bl bp bf k j m s (h.upd hu1 (fun f => f)) (hp.upd hu1 (fun f => f) (fun f => f) hlt) h1 h2 hk (Nat.lt_of_lt_of_le hlt hu1.size) hm ht f0 f1 f2 (by omega) j2 (fun i hi => j3 i (by omega) hi)).mono ?_
                rintro e w' ⟨rfl, a1, a2, a3⟩
                exact ⟨rfl, a1, a2, (hu1.wide (fun _ f => f.elim)).trans a3 (fun _ _ e => e)⟩
end Go.Proofs.YtadpibcgjgcjhaaGreat
