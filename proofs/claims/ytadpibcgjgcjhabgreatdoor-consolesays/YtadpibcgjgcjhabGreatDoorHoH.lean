/- A host's acts, plainly (chapter 5), and what its guests see of them. -/
import Derived.Test.YtadpibcgjgcjhabGreatDoorHoG
namespace Go.Proofs.YtadpibcgjgcjhabGreatDoor
open Go.RowKit

/-- What is wrong with a guest's number. -/
def hWho (h : Hs) (n : Int) : Int := if n < 0 ∨ 3 < n then 1 else match h.g n.toNat with
  | none => 2
  | some _ => 0
def hAt (h : Hs) (n : Int) : Gs := (h.g n.toNat).getD gs0
/-- An act of a guest. -/
def hAct (h : Hs) (n : Int) (r : Pl → Gs → Int × Pl × Gs) : Int × Hs := if 0 < hWho h n then (hWho h n, h) else ((r h.s (hAt h n)).1, h.put n.toNat (r h.s (hAt h n)).2)
def hLoad (h : Hs) (n addr : Int) : (Int × Int) × Hs := if 0 < hWho h n then ((0, hWho h n), h) else ((gLoad h.s (hAt h n) addr).1, h.put n.toNat (gLoad h.s (hAt h n) addr).2)
def hStore (h : Hs) (n addr v : Int) : Int × Hs := hAct h n fun s x => gStore s x addr v
def hRoot (h : Hs) (n p : Int) : Int × Hs := hAct h n fun s x => onS s (gRoot x p)
def hForget (h : Hs) (n addr : Int) : Int × Hs := hAct h n fun s x => onS s (gForget x addr)
def hDrop (h : Hs) (n r : Int) : Int × Hs := hAct h n fun s x => onS s (gForgetAll x r)
/-- The lowest number that is free. -/
def hFree (h : Hs) : Option Nat := if h.g 0 = none then some 0 else if h.g 1 = none then some 1 else if h.g 2 = none then some 2 else if h.g 3 = none then some 3 else none
def hAdd (h : Hs) : (Int × Int) × Hs := match hFree h with
  | some i => (((i : Int), 0), ⟨h.s, setAt h.g i (some gs0)⟩)
  | none => ((0, 4), h)
/-- Pages are plugged and unplugged four at once. -/
def Blk (x : Gs) : Prop := ∀ b j, b < 4 → j < 4 → (x.m.st (4 * b) = 0 ↔ x.m.st (4 * b + j) = 0)
/-- A host, the bytes of its pages, and what each guest may see. -/
structure HF (h : Hs) (t : Nat → Nat → Int) (F : Nat → Option Fl) (W : Int) : Prop where
  hr : HR h t W
  blk : ∀ i x, h.g i = some x → Blk x
  non : ∀ i, h.g i = none ↔ F i = none
  fl : ∀ i x f, h.g i = some x → F i = some f → FR i x t f
variable {h : Hs} {t t' : Nat → Nat → Int} {F : Nat → Option Fl} {W W' : Int} {n : Nat} {x y : Gs} {f f' : Fl} {s' : Pl}
theorem hWho_some (hx : h.g n = some x) (hn : n < 4) : hWho h n = 0 ∧ hAt h n = x := by
  unfold hWho hAt
  rw [if_neg (by omega), Int.toNat_natCast, hx]
  exact ⟨rfl, rfl⟩
/-- A guest's number that may be used. -/
theorem hWho_zero {n : Int} (hw : hWho h n = 0) : ∃ (k : Nat) (x : Gs), n = (k : Int) ∧ k < 4 ∧ h.g k = some x ∧ hAt h n = x := by
  unfold hWho at hw
  split at hw
  · omega
  · next hn =>
    obtain ⟨k, rfl⟩ := Int.eq_ofNat_of_zero_le (show 0 ≤ n by omega)
    rw [Int.toNat_natCast] at hw
    cases hx : h.g k with
    | none => rw [hx] at hw; simp at hw
    | some x => exact ⟨k, x, rfl, by omega, hx, by unfold hAt; rw [Int.toNat_natCast, hx]; rfl⟩
theorem hWho_le (n : Int) : 0 ≤ hWho h n := by
  unfold hWho
  split
  · omega
  · split <;> omega
/-- One guest's act. -/
theorem HF.put (hf : HF h t F W) (hx : h.g n = some x) (hr : HR (h.put n (s', y)) t' W') (hb : Blk y) (hy : FR n y t' f') (ht : ∀ p, p / 16 ≠ n → t' p = t p) : HF (h.put n (s', y)) t' (setAt F n (some f')) W' := by
  refine ⟨hr, fun i z hz => ?_, fun i => ?_, fun i z q hz hq => ?_⟩
  · by_cases e : i = n
    · subst e; rw [put_at] at hz; cases hz; exact hb
    · have hz' : h.g i = some z := by rw [← hz]; exact (setAt_other _ _ _ _ e).symm
      exact hf.blk i z hz'
  · by_cases e : i = n
    · subst e; rw [put_at, setAt_same]; simp
    · rw [setAt_other _ _ _ _ e]
      show setAt h.g n (some y) i = none ↔ _
      rw [setAt_other _ _ _ _ e]
      exact hf.non i
  · by_cases e : i = n
    · subst e; rw [put_at] at hz; rw [setAt_same] at hq; cases hz; cases hq; exact hy
    · have hz' : h.g i = some z := by rw [← hz]; exact (setAt_other _ _ _ _ e).symm
      rw [setAt_other _ _ _ _ e] at hq
      exact (hf.fl i z q hz' hq).other (fun p hp => ht p (by omega))
theorem HF.view (hf : HF h t F W) (hx : h.g n = some x) : ∃ f, F n = some f ∧ FR n x t f := by
  cases hq : F n with
  | none => have := (hf.non n).2 hq; rw [hx] at this; cases this
  | some f => exact ⟨f, rfl, hf.fl n x f hx hq⟩
theorem blk_same (hb : Blk x) (hs : y.m.st = x.m.st) : Blk y := fun b j h1 h2 => by rw [hs]; exact hb b j h1 h2
theorem at_st (s : Pl) (x : Gs) (addr : Int) (wt : Bool) : (gAt s x addr wt).2.2.m.st = x.m.st := by
  have step : ∀ (s : Pl) (x : Gs) (y : En) (fd : Bool), (gStep s x y fd wt).2.2.m.st = x.m.st := by
    intro s x y fd
    have := touch_st s x.m y.dest wt
    unfold gStep
    repeat' split
    all_goals first | rfl | exact this
  unfold gAt
  have ht := touch_st s x.m (addr / 16) wt
  have hr := touch_st s x.m x.root false
  repeat' split
  · rfl
  · exact ht
  · exact step _ _ _ _
  · unfold gWalk
    repeat' split
    · exact hr
    · exact hr
    · rw [step]; exact hr
theorem HF.load (hf : HF h t F W) (hx : h.g n = some x) (hq : F n = some f) (addr : Int) : (gLoad h.s x addr).1 = (fLoad f addr).1 ∧ HF (h.put n (gLoad h.s x addr).2) t (setAt F n (some (fLoad f addr).2)) (W + 1) := by
  obtain ⟨e, h1, h2⟩ := load_ok hf.hr hx (hf.fl n x f hx hq) addr
  refine ⟨e, hf.put hx h1 (blk_same (hf.blk n x hx) ?_) h2 (fun _ _ => rfl)⟩
  unfold gLoad
  split <;> exact at_st _ _ _ _
theorem HF.store (hf : HF h t F W) (hx : h.g n = some x) (hq : F n = some f) (addr v : Int) (v0 : 0 ≤ v) (v1 : v ≤ 255) : (gStore h.s x addr v).1 = (fStore f addr v).1 ∧ ∃ t', HF (h.put n (gStore h.s x addr v).2) t' (setAt F n (some (fStore f addr v).2)) (W + 1) := by
  obtain ⟨e, t', h1, h2, h3⟩ := store_ok hf.hr hx (hf.fl n x f hx hq) addr v v0 v1
  refine ⟨e, t', hf.put hx h1 (blk_same (hf.blk n x hx) ?_) h2 h3⟩
  unfold gStore
  split <;> exact at_st _ _ _ _
def fRoot (f : Fl) (n : Int) : Int × Fl := if n < -1 ∨ 15 < n then (1, f) else (0, { f with root := n })
def fForget (f : Fl) (addr : Int) : Int × Fl := if addr < 0 ∨ 255 < addr then (1, f) else (0, { f with c := flt (isAt f.root (addr / 16)) f.c })
def fDrop (f : Fl) (n : Int) : Int × Fl := if onB n then (0, { f with c := flt (fun x => x.root == n) f.c }) else (1, f)
theorem HR.proc {y : Gs} (hr : HR h t W) (hx : h.g n = some x) (hm : y.m = x.m) (hg : GInv h.s y (oth h n) W) (hd : Dist y.c) : HR (h.put n (h.s, y)) t W := hr.own hx hm hg hd (Int.le_refl _)
theorem HF.root (hf : HF h t F W) (hx : h.g n = some x) (hq : F n = some f) (p : Int) : (gRoot x p).1 = (fRoot f p).1 ∧ HF (h.put n (h.s, (gRoot x p).2)) t (setAt F n (some (fRoot f p).2)) W := by
  have hv := hf.fl n x f hx hq
  have hg := (hf.hr.inv.ginv hx).root p
  have hd := (hf.hr.inv.gi n x hx).2.di
  have hm : (gRoot x p).2.m = x.m ∧ (gRoot x p).2.c = x.c := by unfold gRoot; split <;> exact ⟨rfl, rfl⟩
  refine ⟨?_, hf.put hx (hf.hr.proc hx hm.1 hg (by rw [hm.2]; exact hd)) (blk_same (hf.blk n x hx) (by rw [hm.1])) ?_ (fun _ _ => rfl)⟩
  · unfold gRoot fRoot; split <;> rfl
  · unfold gRoot fRoot
    split
    · exact hv
    · exact ⟨hv.st, hv.b, rfl, hv.c⟩
theorem HF.forget (hf : HF h t F W) (hx : h.g n = some x) (hq : F n = some f) (p : Int) : (gForget x p).1 = (fForget f p).1 ∧ HF (h.put n (h.s, (gForget x p).2)) t (setAt F n (some (fForget f p).2)) W := by
  have hv := hf.fl n x f hx hq
  have hg := (hf.hr.inv.ginv hx).forget p
  have hd := (hf.hr.inv.gi n x hx).2.di
  have hm : (gForget x p).2.m = x.m := by unfold gForget; split <;> rfl
  refine ⟨?_, hf.put hx (hf.hr.proc hx hm hg (forget_dist hd p)) (blk_same (hf.blk n x hx) (by rw [hm])) ?_ (fun _ _ => rfl)⟩
  · unfold gForget fForget; split <;> rfl
  · unfold gForget fForget
    split
    · exact hv
    · refine ⟨hv.st, hv.b, hv.root, ?_⟩
      show flt (isAt f.root (p / 16)) f.c = keepTo _ _ _
      rw [keep_drop hd, hv.root, hv.c]
theorem HF.drop (hf : HF h t F W) (hx : h.g n = some x) (hq : F n = some f) (p : Int) : (gForgetAll x p).1 = (fDrop f p).1 ∧ HF (h.put n (h.s, (gForgetAll x p).2)) t (setAt F n (some (fDrop f p).2)) W := by
  have hv := hf.fl n x f hx hq
  have hg := (hf.hr.inv.ginv hx).forgetAll p
  have hd := (hf.hr.inv.gi n x hx).2.di
  have hm : (gForgetAll x p).2.m = x.m := by unfold gForgetAll; split <;> rfl
  refine ⟨?_, hf.put hx (hf.hr.proc hx hm hg (forgetAll_dist hd p)) (blk_same (hf.blk n x hx) (by rw [hm])) ?_ (fun _ _ => rfl)⟩
  · unfold gForgetAll fDrop; split <;> rfl
  · unfold gForgetAll fDrop
    split
    · refine ⟨hv.st, hv.b, hv.root, ?_⟩
      show flt (fun x => x.root == p) f.c = keepTo _ _ _
      rw [keep_forget, hv.c]
    · exact hv
end Go.Proofs.YtadpibcgjgcjhabGreatDoor
