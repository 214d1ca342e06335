/- What an act on a host tells, and what its guests may see behind it: by flat memories alone. -/
import Derived.Test.YtadpibcgjgcjhaaGreatPart22
import Derived.Test.YtadpibcgjgcjhaaGreatPart13
namespace Go.Proofs.YtadpibcgjgcjhaaGreat
open Go.RowKit
variable {h : Hs} {W : Int} {t : Nat → Nat → Int} {F : Nat → Option Fl}

/-- An act of one guest's processor. -/
def fAct (F : Nat → Option Fl) (n : Int) (r : Fl → (Int × Int) × Fl) : (Int × Int) × (Nat → Option Fl) :=
  if 0 < fWho F n then ((0, fWho F n), F) else ((r ((F n.toNat).getD fl0)).1, setAt F n.toNat (some (r ((F n.toNat).getD fl0)).2))
def cScan (F : Nat → Option Fl) (n p : Int) : Int := if 0 < fWho F n then fWho F n else if onB p = true then 0 else 1
def fDid (F : Nat → Option Fl) (N : Nat) (x : Ac) : (Int × Int) × (Nat → Option Fl) :=
  if (x.kind.toList == [97, 100, 100]) = true then (cAdd F, if (cAdd F).2 = 0 then setAt F (cAdd F).1.toNat (some fl0) else F) else
  if (x.kind.toList == [114, 101, 109, 111, 118, 101]) = true then ((0, fWho F x.n), if fWho F x.n = 0 then setAt F x.n.toNat none else F) else
  if (x.kind.toList == [112, 108, 117, 103]) = true then ((0, cPlug F N x.n x.a), if cPlug F N x.n x.a = 0 then setAt F x.n.toNat ((F x.n.toNat).map fun f => fTurnTo f x.a.toNat 1 4) else F) else
  if (x.kind.toList == [117, 110, 112, 108, 117, 103]) = true then ((0, cUnplug F x.n x.a), if cUnplug F x.n x.a = 0 then setAt F x.n.toNat ((F x.n.toNat).map fun f => fTurnTo f x.a.toNat 0 4) else F) else
  if (x.kind.toList == [103, 105, 118, 101]) = true then ((0, cGive F N x.n x.a false), if cGive F N x.n x.a false = 0 then setAt F x.n.toNat ((F x.n.toNat).map fun f => fTurn f x.a.toNat 2) else F) else
  if (x.kind.toList == [98, 97, 99, 107]) = true then ((0, cGive F N x.n x.a true), if cGive F N x.n x.a true = 0 then setAt F x.n.toNat ((F x.n.toNat).map fun f => fTurn f x.a.toNat 1) else F) else
  if (x.kind.toList == [108, 111, 97, 100]) = true then fAct F x.n fun f => fLoad f x.a else
  if (x.kind.toList == [115, 116, 111, 114, 101]) = true then fAct F x.n fun f => ((0, (fStore f x.a x.v).1), (fStore f x.a x.v).2) else
  if (x.kind.toList == [114, 111, 111, 116]) = true then fAct F x.n fun f => ((0, (fRoot f x.a).1), (fRoot f x.a).2) else
  if (x.kind.toList == [102, 111, 114, 103, 101, 116]) = true then fAct F x.n fun f => ((0, (fForget f x.a).1), (fForget f x.a).2) else
  if (x.kind.toList == [100, 114, 111, 112]) = true then fAct F x.n fun f => ((0, (fDrop f x.a).1), (fDrop f x.a).2) else
  if (x.kind.toList == [115, 99, 97, 110]) = true then ((0, cScan F x.n x.a), F) else
  if (x.kind.toList == [115, 99, 97, 110, 97, 108, 108]) = true then ((0, 0), F) else
  ((0, 0), F)
theorem did_cases {P : (Int × Int) × Hs → (Int × Int) × (Nat → Option Fl) → Prop} (N : Nat) (x : Ac) (h0 : (x.kind.toList == [97, 100, 100]) = true → P (hAdd h) ((cAdd F, if (cAdd F).2 = 0 then setAt F (cAdd F).1.toNat (some fl0) else F))) (h1 : (x.kind.toList == [114, 101, 109, 111, 118, 101]) = true → P (((0, (hRemove h x.n).1), (hRemove h x.n).2)) (((0, fWho F x.n), if fWho F x.n = 0 then setAt F x.n.toNat none else F))) (h2 : (x.kind.toList == [112, 108, 117, 103]) = true → P (((0, (hPlug h x.n x.a).1), (hPlug h x.n x.a).2)) (((0, cPlug F N x.n x.a), if cPlug F N x.n x.a = 0 then setAt F x.n.toNat ((F x.n.toNat).map fun f => fTurnTo f x.a.toNat 1 4) else F))) (h3 : (x.kind.toList == [117, 110, 112, 108, 117, 103]) = true → P (((0, (hUnplug h x.n x.a).1), (hUnplug h x.n x.a).2)) (((0, cUnplug F x.n x.a), if cUnplug F x.n x.a = 0 then setAt F x.n.toNat ((F x.n.toNat).map fun f => fTurnTo f x.a.toNat 0 4) else F))) (h4 : (x.kind.toList == [103, 105, 118, 101]) = true → P (((0, (hGive h x.n x.a false).1), (hGive h x.n x.a false).2)) (((0, cGive F N x.n x.a false), if cGive F N x.n x.a false = 0 then setAt F x.n.toNat ((F x.n.toNat).map fun f => fTurn f x.a.toNat 2) else F))) (h5 : (x.kind.toList == [98, 97, 99, 107]) = true → P (((0, (hGive h x.n x.a true).1), (hGive h x.n x.a true).2)) (((0, cGive F N x.n x.a true), if cGive F N x.n x.a true = 0 then setAt F x.n.toNat ((F x.n.toNat).map fun f => fTurn f x.a.toNat 1) else F))) (h6 : (x.kind.toList == [108, 111, 97, 100]) = true → P (hLoad h x.n x.a) (fAct F x.n fun f => fLoad f x.a)) (h7 : (x.kind.toList == [115, 116, 111, 114, 101]) = true → P (((0, (hStore h x.n x.a x.v).1), (hStore h x.n x.a x.v).2)) (fAct F x.n fun f => ((0, (fStore f x.a x.v).1), (fStore f x.a x.v).2))) (h8 : (x.kind.toList == [114, 111, 111, 116]) = true → P (((0, (hRoot h x.n x.a).1), (hRoot h x.n x.a).2)) (fAct F x.n fun f => ((0, (fRoot f x.a).1), (fRoot f x.a).2))) (h9 : (x.kind.toList == [102, 111, 114, 103, 101, 116]) = true → P (((0, (hForget h x.n x.a).1), (hForget h x.n x.a).2)) (fAct F x.n fun f => ((0, (fForget f x.a).1), (fForget f x.a).2))) (h10 : (x.kind.toList == [100, 114, 111, 112]) = true → P (((0, (hDrop h x.n x.a).1), (hDrop h x.n x.a).2)) (fAct F x.n fun f => ((0, (fDrop f x.a).1), (fDrop f x.a).2))) (h11 : (x.kind.toList == [115, 99, 97, 110]) = true → P (((0, (hScan h x.n x.a).1.2), (hScan h x.n x.a).2)) (((0, cScan F x.n x.a), F))) (h12 : (x.kind.toList == [115, 99, 97, 110, 97, 108, 108]) = true → P (((0, 0), (hScanTo h 64).2)) (((0, 0), F))) (he : P ((0, 0), h) ((0, 0), F)) : P (hDid h x) (fDid F N x) := by
  unfold hDid fDid
  by_cases k0 : (x.kind.toList == [97, 100, 100]) = true
  · rw [if_pos k0, if_pos k0]; exact h0 k0
  · rw [if_neg k0, if_neg k0]
    by_cases k1 : (x.kind.toList == [114, 101, 109, 111, 118, 101]) = true
    · rw [if_pos k1, if_pos k1]; exact h1 k1
    · rw [if_neg k1, if_neg k1]
      by_cases k2 : (x.kind.toList == [112, 108, 117, 103]) = true
      · rw [if_pos k2, if_pos k2]; exact h2 k2
      · rw [if_neg k2, if_neg k2]
        by_cases k3 : (x.kind.toList == [117, 110, 112, 108, 117, 103]) = true
        · rw [if_pos k3, if_pos k3]; exact h3 k3
        · rw [if_neg k3, if_neg k3]
          by_cases k4 : (x.kind.toList == [103, 105, 118, 101]) = true
          · rw [if_pos k4, if_pos k4]; exact h4 k4
          · rw [if_neg k4, if_neg k4]
            by_cases k5 : (x.kind.toList == [98, 97, 99, 107]) = true
            · rw [if_pos k5, if_pos k5]; exact h5 k5
            · rw [if_neg k5, if_neg k5]
              by_cases k6 : (x.kind.toList == [108, 111, 97, 100]) = true
              · rw [if_pos k6, if_pos k6]; exact h6 k6
              · rw [if_neg k6, if_neg k6]
                by_cases k7 : (x.kind.toList == [115, 116, 111, 114, 101]) = true
                · rw [if_pos k7, if_pos k7]; exact h7 k7
                · rw [if_neg k7, if_neg k7]
                  by_cases k8 : (x.kind.toList == [114, 111, 111, 116]) = true
                  · rw [if_pos k8, if_pos k8]; exact h8 k8
                  · rw [if_neg k8, if_neg k8]
                    by_cases k9 : (x.kind.toList == [102, 111, 114, 103, 101, 116]) = true
                    · rw [if_pos k9, if_pos k9]; exact h9 k9
                    · rw [if_neg k9, if_neg k9]
                      by_cases k10 : (x.kind.toList == [100, 114, 111, 112]) = true
                      · rw [if_pos k10, if_pos k10]; exact h10 k10
                      · rw [if_neg k10, if_neg k10]
                        by_cases k11 : (x.kind.toList == [115, 99, 97, 110]) = true
                        · rw [if_pos k11, if_pos k11]; exact h11 k11
                        · rw [if_neg k11, if_neg k11]
                          by_cases k12 : (x.kind.toList == [115, 99, 97, 110, 97, 108, 108]) = true
                          · rw [if_pos k12, if_pos k12]; exact h12 k12
                          · rw [if_neg k12, if_neg k12]
                            exact he
theorem HF.more {W' : Int} (hf : HF h t F W) (hw : W ≤ W') : HF h t F W' := ⟨hf.hr.more hw, hf.blk, hf.non, hf.fl⟩
theorem at_n (s : Pl) (x : Gs) (addr : Int) (wt : Bool) : (gAt s x addr wt).2.1.n = s.n := by
  have step : ∀ (s : Pl) (x : Gs) (y : En) (fd : Bool), (gStep s x y fd wt).2.1.n = s.n := by
    intro s x y fd
    have := touch_n s x.m y.dest wt
    unfold gStep
    repeat' split
    all_goals first | rfl | exact this
  unfold gAt
  have ht := touch_n s x.m (addr / 16) wt
  have hr := touch_n s x.m x.root false
  repeat' split
  · rfl
  · exact ht
  · exact step _ _ _ _
  · unfold gWalk
    repeat' split
    · exact hr
    · exact hr
    · rw [step]; exact hr
theorem load_n (s : Pl) (x : Gs) (a : Int) : (gLoad s x a).2.1.n = s.n := by
  unfold gLoad
  split <;> exact at_n _ _ _ _
theorem store_n (s : Pl) (x : Gs) (a v : Int) : (gStore s x a v).2.1.n = s.n := by
  unfold gStore
  split
  · exact at_n _ _ _ _
  · simp only
    rw [set_n]
    exact at_n _ _ _ _
theorem act_n {n : Int} {r : Pl → Gs → Int × Pl × Gs} (hr : ∀ s x, (r s x).2.1.n = s.n) : (hAct h n r).2.s.n = h.s.n := by
  unfold hAct
  split
  · rfl
  · exact hr _ _
theorem plugs_n (s : Pl) (x : Gs) (b : Nat) : ∀ j, (gPlugs s x b j).1.n = s.n
  | 0 => rfl
  | j + 1 => by
    have := plugs_n s x b j
    show (plugR _ _ _).2.1.n = _
    rw [plug_n, this]
theorem unplugs_n (s : Pl) (x : Gs) (b : Nat) : ∀ j, (gUnplugs s x b j).2.1.n = s.n
  | 0 => rfl
  | j + 1 => by
    have := unplugs_n s x b j
    show (if 0 < (gUnplugs s x b j).1 then gUnplugs s x b j else gUnplug (gUnplugs s x b j).2.1 (gUnplugs s x b j).2.2 ((4 * b + j : Nat) : Int)).2.1.n = _
    split
    · exact this
    · show (unplugR _ _ _).2.1.n = _
      rw [unplug_n, this]
/-- What an act tells, and what is seen behind it. -/
structure Tells (h : Hs) (W : Int) (r : (Int × Int) × Hs) (q : (Int × Int) × (Nat → Option Fl)) : Prop where
  ans : r.1 = q.1
  hf : ∃ t', HF r.2 t' q.2 (W + 1)
  n : r.2.s.n = h.s.n
theorem tells_proc (hf : HF h t F W) {n : Int} {r : Pl → Gs → Int × Pl × Gs} {q : Fl → Int × Fl} (hn : ∀ s x, (r s x).2.1.n = s.n)
    (hk : ∀ (k : Nat) (x : Gs) (f : Fl), h.g k = some x → F k = some f → (r h.s x).1 = (q f).1 ∧ ∃ t', HF (h.put k (r h.s x).2) t' (setAt F k (some (q f).2)) (W + 1)) :
    Tells h W ((0, (hAct h n r).1), (hAct h n r).2) (fAct F n fun f => ((0, (q f).1), (q f).2)) := by
  refine ⟨?_, ?_, act_n hn⟩
  all_goals
    unfold hAct fAct
    rw [← hf.who n]
    by_cases h0 : 0 < hWho h n
    · simp only [if_pos h0] <;> first | rfl | exact ⟨t, hf.more (by omega)⟩
    · obtain ⟨k, x, rfl, _, hx, hat⟩ := hWho_zero (show hWho h n = 0 by have := hWho_le (h := h) n; omega)
      obtain ⟨f, hq, _⟩ := hf.view hx
      simp only [if_neg h0, hat, Int.toNat_natCast, hq, Option.getD_some]
      first
        | (rw [(hk k x f hx hq).1])
        | exact (hk k x f hx hq).2
theorem HF.tells (hf : HF h t F W) (hW : 0 ≤ W) (x : Ac) (v0 : 0 ≤ x.v) (v1 : x.v ≤ 255) : Tells h W (hDid h x) (fDid F h.s.n x) := by
  refine did_cases (P := fun r q => Tells h W r q) h.s.n x (fun _ => ?_) (fun _ => ?_) (fun _ => ?_) (fun _ => ?_) (fun _ => ?_) (fun _ => ?_) (fun _ => ?_) (fun _ => ?_) (fun _ => ?_) (fun _ => ?_) (fun _ => ?_) (fun _ => ?_) (fun _ => ?_) ?_
  · refine ⟨hf.cadd, ⟨t, ?_⟩, ?_⟩
    · have := (hf.hadd hW).1.more (show W ≤ W + 1 by omega)
      rw [hf.cadd] at this
      exact this
    · unfold hAdd
      split <;> rfl
  · obtain ⟨t', h1, h2, h3⟩ := hf.rem x.n
    have e : (hRemove h x.n).1 = fWho F x.n := by
      rw [← hf.who]
      have := hWho_le (h := h) x.n
      unfold hRemove
      split
      · rfl
      · simp only; omega
    refine ⟨by rw [e], ⟨t', ?_⟩, ?_⟩
    · have := h1.more (show W ≤ W + 1 by omega)
      rw [e] at this
      exact this
    · unfold hRemove
      split
      · rfl
      · exact gClear_n _ _ _
  · obtain ⟨t', h1, h2, h3⟩ := hf.plug x.n x.a
    refine ⟨by rw [hf.cplug], ⟨t', ?_⟩, ?_⟩
    · have := h1.more (show W ≤ W + 1 by omega)
      rw [hf.cplug] at this
      exact this
    · unfold hPlug
      repeat' split
      all_goals first | rfl | exact plugs_n _ _ _ _
  · obtain ⟨t', h1, h2, h3⟩ := hf.unplug x.n x.a
    refine ⟨by rw [hf.cunplug], ⟨t', ?_⟩, ?_⟩
    · have := h1.more (show W ≤ W + 1 by omega)
      rw [hf.cunplug] at this
      exact this
    · unfold hUnplug
      repeat' split
      all_goals first | rfl | exact unplugs_n _ _ _ _
  · obtain ⟨t', h1, h2, h3⟩ := hf.give x.n x.a false
    refine ⟨by rw [hf.cgive], ⟨t', ?_⟩, ?_⟩
    · have := h1.more (show W ≤ W + 1 by omega)
      rw [hf.cgive] at this
      exact this
    · unfold hGive
      repeat' split
      all_goals first | rfl | exact give_n _ _ _ _
  · obtain ⟨t', h1, h2, h3⟩ := hf.give x.n x.a true
    refine ⟨by rw [hf.cgive], ⟨t', ?_⟩, ?_⟩
    · have := h1.more (show W ≤ W + 1 by omega)
      rw [hf.cgive] at this
      exact this
    · unfold hGive
      repeat' split
      all_goals first | rfl | exact give_n _ _ _ _
  · unfold hLoad fAct
    rw [← hf.who x.n]
    by_cases h0 : 0 < hWho h x.n
    · simp only [if_pos h0]
      exact ⟨rfl, ⟨t, hf.more (by omega)⟩, rfl⟩
    · obtain ⟨k, y, e, _, hx, hat⟩ := hWho_zero (show hWho h x.n = 0 by have := hWho_le (h := h) x.n; omega)
      obtain ⟨f, hq, _⟩ := hf.view hx
      simp only [if_neg h0, hat]
      rw [e, Int.toNat_natCast, hq, Option.getD_some]
      obtain ⟨e1, e2⟩ := hf.load hx hq x.a
      exact ⟨e1, ⟨t, e2⟩, load_n _ _ _⟩
  · exact tells_proc (q := fun f => fStore f x.a x.v) hf (fun s y => store_n s y x.a x.v) (fun k y f hx hq => hf.store hx hq x.a x.v v0 v1)
  · exact tells_proc (q := fun f => fRoot f x.a) hf (fun _ _ => rfl) (fun k y f hx hq => ⟨(hf.root hx hq x.a).1, t, (hf.root hx hq x.a).2.more (by omega)⟩)
  · exact tells_proc (q := fun f => fForget f x.a) hf (fun _ _ => rfl) (fun k y f hx hq => ⟨(hf.forget hx hq x.a).1, t, (hf.forget hx hq x.a).2.more (by omega)⟩)
  · exact tells_proc (q := fun f => fDrop f x.a) hf (fun _ _ => rfl) (fun k y f hx hq => ⟨(hf.drop hx hq x.a).1, t, (hf.drop hx hq x.a).2.more (by omega)⟩)
  · unfold cScan
    rw [← hf.who x.n]
    by_cases h0 : 0 < hWho h x.n
    · rw [hScan_wrong _ h0, if_pos h0]
      exact ⟨rfl, ⟨t, hf.more (by omega)⟩, rfl⟩
    · rw [if_neg h0]
      obtain ⟨k, y, e, hk, hx, _⟩ := hWho_zero (show hWho h x.n = 0 by have := hWho_le (h := h) x.n; omega)
      rw [e]
      cases hp : onB x.a with
      | false =>
        rw [hScan_off hx hk hp]
        exact ⟨rfl, ⟨t, hf.more (by omega)⟩, rfl⟩
      | true =>
        obtain ⟨p0, p1⟩ := (onB_iff x.a).1 hp
        obtain ⟨q, e2⟩ := Int.eq_ofNat_of_zero_le p0
        have hs := hf.scan hx (show q < 16 by omega)
        rw [e2]
        refine ⟨?_, ⟨t, hs.1.more (by omega)⟩, hs.2.2.2.2.2.2.1⟩
        simp only [if_true]
        rw [hs.2.1]
  · have h1 := (hf.scans 64 (Nat.le_refl _)).1
    have h2 := (hf.scans 64 (Nat.le_refl _)).2.2.1
    revert h1 h2
    generalize (hScanTo h 64).2 = hh
    intro h1 h2
    exact ⟨rfl, ⟨t, h1.more (by omega)⟩, h2⟩
  · exact ⟨rfl, ⟨t, hf.more (by omega)⟩, rfl⟩
end Go.Proofs.YtadpibcgjgcjhaaGreat
/- TopApart, plainly: two hosts whose pages have the same states, and one guest that sees the same. -/
namespace Go.Proofs.YtadpibcgjgcjhaaGreat
open Go.RowKit
variable {F F' : Nat → Option Fl} {g : Int}

/-- What two hosts have in common for a guest g. -/
structure Apn (g : Int) (F F' : Nat → Option Fl) : Prop where
  alk : Alk F F'
  own : 0 ≤ g → ∀ f f', F g.toNat = some f → F' g.toNat = some f' → f = f'
theorem Apn.some (a : Apn g F F') {i : Nat} {f : Fl} (hf : F i = some f) : ∃ f', F' i = some f' ∧ f.st = f'.st := by
  cases hq : F' i with
  | none => have := ((a.alk i).1).2 hq; rw [hf] at this; cases this
  | some f' => exact ⟨f', rfl, (a.alk i).2 f f' hf hq⟩
/-- Both turn alike, by what keeps states alike. -/
theorem Apn.map (a : Apn g F F') (n : Nat) (m : Fl → Fl) (hm : ∀ f f', f.st = f'.st → (m f).st = (m f').st) : Apn g (setAt F n ((F n).map m)) (setAt F' n ((F' n).map m)) := by
  refine ⟨fun i => ?_, fun g0 f f' hf hf' => ?_⟩
  · by_cases e : i = n
    · subst e
      rw [setAt_same, setAt_same]
      refine ⟨?_, fun f f' hf hf' => ?_⟩
      · have := (a.alk i).1
        cases h1 : F i <;> cases h2 : F' i <;> simp_all
      · cases h1 : F i with
        | none => rw [h1] at hf; cases hf
        | some y =>
          cases h2 : F' i with
          | none => rw [h2] at hf'; cases hf'
          | some y' =>
            rw [h1] at hf
            rw [h2] at hf'
            cases hf
            cases hf'
            exact hm _ _ ((a.alk i).2 y y' h1 h2)
    · rw [setAt_other _ _ _ _ e, setAt_other _ _ _ _ e]
      exact a.alk i
  · by_cases e : g.toNat = n
    · rw [e, setAt_same] at hf hf'
      cases h1 : F n with
      | none => rw [h1] at hf; cases hf
      | some y =>
        cases h2 : F' n with
        | none => rw [h2] at hf'; cases hf'
        | some y' =>
          rw [h1] at hf
          rw [h2] at hf'
          cases hf
          cases hf'
          rw [a.own g0 y y' (by rw [e]; exact h1) (by rw [e]; exact h2)]
    · rw [setAt_other _ _ _ _ e] at hf hf'
      exact a.own g0 f f' hf hf'
theorem Apn.put (a : Apn g F F') (n : Nat) (o : Option Fl) : Apn g (setAt F n o) (setAt F' n o) := by
  refine ⟨fun i => ?_, fun g0 f f' hf hf' => ?_⟩
  · by_cases e : i = n
    · subst e
      rw [setAt_same, setAt_same]
      exact ⟨Iff.rfl, fun f f' h1 h2 => by rw [h1] at h2; cases h2; rfl⟩
    · rw [setAt_other _ _ _ _ e, setAt_other _ _ _ _ e]
      exact a.alk i
  · by_cases e : g.toNat = n
    · rw [e, setAt_same] at hf hf'
      rw [hf] at hf'
      cases hf'
      rfl
    · rw [setAt_other _ _ _ _ e] at hf hf'
      exact a.own g0 f f' hf hf'
/-- Another guest's processor does something: the states stay. -/
theorem Apn.left (a : Apn g F F') {n : Int} (hn : n ≠ g) {r : Fl → (Int × Int) × Fl} (hr : ∀ f, (r f).2.st = f.st) : Apn g (fAct F n r).2 F' := by
  unfold fAct
  split
  · exact a
  · next h0 =>
    have hle : 0 ≤ n ∧ n ≤ 3 ∧ ∃ f, F n.toNat = Option.some f := by
      unfold fWho at h0
      split at h0
      · omega
      · next hb =>
        cases hq : F n.toNat with
        | none => rw [hq] at h0; simp at h0
        | some f => exact ⟨by omega, by omega, f, rfl⟩
    obtain ⟨n0, n3, f0, hf0⟩ := hle
    rw [hf0, Option.getD_some]
    simp only
    refine ⟨fun i => ?_, fun g0 f f' hf hf' => ?_⟩
    · by_cases e : i = n.toNat
      · subst e
        rw [setAt_same]
        obtain ⟨f', hf', hst⟩ := a.some hf0
        refine ⟨⟨fun c => (by cases c), fun c => (by rw [hf'] at c; cases c)⟩, fun y y' hy hy' => ?_⟩
        cases hy
        rw [hf'] at hy'
        cases hy'
        rw [hr]
        exact hst
      · rw [setAt_other _ _ _ _ e]
        exact a.alk i
    · rw [setAt_other _ _ _ _ (by omega)] at hf
      exact a.own g0 f f' hf hf'
/-- The guest's own processor does something. -/
theorem Apn.both (a : Apn g F F') (r : Fl → (Int × Int) × Fl) : (fAct F g r).1 = (fAct F' g r).1 ∧ Apn g (fAct F g r).2 (fAct F' g r).2 := by
  unfold fAct
  rw [← a.alk.who g]
  split
  · exact ⟨rfl, a⟩
  · next h0 =>
    have hle : 0 ≤ g ∧ ∃ f, F g.toNat = Option.some f := by
      unfold fWho at h0
      split at h0
      · omega
      · next hb =>
        cases hq : F g.toNat with
        | none => rw [hq] at h0; simp at h0
        | some f => exact ⟨by omega, f, rfl⟩
    obtain ⟨g0, f0, hf0⟩ := hle
    obtain ⟨f', hf', _⟩ := a.some hf0
    have := a.own g0 f0 f' hf0 hf'
    subst this
    rw [hf0, hf', Option.getD_some]
    exact ⟨rfl, a.put _ _⟩
theorem turn_alike (k : Nat) (z : Int) (f f' : Fl) (hs : f.st = f'.st) : (fTurn f k z).st = (fTurn f' k z).st := by
  unfold fTurn
  simp only [hs]
theorem turnTo_alike (b : Nat) (z : Int) (f f' : Fl) (hs : f.st = f'.st) : ∀ j, (fTurnTo f b z j).st = (fTurnTo f' b z j).st
  | 0 => hs
  | j + 1 => turn_alike _ _ _ _ (turnTo_alike b z f f' hs j)
theorem fStep_st (f : Fl) (y : En) (fd wt : Bool) : (fStep f y fd wt).2.st = f.st := by
  unfold fStep
  repeat' split
  all_goals rfl
theorem fAt_st (f : Fl) (a : Int) (wt : Bool) : (fAt f a wt).2.st = f.st := by
  unfold fAt
  repeat' split
  all_goals first | rfl | exact fStep_st _ _ _ _
theorem fLoad_st (f : Fl) (a : Int) : (fLoad f a).2.st = f.st := by
  unfold fLoad
  repeat' split
  all_goals exact fAt_st _ _ _
theorem fStore_st (f : Fl) (a v : Int) : (fStore f a v).2.st = f.st := by
  unfold fStore
  repeat' split
  all_goals exact fAt_st _ _ _
theorem fRoot_st (f : Fl) (a : Int) : (fRoot f a).2.st = f.st := by unfold fRoot; split <;> rfl
theorem fForget_st (f : Fl) (a : Int) : (fForget f a).2.st = f.st := by unfold fForget; split <;> rfl
theorem fDrop_st (f : Fl) (a : Int) : (fDrop f a).2.st = f.st := by unfold fDrop; split <;> rfl
/-- What the law passes by at the second host. -/
def inner (x : Ac) : Bool := (x.kind.toList == [108, 111, 97, 100]) || (x.kind.toList == [115, 116, 111, 114, 101]) || (x.kind.toList == [114, 111, 111, 116]) || (x.kind.toList == [102, 111, 114, 103, 101, 116]) || (x.kind.toList == [100, 114, 111, 112])
def passes (x : Ac) (g : Int) : Bool := (x.kind.toList == [115, 99, 97, 110]) || (x.kind.toList == [115, 99, 97, 110, 97, 108, 108]) || (inner x && (x.n != g))
theorem fDid_cases {P : (Int × Int) × (Nat → Option Fl) → (Int × Int) × (Nat → Option Fl) → Prop} (N : Nat) (x : Ac) (h0 : (x.kind.toList == [97, 100, 100]) = true → P ((cAdd F, if (cAdd F).2 = 0 then setAt F (cAdd F).1.toNat (some fl0) else F)) ((cAdd F', if (cAdd F').2 = 0 then setAt F' (cAdd F').1.toNat (some fl0) else F'))) (h1 : (x.kind.toList == [114, 101, 109, 111, 118, 101]) = true → P (((0, fWho F x.n), if fWho F x.n = 0 then setAt F x.n.toNat none else F)) (((0, fWho F' x.n), if fWho F' x.n = 0 then setAt F' x.n.toNat none else F'))) (h2 : (x.kind.toList == [112, 108, 117, 103]) = true → P (((0, cPlug F N x.n x.a), if cPlug F N x.n x.a = 0 then setAt F x.n.toNat ((F x.n.toNat).map fun f => fTurnTo f x.a.toNat 1 4) else F)) (((0, cPlug F' N x.n x.a), if cPlug F' N x.n x.a = 0 then setAt F' x.n.toNat ((F' x.n.toNat).map fun f => fTurnTo f x.a.toNat 1 4) else F'))) (h3 : (x.kind.toList == [117, 110, 112, 108, 117, 103]) = true → P (((0, cUnplug F x.n x.a), if cUnplug F x.n x.a = 0 then setAt F x.n.toNat ((F x.n.toNat).map fun f => fTurnTo f x.a.toNat 0 4) else F)) (((0, cUnplug F' x.n x.a), if cUnplug F' x.n x.a = 0 then setAt F' x.n.toNat ((F' x.n.toNat).map fun f => fTurnTo f x.a.toNat 0 4) else F'))) (h4 : (x.kind.toList == [103, 105, 118, 101]) = true → P (((0, cGive F N x.n x.a false), if cGive F N x.n x.a false = 0 then setAt F x.n.toNat ((F x.n.toNat).map fun f => fTurn f x.a.toNat 2) else F)) (((0, cGive F' N x.n x.a false), if cGive F' N x.n x.a false = 0 then setAt F' x.n.toNat ((F' x.n.toNat).map fun f => fTurn f x.a.toNat 2) else F'))) (h5 : (x.kind.toList == [98, 97, 99, 107]) = true → P (((0, cGive F N x.n x.a true), if cGive F N x.n x.a true = 0 then setAt F x.n.toNat ((F x.n.toNat).map fun f => fTurn f x.a.toNat 1) else F)) (((0, cGive F' N x.n x.a true), if cGive F' N x.n x.a true = 0 then setAt F' x.n.toNat ((F' x.n.toNat).map fun f => fTurn f x.a.toNat 1) else F'))) (h6 : (x.kind.toList == [108, 111, 97, 100]) = true → P (fAct F x.n fun f => fLoad f x.a) (fAct F' x.n fun f => fLoad f x.a)) (h7 : (x.kind.toList == [115, 116, 111, 114, 101]) = true → P (fAct F x.n fun f => ((0, (fStore f x.a x.v).1), (fStore f x.a x.v).2)) (fAct F' x.n fun f => ((0, (fStore f x.a x.v).1), (fStore f x.a x.v).2))) (h8 : (x.kind.toList == [114, 111, 111, 116]) = true → P (fAct F x.n fun f => ((0, (fRoot f x.a).1), (fRoot f x.a).2)) (fAct F' x.n fun f => ((0, (fRoot f x.a).1), (fRoot f x.a).2))) (h9 : (x.kind.toList == [102, 111, 114, 103, 101, 116]) = true → P (fAct F x.n fun f => ((0, (fForget f x.a).1), (fForget f x.a).2)) (fAct F' x.n fun f => ((0, (fForget f x.a).1), (fForget f x.a).2))) (h10 : (x.kind.toList == [100, 114, 111, 112]) = true → P (fAct F x.n fun f => ((0, (fDrop f x.a).1), (fDrop f x.a).2)) (fAct F' x.n fun f => ((0, (fDrop f x.a).1), (fDrop f x.a).2))) (h11 : (x.kind.toList == [115, 99, 97, 110]) = true → P (((0, cScan F x.n x.a), F)) (((0, cScan F' x.n x.a), F'))) (h12 : (x.kind.toList == [115, 99, 97, 110, 97, 108, 108]) = true → P (((0, 0), F)) (((0, 0), F'))) (he : P ((0, 0), F) ((0, 0), F')) : P (fDid F N x) (fDid F' N x) := by
  unfold fDid
  by_cases k0 : (x.kind.toList == [97, 100, 100]) = true
  · rw [if_pos k0, if_pos k0]; exact h0 k0
  · rw [if_neg k0, if_neg k0]
    by_cases k1 : (x.kind.toList == [114, 101, 109, 111, 118, 101]) = true
    · rw [if_pos k1, if_pos k1]; exact h1 k1
    · rw [if_neg k1, if_neg k1]
      by_cases k2 : (x.kind.toList == [112, 108, 117, 103]) = true
      · rw [if_pos k2, if_pos k2]; exact h2 k2
      · rw [if_neg k2, if_neg k2]
        by_cases k3 : (x.kind.toList == [117, 110, 112, 108, 117, 103]) = true
        · rw [if_pos k3, if_pos k3]; exact h3 k3
        · rw [if_neg k3, if_neg k3]
          by_cases k4 : (x.kind.toList == [103, 105, 118, 101]) = true
          · rw [if_pos k4, if_pos k4]; exact h4 k4
          · rw [if_neg k4, if_neg k4]
            by_cases k5 : (x.kind.toList == [98, 97, 99, 107]) = true
            · rw [if_pos k5, if_pos k5]; exact h5 k5
            · rw [if_neg k5, if_neg k5]
              by_cases k6 : (x.kind.toList == [108, 111, 97, 100]) = true
              · rw [if_pos k6, if_pos k6]; exact h6 k6
              · rw [if_neg k6, if_neg k6]
                by_cases k7 : (x.kind.toList == [115, 116, 111, 114, 101]) = true
                · rw [if_pos k7, if_pos k7]; exact h7 k7
                · rw [if_neg k7, if_neg k7]
                  by_cases k8 : (x.kind.toList == [114, 111, 111, 116]) = true
                  · rw [if_pos k8, if_pos k8]; exact h8 k8
                  · rw [if_neg k8, if_neg k8]
                    by_cases k9 : (x.kind.toList == [102, 111, 114, 103, 101, 116]) = true
                    · rw [if_pos k9, if_pos k9]; exact h9 k9
                    · rw [if_neg k9, if_neg k9]
                      by_cases k10 : (x.kind.toList == [100, 114, 111, 112]) = true
                      · rw [if_pos k10, if_pos k10]; exact h10 k10
                      · rw [if_neg k10, if_neg k10]
                        by_cases k11 : (x.kind.toList == [115, 99, 97, 110]) = true
                        · rw [if_pos k11, if_pos k11]; exact h11 k11
                        · rw [if_neg k11, if_neg k11]
                          by_cases k12 : (x.kind.toList == [115, 99, 97, 110, 97, 108, 108]) = true
                          · rw [if_pos k12, if_pos k12]; exact h12 k12
                          · rw [if_neg k12, if_neg k12]
                            exact he
theorem Apn.pass (a : Apn g F F') (N : Nat) (x : Ac) (hp : passes x g = true) : Apn g (fDid F N x).2 F' := by
  have hk : ∀ l : List UInt8, (x.kind.toList == l) = true → x.kind.toList = l := fun l h => by simpa using h
  refine fDid_cases (F' := F') (P := fun r _ => Apn g r.2 F') N x (fun k => ?_) (fun k => ?_) (fun k => ?_) (fun k => ?_) (fun k => ?_) (fun k => ?_) (fun k => ?_) (fun k => ?_) (fun k => ?_) (fun k => ?_) (fun k => ?_) (fun k => ?_) (fun k => ?_) a
  · exfalso
    unfold passes inner at hp
    rw [hk _ k] at hp
    simp at hp
  · exfalso
    unfold passes inner at hp
    rw [hk _ k] at hp
    simp at hp
  · exfalso
    unfold passes inner at hp
    rw [hk _ k] at hp
    simp at hp
  · exfalso
    unfold passes inner at hp
    rw [hk _ k] at hp
    simp at hp
  · exfalso
    unfold passes inner at hp
    rw [hk _ k] at hp
    simp at hp
  · exfalso
    unfold passes inner at hp
    rw [hk _ k] at hp
    simp at hp
  · refine a.left (fun e => ?_) (fun f => fLoad_st f x.a)
    unfold passes inner at hp
    rw [hk _ k] at hp
    simp [e] at hp
  · refine a.left (fun e => ?_) (fun f => fStore_st f x.a x.v)
    unfold passes inner at hp
    rw [hk _ k] at hp
    simp [e] at hp
  · refine a.left (fun e => ?_) (fun f => fRoot_st f x.a)
    unfold passes inner at hp
    rw [hk _ k] at hp
    simp [e] at hp
  · refine a.left (fun e => ?_) (fun f => fForget_st f x.a)
    unfold passes inner at hp
    rw [hk _ k] at hp
    simp [e] at hp
  · refine a.left (fun e => ?_) (fun f => fDrop_st f x.a)
    unfold passes inner at hp
    rw [hk _ k] at hp
    simp [e] at hp
  · exact a
  · exact a
theorem Apn.step (a : Apn g F F') (N : Nat) (x : Ac) (hp : passes x g = false) : (fDid F N x).1 = (fDid F' N x).1 ∧ Apn g (fDid F N x).2 (fDid F' N x).2 := by
  have hk : ∀ l : List UInt8, (x.kind.toList == l) = true → x.kind.toList = l := fun l h => by simpa using h
  refine fDid_cases (P := fun r q => r.1 = q.1 ∧ Apn g r.2 q.2) N x (fun k => ?_) (fun k => ?_) (fun k => ?_) (fun k => ?_) (fun k => ?_) (fun k => ?_) (fun k => ?_) (fun k => ?_) (fun k => ?_) (fun k => ?_) (fun k => ?_) (fun k => ?_) (fun k => ?_) ⟨rfl, a⟩
  · rw [a.alk.add]
    refine ⟨rfl, ?_⟩
    simp only
    split
    · exact a.put _ _
    · exact a
  · rw [a.alk.who]
    refine ⟨rfl, ?_⟩
    simp only
    split
    · exact a.put _ _
    · exact a
  · rw [a.alk.plug]
    refine ⟨rfl, ?_⟩
    simp only
    split
    · exact a.map _ _ (fun f f' hs => turnTo_alike _ _ f f' hs 4)
    · exact a
  · rw [a.alk.unplug]
    refine ⟨rfl, ?_⟩
    simp only
    split
    · exact a.map _ _ (fun f f' hs => turnTo_alike _ _ f f' hs 4)
    · exact a
  · rw [a.alk.give]
    refine ⟨rfl, ?_⟩
    simp only
    split
    · exact a.map _ _ (turn_alike _ _)
    · exact a
  · rw [a.alk.give]
    refine ⟨rfl, ?_⟩
    simp only
    split
    · exact a.map _ _ (turn_alike _ _)
    · exact a
  · have e : x.n = g := by
      unfold passes inner at hp
      rw [hk _ k] at hp
      simpa using hp
    rw [e]
    exact a.both (fun f => fLoad f x.a)
  · have e : x.n = g := by
      unfold passes inner at hp
      rw [hk _ k] at hp
      simpa using hp
    rw [e]
    exact a.both (fun f => ((0, (fStore f x.a x.v).1), (fStore f x.a x.v).2))
  · have e : x.n = g := by
      unfold passes inner at hp
      rw [hk _ k] at hp
      simpa using hp
    rw [e]
    exact a.both (fun f => ((0, (fRoot f x.a).1), (fRoot f x.a).2))
  · have e : x.n = g := by
      unfold passes inner at hp
      rw [hk _ k] at hp
      simpa using hp
    rw [e]
    exact a.both (fun f => ((0, (fForget f x.a).1), (fForget f x.a).2))
  · have e : x.n = g := by
      unfold passes inner at hp
      rw [hk _ k] at hp
      simpa using hp
    rw [e]
    exact a.both (fun f => ((0, (fDrop f x.a).1), (fDrop f x.a).2))
  · exfalso
    unfold passes inner at hp
    rw [hk _ k] at hp
    simp at hp
  · exfalso
    unfold passes inner at hp
    rw [hk _ k] at hp
    simp at hp
end Go.Proofs.YtadpibcgjgcjhaaGreat
/- TopApart: where it begins; both hosts in one state. -/
namespace Go.Proofs.YtadpibcgjgcjhaaGreat
open Go.ChangeShapes Go.WideShapes Go.ChangeAt Go.RowKit
set_option maxRecDepth 100000
attribute [local go_sem ↓] Go.wp_at_zero Go.wp_at_succ

theorem lightH_yes (w : World) (a : Option Addr) (len cap : Nat) (h : len ≤ 100) :
    Calls Tryz.prog 8 #[.slice a len cap, .int .i64 100] w fun e w' => e = .returned (.bool true) ∧ w' = w := by
  have hd : decide ((len : Int) ≤ 100) = true := by simp; omega
  go_enter Tryz.func8, Tryz.ntmps8
  go_wp2
  go_ret
  exact ⟨rfl, rfl⟩
theorem lightH_no (w : World) (a : Option Addr) (len cap : Nat) (h : 100 < len) :
    Calls Tryz.prog 8 #[.slice a len cap, .int .i64 100] w fun e w' => e = .returned (.bool false) ∧ w' = w := by
  have hd : decide ((len : Int) ≤ 100) = false := by simp; omega
  go_enter Tryz.func8, Tryz.ntmps8
  go_wp2
  go_ret
  exact ⟨rfl, rfl⟩
theorem cntTo_off {L : Nat → Lf} (f : Int) (hl : ∀ k, (L k).there = false) : ∀ K, cntTo L f K = 0
  | 0 => rfl
  | K + 1 => by
    rw [cntTo_succ, cntTo_off f hl K]
    unfold inIn
    rw [hl K]
    simp
theorem pln_off {S : Nat → Int} (hs : ∀ k, S k = 0) : ∀ K, pln S K = 0
  | 0 => rfl
  | K + 1 => by
    simp only [pln]
    rw [pln_off hs K, hs K]
    simp
/-- A new host. -/
theorem HF.start (n : Nat) : HF (hs0 n) (fun _ _ => 0) (fun _ => none) 0 := by
  have hl : ∀ k, (rowL (hs0 n) k).there = false := fun _ => rfl
  have no : ∀ k, (rowL (hs0 n) k).there = true → False := fun k ht => by rw [hl k] at ht; cases ht
  have ng : ∀ i x, (hs0 n).g i = some x → False := fun i x hx => by cases hx
  have hs : ∀ k, rowS (hs0 n) k = 0 := fun _ => rfl
  have hp := pln_off hs 64
  refine ⟨⟨⟨⟨fun f _ => (by rw [cntTo_off f hl]; rfl), fun k _ ht => (no k ht).elim⟩, fun _ _ => ⟨Int.le_refl _, (by show (0 : Int) ≤ 255; omega)⟩, fun i x hx => (ng i x hx).elim⟩, ⟨fun k _ ht => (no k ht).elim, fun _ _ _ _ _ => rfl, fun k _ ht => (no k ht).elim⟩, (by rw [hp]; exact Nat.zero_le _)⟩, fun i x hx => (ng i x hx).elim, fun _ => ⟨fun _ => rfl, fun _ => rfl⟩, fun i x f hx => (ng i x hx).elim⟩
/-- A host in memory, with what its guests see; its blocks are new. -/
structure HS (W w : World) (n k : Nat) (bh bp bf : Nat) (G : Nat → G3) (h : Hs) (F : Nat → Option Fl) : Prop where
  m : HM w bh bp bf G h
  hf : ∃ t, HF h t F (k : Int)
  n : h.s.n = n
  new : ∀ j, Own bh bp bf G h j → W.heap.size ≤ j
theorem HS.start {W w w' : World} {n bh bp bf : Nat} (hn : ∀ G, HM w' bh bp bf G (hs0 n)) (u : Upd (fun _ => False) W w) (h1 : w.heap.size ≤ bh) (h2 : w.heap.size ≤ bp) (h3 : w.heap.size ≤ bf) (G : Nat → G3) : HS W w' n 0 bh bp bf G (hs0 n) (fun _ => none) := by
  refine ⟨hn G, ⟨_, HF.start n⟩, rfl, fun j hj => ?_⟩
  have := u.size
  rcases hj with e | e | e | ⟨i, x, hx, _⟩
  · omega
  · omega
  · omega
  · cases hx
theorem HS.keep {W w w' : World} {n k bh bp bf : Nat} {G : Nat → G3} {h : Hs} {F : Nat → Option Fl} {S : Nat → Prop} (s : HS W w n k bh bp bf G h F) (u : Upd S w w') (hS : ∀ j, Own bh bp bf G h j → ¬ S j) : HS W w' n k bh bp bf G h F := ⟨s.m.upd u hS, s.hf, s.n, s.new⟩
theorem HS.more {W w : World} {n k bh bp bf : Nat} {G : Nat → G3} {h : Hs} {F : Nat → Option Fl} (s : HS W w n k bh bp bf G h F) : HS W w n (k + 1) bh bp bf G h F := ⟨s.m, by obtain ⟨t, ht⟩ := s.hf; exact ⟨t, ht.more (by omega)⟩, s.n, s.new⟩
/-- An act. -/
theorem HS.act {W w w' : World} {n k bh bp bf : Nat} {G : Nat → G3} {h : Hs} {F : Nat → Option Fl} (s : HS W w n k bh bp bf G h F) (uW : Upd (fun _ => False) W w) (x : Ac) (v0 : 0 ≤ x.v) (v1 : x.v ≤ 255) (hd : DPost w bh bp bf G h (hDid h x) w') :
    ∃ G', HS W w' n (k + 1) bh bp bf G' (hDid h x).2 (fDid F n x).2 ∧ (∀ j, Own bh bp bf G' (hDid h x).2 j → Own bh bp bf G h j ∨ w.heap.size ≤ j) := by
  obtain ⟨⟨G', hm, ho⟩, hu⟩ := hd
  obtain ⟨t, ht⟩ := s.hf
  obtain ⟨_, ⟨t', h2⟩, h3⟩ := ht.tells (by omega) x v0 v1
  rw [s.n] at h2 h3
  refine ⟨G', ⟨hm, ⟨t', ?_⟩, h3, fun j hj => ?_⟩, ho⟩
  · have e : ((k + 1 : Nat) : Int) = (k : Int) + 1 := by omega
    rw [e]
    exact h2
  · have := uW.size
    rcases ho j hj with e | e
    · exact s.new j e
    · omega
theorem HS.ans {W w : World} {n k bh bp bf : Nat} {G : Nat → G3} {h : Hs} {F : Nat → Option Fl} (s : HS W w n k bh bp bf G h F) (x : Ac) (v0 : 0 ≤ x.v) (v1 : x.v ≤ 255) : (hDid h x).1 = (fDid F n x).1 := by
  obtain ⟨t, ht⟩ := s.hf
  have := (ht.tells (by omega) x v0 v1).ans
  rw [s.n] at this
  exact this
theorem HS.did {W w : World} {n k bh bp bf : Nat} {G : Nat → G3} {h : Hs} {F : Nat → Option Fl} (s : HS W w n k bh bp bf G h F) (hk : k ≤ 1000) (x : Ac) (v0 : 0 ≤ x.v) (v1 : x.v ≤ 255) :
    Calls Tryz.prog 31 #[.pointer (some ⟨bh, 0, none⟩), .agg #[.string x.kind, .int .i64 x.n, .int .i64 x.a, .int .i64 x.b, .int .u8 x.v, .bool x.on]] w
      fun e w' => e = .returned (.tuple #[.int .i64 (fDid F n x).1.1, .int .i64 (fDid F n x).1.2]) ∧ DPost w bh bp bf G h (hDid h x) w' := by
  obtain ⟨t, ht⟩ := s.hf
  have := did_any s.m ht (by omega) (by omega) x v0 v1
  rw [s.ans x v0 v1] at this
  exact this
/-- Both hosts of TopApart. -/
structure A2 (W w : World) (n k : Nat) (g : Int) (bh bp bf ch cp cf : Nat) : Prop where
  ex : ∃ G h F G' o F', HS W w n k bh bp bf G h F ∧ HS W w n k ch cp cf G' o F' ∧ Apn g F F' ∧ ∀ j, Own bh bp bf G h j → ¬ Own ch cp cf G' o j
  up : Upd (fun _ => False) W w
theorem A2.same {W w w' : World} {n k : Nat} {g : Int} {bh bp bf ch cp cf : Nat} (a : A2 W w n k g bh bp bf ch cp cf) (u : Upd (fun _ => False) w w') : A2 W w' n k g bh bp bf ch cp cf := by
  obtain ⟨G, h, F, G', o, F', h1, h2, h3, h4⟩ := a.ex
  exact ⟨⟨G, h, F, G', o, F', h1.keep u (fun _ _ f => f), h2.keep u (fun _ _ f => f), h3, h4⟩, a.up.trans u (fun _ _ f => f)⟩
end Go.Proofs.YtadpibcgjgcjhaaGreat
/- TopFrames, plainly: guests one behind the other; frames counted. -/
namespace Go.Proofs.YtadpibcgjgcjhaaGreat
open Go.RowKit
variable {h : Hs} {W : Int} {t : Nat → Nat → Int} {F : Nat → Option Fl} {x : Gs}

theorem nums_none {m : Nat} (hx : h.g m = none) : hNums h (m + 1) = hNums h m := by simp only [hNums, hx, List.append_nil]
theorem nums_some {m : Nat} (hx : h.g m = some x) : hNums h (m + 1) = hNums h m ++ [m] := by simp only [hNums, hx]
theorem nums_pre (h : Hs) (m : Nat) : ∀ k, ∃ l, hNums h (m + k) = hNums h m ++ l
  | 0 => ⟨[], by simp⟩
  | k + 1 => by
    obtain ⟨l, hl⟩ := nums_pre h m k
    rw [← Nat.add_assoc]
    cases hx : h.g (m + k) with
    | none => exact ⟨l, by rw [nums_none hx, hl]⟩
    | some x => exact ⟨l ++ [m + k], by rw [nums_some hx, hl, List.append_assoc]⟩
/-- The next guest. -/
theorem nums_next (h : Hs) : ∀ (d m : Nat), m + d = 4 → (hNums h m).length < (hNums h 4).length →
    ∃ m' x, m ≤ m' ∧ m' < 4 ∧ h.g m' = some x ∧ (∀ j, m ≤ j → j < m' → h.g j = none) ∧ (hNums h 4).getD (hNums h m).length 0 = m' ∧ hNums h m' = hNums h m
  | 0, m, e, hl => by
    obtain rfl : m = 4 := by omega
    omega
  | d + 1, m, e, hl => by
    cases hx : h.g m with
    | some x =>
      refine ⟨m, x, Nat.le_refl _, by omega, hx, fun j h1 h2 => by omega, ?_, rfl⟩
      obtain ⟨l, hp⟩ := nums_pre h (m + 1) d
      rw [show m + 1 + d = 4 by omega, nums_some hx] at hp
      rw [hp]
      simp
    | none =>
      have hn := nums_none hx
      rw [← hn] at hl ⊢
      obtain ⟨m', x, a, b, c, d', e', f⟩ := nums_next h d (m + 1) (by omega) hl
      refine ⟨m', x, by omega, b, c, fun j h1 h2 => ?_, e', f⟩
      by_cases ej : j = m
      · subst ej; exact hx
      · exact d' j (by omega) h2
theorem nums_end (h : Hs) : ∀ (d m : Nat), m + d = 4 → ¬ (hNums h m).length < (hNums h 4).length → ∀ j, m ≤ j → j < 4 → h.g j = none
  | 0, m, e, _, j, h1, h2 => by omega
  | d + 1, m, e, hl, j, h1, h2 => by
    cases hx : h.g m with
    | some x =>
      exfalso
      obtain ⟨l, hp⟩ := nums_pre h (m + 1) d
      rw [show m + 1 + d = 4 by omega, nums_some hx] at hp
      rw [hp] at hl
      simp at hl
    | none =>
      by_cases ej : j = m
      · subst ej; exact hx
      · rw [← nums_none hx] at hl
        exact nums_end h d (m + 1) (by omega) hl j (by omega) h2
theorem row_none {m j : Nat} (hx : h.g m = none) (hj : j < 16) : rowL h (16 * m + j) = lf0 ∧ rowS h (16 * m + j) = 0 := by
  unfold rowL rowS
  rw [show (16 * m + j) / 16 = m by omega, hx]
  exact ⟨rfl, rfl⟩
/-- Where no guest is, nothing is counted. -/
theorem cnt_none {m : Nat} (f : Int) (hx : h.g m = none) : ∀ j, j ≤ 16 → cntTo (rowL h) f (16 * m + j) = cntTo (rowL h) f (16 * m)
  | 0, _ => rfl
  | j + 1, hj => by
    rw [← Nat.add_assoc, cntTo_succ, cnt_none f hx j (by omega)]
    unfold inIn
    rw [(row_none hx (show j < 16 by omega)).1]
    simp [lf0]
theorem cnt_skip (f : Int) (m : Nat) : ∀ d, (∀ j, m ≤ j → j < m + d → h.g j = none) → cntTo (rowL h) f (16 * (m + d)) = cntTo (rowL h) f (16 * m) ∧ pln (rowS h) (16 * (m + d)) = pln (rowS h) (16 * m)
  | 0, _ => ⟨rfl, rfl⟩
  | d + 1, hn => by
    obtain ⟨h1, h2⟩ := cnt_skip f m d (fun j a b => hn j a (by omega))
    have hx := hn (m + d) (by omega) (by omega)
    have e : 16 * (m + (d + 1)) = 16 * (m + d) + 16 := by omega
    rw [e, cnt_none f hx 16 (by omega), pln_none hx 16 (by omega)]
    exact ⟨h1, h2⟩
/-- A page's leaf. -/
theorem HF.leafOk (hf : HF h t F W) (h64 : h.s.n ≤ 64) {m k : Nat} (hx : h.g m = some x) (hk : k < 16) : ((x.m.lf k).there = true → x.m.st k = 1) ∧ 0 ≤ (x.m.lf k).fr ∧ (x.m.lf k).fr ≤ 63 ∧ ((x.m.lf k).wr = true → (x.m.lf k).there = true) := by
  obtain ⟨hm, ok⟩ := hf.hr.inv.gi m x hx
  cases ht : (x.m.lf k).there with
  | true =>
    have hr := hf.hr.inv.cn.rng (16 * m + k) (by omega)
    rw [rowL_at hx hk] at hr
    have := hr ht
    exact ⟨fun _ => ok.pg.plain hk ht, this.1, by omega, fun _ => rfl⟩
  | false =>
    have e : x.m.lf k = lf0 := (ok.pg k hk).2 (Or.inr ht)
    rw [e]
    exact ⟨fun c => (by cases c), (by show (0 : Int) ≤ 0; omega), (by show (0 : Int) ≤ 63; omega), fun c => (by cases c)⟩
/-- How many frames are taken. -/
def usedTo (a : Nat → Int) : Nat → Nat
  | 0 => 0
  | f + 1 => usedTo a f + if 0 < a f then 1 else 0
theorem used_le (a : Nat → Nat) : ∀ n, usedTo (fun f => (a f : Int)) n ≤ totTo a n
  | 0 => Nat.le_refl _
  | n + 1 => by
    have := used_le a n
    simp only [usedTo, totTo]
    split <;> omega
theorem taken_free (a : Nat → Int) : ∀ n, (∀ f, f < n → 0 ≤ a f) → usedTo a n + freeTo a n = n
  | 0, _ => rfl
  | n + 1, hz => by
    have := taken_free a n (fun f hf => hz f (by omega))
    have := hz n (by omega)
    simp only [usedTo, freeTo]
    by_cases e : a n = 0
    · rw [if_neg (by omega), if_pos e]; omega
    · rw [if_pos (by omega), if_neg e]; omega
theorem usedTo_congr {a b : Nat → Int} : ∀ n, (∀ f, f < n → a f = b f) → usedTo a n = usedTo b n
  | 0, _ => rfl
  | n + 1, hc => by simp only [usedTo]; rw [usedTo_congr n (fun f hf => hc f (by omega)), hc n (by omega)]
/-- No more frames are taken than are promised. -/
theorem HF.used (hf : HF h t F W) : usedTo h.s.refs h.s.n ≤ pln (rowS h) 64 := by
  rw [usedTo_congr (b := fun f => ((cntTo (rowL h) f 64 : Nat) : Int)) h.s.n (fun f hl => hf.hr.inv.cn.cnt f hl)]
  have h1 := used_le (fun f => cntTo (rowL h) (f : Int) 64) h.s.n
  rw [sum_cnt (rowL h) h.s.n 64 (fun k hk ht => hf.hr.inv.cn.rng k hk ht)] at h1
  exact Nat.le_trans h1 (thr_pln _ _ 64 (fun k hk ht => hf.hr.there k hk ht))
end Go.Proofs.YtadpibcgjgcjhaaGreat
