/- What an act on a host tells, and what its guests may see behind it: by flat memories alone. -/
import Derived.Test.YtadpibcgjgcjhabGreatDoorHd
import Derived.Test.YtadpibcgjgcjhabGreatDoorHoN
namespace Go.Proofs.YtadpibcgjgcjhabGreatDoor
open Go.RowKit
variable {h : Hs} {W : Int} {t : Nat → Nat → Int} {F : Nat → Option Fl}

/-- An act of one guest's processor. -/
def fAct (F : Nat → Option Fl) (n : Int) (r : Fl → (Int × Int) × Fl) : (Int × Int) × (Nat → Option Fl) :=
  if 0 < fWho F n then ((0, fWho F n), F) else ((r ((F n.toNat).getD fl0)).1, setAt F n.toNat (some (r ((F n.toNat).getD fl0)).2))
def cScan (F : Nat → Option Fl) (n p : Int) : Int := if 0 < fWho F n then fWho F n else if onB p = true then 0 else 1
def fDid (F : Nat → Option Fl) (N : Nat) (x : Ac) : (Int × Int) × (Nat → Option Fl) :=
  if (x.kind.toList == [97, 100, 100]) = true then (cAdd F, if (cAdd F).2 = 0 then setAt F (cAdd F).1.toNat (some fl0) else F) else
  if (x.kind.toList == [114, 101, 109, 111, 118, 101]) = true then ((0, fWho F x.n), if fWho F x.n = 0 then setAt F x.n.toNat none else F) else
  if (x.kind.toList == [112, 108, 117, 103]) = true then ((0, cPlug F N x.n x.a), if cPlug F N x.n x.a = 0 then setAt F x.n.toNat ((F x.n.toNat).map fun f => fTurnTo f x.a.toNat 1 4) else F) else
  if (x.kind.toList == [117, 110, 112, 108, 117, 103]) = true then ((0, cUnplug F x.n x.a), if cUnplug F x.n x.a = 0 then setAt F x.n.toNat ((F x.n.toNat).map fun f => fTurnTo f x.a.toNat 0 4) else F) else
  if (x.kind.toList == [103, 105, 118, 101]) = true then ((0, cGive F N x.n x.a false), if cGive F N x.n x.a false = 0 then setAt F x.n.toNat ((F x.n.toNat).map fun f => fTurn f x.a.toNat 2) else F) else
  if (x.kind.toList == [98, 97, 99, 107]) = true then ((0, cGive F N x.n x.a true), if cGive F N x.n x.a true = 0 then setAt F x.n.toNat ((F x.n.toNat).map fun f => fTurn f x.a.toNat 1) else F) else
  if (x.kind.toList == [108, 111, 97, 100]) = true then fAct F x.n fun f => fLoad f x.a else
  if (x.kind.toList == [115, 116, 111, 114, 101]) = true then fAct F x.n fun f => ((0, (fStore f x.a x.v).1), (fStore f x.a x.v).2) else
  if (x.kind.toList == [114, 111, 111, 116]) = true then fAct F x.n fun f => ((0, (fRoot f x.a).1), (fRoot f x.a).2) else
  if (x.kind.toList == [102, 111, 114, 103, 101, 116]) = true then fAct F x.n fun f => ((0, (fForget f x.a).1), (fForget f x.a).2) else
  if (x.kind.toList == [100, 114, 111, 112]) = true then fAct F x.n fun f => ((0, (fDrop f x.a).1), (fDrop f x.a).2) else
  if (x.kind.toList == [115, 99, 97, 110]) = true then ((0, cScan F x.n x.a), F) else
  if (x.kind.toList == [115, 99, 97, 110, 97, 108, 108]) = true then ((0, 0), F) else
  ((0, 0), F)
theorem did_cases {P : (Int × Int) × Hs → (Int × Int) × (Nat → Option Fl) → Prop} (N : Nat) (x : Ac) (h0 : (x.kind.toList == [97, 100, 100]) = true → P (hAdd h) ((cAdd F, if (cAdd F).2 = 0 then setAt F (cAdd F).1.toNat (some fl0) else F))) (h1 : (x.kind.toList == [114, 101, 109, 111, 118, 101]) = true → P (((0, (hRemove h x.n).1), (hRemove h x.n).2)) (((0, fWho F x.n), if fWho F x.n = 0 then setAt F x.n.toNat none else F))) (h2 : (x.kind.toList == [112, 108, 117, 103]) = true → P (((0, (hPlug h x.n x.a).1), (hPlug h x.n x.a).2)) (((0, cPlug F N x.n x.a), if cPlug F N x.n x.a = 0 then setAt F x.n.toNat ((F x.n.toNat).map fun f => fTurnTo f x.a.toNat 1 4) else F))) (h3 : (x.kind.toList == [117, 110, 112, 108, 117, 103]) = true → P (((0, (hUnplug h x.n x.a).1), (hUnplug h x.n x.a).2)) (((0, cUnplug F x.n x.a), if cUnplug F x.n x.a = 0 then setAt F x.n.toNat ((F x.n.toNat).map fun f => fTurnTo f x.a.toNat 0 4) else F))) (h4 : (x.kind.toList == [103, 105, 118, 101]) = true → P (((0, (hGive h x.n x.a false).1), (hGive h x.n x.a false).2)) (((0, cGive F N x.n x.a false), if cGive F N x.n x.a false = 0 then setAt F x.n.toNat ((F x.n.toNat).map fun f => fTurn f x.a.toNat 2) else F))) (h5 : (x.kind.toList == [98, 97, 99, 107]) = true → P (((0, (hGive h x.n x.a true).1), (hGive h x.n x.a true).2)) (((0, cGive F N x.n x.a true), if cGive F N x.n x.a true = 0 then setAt F x.n.toNat ((F x.n.toNat).map fun f => fTurn f x.a.toNat 1) else F))) (h6 : (x.kind.toList == [108, 111, 97, 100]) = true → P (hLoad h x.n x.a) (fAct F x.n fun f => fLoad f x.a)) (h7 : (x.kind.toList == [115, 116, 111, 114, 101]) = true → P (((0, (hStore h x.n x.a x.v).1), (hStore h x.n x.a x.v).2)) (fAct F x.n fun f => ((0, (fStore f x.a x.v).1), (fStore f x.a x.v).2))) (h8 : (x.kind.toList == [114, 111, 111, 116]) = true → P (((0, (hRoot h x.n x.a).1), (hRoot h x.n x.a).2)) (fAct F x.n fun f => ((0, (fRoot f x.a).1), (fRoot f x.a).2))) (h9 : (x.kind.toList == [102, 111, 114, 103, 101, 116]) = true → P (((0, (hForget h x.n x.a).1), (hForget h x.n x.a).2)) (fAct F x.n fun f => ((0, (fForget f x.a).1), (fForget f x.a).2))) (h10 : (x.kind.toList == [100, 114, 111, 112]) = true → P (((0, (hDrop h x.n x.a).1), (hDrop h x.n x.a).2)) (fAct F x.n fun f => ((0, (fDrop f x.a).1), (fDrop f x.a).2))) (h11 : (x.kind.toList == [115, 99, 97, 110]) = true → P (((0, (hScan h x.n x.a).1.2), (hScan h x.n x.a).2)) (((0, cScan F x.n x.a), F))) (h12 : (x.kind.toList == [115, 99, 97, 110, 97, 108, 108]) = true → P (((0, 0), (hScanTo h 64).2)) (((0, 0), F))) (he : P ((0, 0), h) ((0, 0), F)) : P (hDid h x) (fDid F N x) := by
  unfold hDid fDid
  by_cases k0 : (x.kind.toList == [97, 100, 100]) = true
  · rw [if_pos k0, if_pos k0]; exact h0 k0
  · rw [if_neg k0, if_neg k0]
    by_cases k1 : (x.kind.toList == [114, 101, 109, 111, 118, 101]) = true
    · rw [if_pos k1, if_pos k1]; exact h1 k1
    · rw [if_neg k1, if_neg k1]
      by_cases k2 : (x.kind.toList == [112, 108, 117, 103]) = true
      · rw [if_pos k2, if_pos k2]; exact h2 k2
      · rw [if_neg k2, if_neg k2]
        by_cases k3 : (x.kind.toList == [117, 110, 112, 108, 117, 103]) = true
        · rw [if_pos k3, if_pos k3]; exact h3 k3
        · rw [if_neg k3, if_neg k3]
          by_cases k4 : (x.kind.toList == [103, 105, 118, 101]) = true
          · rw [if_pos k4, if_pos k4]; exact h4 k4
          · rw [if_neg k4, if_neg k4]
            by_cases k5 : (x.kind.toList == [98, 97, 99, 107]) = true
            · rw [if_pos k5, if_pos k5]; exact h5 k5
            · rw [if_neg k5, if_neg k5]
              by_cases k6 : (x.kind.toList == [108, 111, 97, 100]) = true
              · rw [if_pos k6, if_pos k6]; exact h6 k6
              · rw [if_neg k6, if_neg k6]
                by_cases k7 : (x.kind.toList == [115, 116, 111, 114, 101]) = true
                · rw [if_pos k7, if_pos k7]; exact h7 k7
                · rw [if_neg k7, if_neg k7]
                  by_cases k8 : (x.kind.toList == [114, 111, 111, 116]) = true
                  · rw [if_pos k8, if_pos k8]; exact h8 k8
                  · rw [if_neg k8, if_neg k8]
                    by_cases k9 : (x.kind.toList == [102, 111, 114, 103, 101, 116]) = true
                    · rw [if_pos k9, if_pos k9]; exact h9 k9
                    · rw [if_neg k9, if_neg k9]
                      by_cases k10 : (x.kind.toList == [100, 114, 111, 112]) = true
                      · rw [if_pos k10, if_pos k10]; exact h10 k10
                      · rw [if_neg k10, if_neg k10]
                        by_cases k11 : (x.kind.toList == [115, 99, 97, 110]) = true
                        · rw [if_pos k11, if_pos k11]; exact h11 k11
                        · rw [if_neg k11, if_neg k11]
                          by_cases k12 : (x.kind.toList == [115, 99, 97, 110, 97, 108, 108]) = true
                          · rw [if_pos k12, if_pos k12]; exact h12 k12
                          · rw [if_neg k12, if_neg k12]
                            exact he
theorem HF.more {W' : Int} (hf : HF h t F W) (hw : W ≤ W') : HF h t F W' := ⟨hf.hr.more hw, hf.blk, hf.non, hf.fl⟩
theorem at_n (s : Pl) (x : Gs) (addr : Int) (wt : Bool) : (gAt s x addr wt).2.1.n = s.n := by
  have step : ∀ (s : Pl) (x : Gs) (y : En) (fd : Bool), (gStep s x y fd wt).2.1.n = s.n := by
    intro s x y fd
    have := touch_n s x.m y.dest wt
    unfold gStep
    repeat' split
    all_goals first | rfl | exact this
  unfold gAt
  have ht := touch_n s x.m (addr / 16) wt
  have hr := touch_n s x.m x.root false
  repeat' split
  · rfl
  · exact ht
  · exact step _ _ _ _
  · unfold gWalk
    repeat' split
    · exact hr
    · exact hr
    · rw [step]; exact hr
theorem load_n (s : Pl) (x : Gs) (a : Int) : (gLoad s x a).2.1.n = s.n := by
  unfold gLoad
  split <;> exact at_n _ _ _ _
theorem store_n (s : Pl) (x : Gs) (a v : Int) : (gStore s x a v).2.1.n = s.n := by
  unfold gStore
  split
  · exact at_n _ _ _ _
  · simp only
    rw [set_n]
    exact at_n _ _ _ _
theorem act_n {n : Int} {r : Pl → Gs → Int × Pl × Gs} (hr : ∀ s x, (r s x).2.1.n = s.n) : (hAct h n r).2.s.n = h.s.n := by
  unfold hAct
  split
  · rfl
  · exact hr _ _
theorem plugs_n (s : Pl) (x : Gs) (b : Nat) : ∀ j, (gPlugs s x b j).1.n = s.n
  | 0 => rfl
  | j + 1 => by
    have := plugs_n s x b j
    show (plugR _ _ _).2.1.n = _
    rw [plug_n, this]
theorem unplugs_n (s : Pl) (x : Gs) (b : Nat) : ∀ j, (gUnplugs s x b j).2.1.n = s.n
  | 0 => rfl
  | j + 1 => by
    have := unplugs_n s x b j
    show (if 0 < (gUnplugs s x b j).1 then gUnplugs s x b j else gUnplug (gUnplugs s x b j).2.1 (gUnplugs s x b j).2.2 ((4 * b + j : Nat) : Int)).2.1.n = _
    split
    · exact this
    · show (unplugR _ _ _).2.1.n = _
      rw [unplug_n, this]
/-- What an act tells, and what is seen behind it. -/
structure Tells (h : Hs) (W : Int) (r : (Int × Int) × Hs) (q : (Int × Int) × (Nat → Option Fl)) : Prop where
  ans : r.1 = q.1
  hf : ∃ t', HF r.2 t' q.2 (W + 1)
  n : r.2.s.n = h.s.n
theorem tells_proc (hf : HF h t F W) {n : Int} {r : Pl → Gs → Int × Pl × Gs} {q : Fl → Int × Fl} (hn : ∀ s x, (r s x).2.1.n = s.n)
    (hk : ∀ (k : Nat) (x : Gs) (f : Fl), h.g k = some x → F k = some f → (r h.s x).1 = (q f).1 ∧ ∃ t', HF (h.put k (r h.s x).2) t' (setAt F k (some (q f).2)) (W + 1)) :
    Tells h W ((0, (hAct h n r).1), (hAct h n r).2) (fAct F n fun f => ((0, (q f).1), (q f).2)) := by
  refine ⟨?_, ?_, act_n hn⟩
  all_goals
    unfold hAct fAct
    rw [← hf.who n]
    by_cases h0 : 0 < hWho h n
    · simp only [if_pos h0] <;> first | rfl | exact ⟨t, hf.more (by omega)⟩
    · obtain ⟨k, x, rfl, _, hx, hat⟩ := hWho_zero (show hWho h n = 0 by have := hWho_le (h := h) n; omega)
      obtain ⟨f, hq, _⟩ := hf.view hx
      simp only [if_neg h0, hat, Int.toNat_natCast, hq, Option.getD_some]
      first
        | (rw [(hk k x f hx hq).1])
        | exact (hk k x f hx hq).2
theorem HF.tells (hf : HF h t F W) (hW : 0 ≤ W) (x : Ac) (v0 : 0 ≤ x.v) (v1 : x.v ≤ 255) : Tells h W (hDid h x) (fDid F h.s.n x) := by
  refine did_cases (P := fun r q => Tells h W r q) h.s.n x (fun _ => ?_) (fun _ => ?_) (fun _ => ?_) (fun _ => ?_) (fun _ => ?_) (fun _ => ?_) (fun _ => ?_) (fun _ => ?_) (fun _ => ?_) (fun _ => ?_) (fun _ => ?_) (fun _ => ?_) (fun _ => ?_) ?_
  · refine ⟨hf.cadd, ⟨t, ?_⟩, ?_⟩
    · have := (hf.hadd hW).1.more (show W ≤ W + 1 by omega)
      rw [hf.cadd] at this
      exact this
    · unfold hAdd
      split <;> rfl
  · obtain ⟨t', h1, h2, h3⟩ := hf.rem x.n
    have e : (hRemove h x.n).1 = fWho F x.n := by
      rw [← hf.who]
      have := hWho_le (h := h) x.n
      unfold hRemove
      split
      · rfl
      · simp only; omega
    refine ⟨by rw [e], ⟨t', ?_⟩, ?_⟩
    · have := h1.more (show W ≤ W + 1 by omega)
      rw [e] at this
      exact this
    · unfold hRemove
      split
      · rfl
      · exact gClear_n _ _ _
  · obtain ⟨t', h1, h2, h3⟩ := hf.plug x.n x.a
    refine ⟨by rw [hf.cplug], ⟨t', ?_⟩, ?_⟩
    · have := h1.more (show W ≤ W + 1 by omega)
      rw [hf.cplug] at this
      exact this
    · unfold hPlug
      repeat' split
      all_goals first | rfl | exact plugs_n _ _ _ _
  · obtain ⟨t', h1, h2, h3⟩ := hf.unplug x.n x.a
    refine ⟨by rw [hf.cunplug], ⟨t', ?_⟩, ?_⟩
    · have := h1.more (show W ≤ W + 1 by omega)
      rw [hf.cunplug] at this
      exact this
    · unfold hUnplug
      repeat' split
      all_goals first | rfl | exact unplugs_n _ _ _ _
  · obtain ⟨t', h1, h2, h3⟩ := hf.give x.n x.a false
    refine ⟨by rw [hf.cgive], ⟨t', ?_⟩, ?_⟩
    · have := h1.more (show W ≤ W + 1 by omega)
      rw [hf.cgive] at this
      exact this
    · unfold hGive
      repeat' split
      all_goals first | rfl | exact give_n _ _ _ _
  · obtain ⟨t', h1, h2, h3⟩ := hf.give x.n x.a true
    refine ⟨by rw [hf.cgive], ⟨t', ?_⟩, ?_⟩
    · have := h1.more (show W ≤ W + 1 by omega)
      rw [hf.cgive] at this
      exact this
    · unfold hGive
      repeat' split
      all_goals first | rfl | exact give_n _ _ _ _
  · unfold hLoad fAct
    rw [← hf.who x.n]
    by_cases h0 : 0 < hWho h x.n
    · simp only [if_pos h0]
      exact ⟨rfl, ⟨t, hf.more (by omega)⟩, rfl⟩
    · obtain ⟨k, y, e, _, hx, hat⟩ := hWho_zero (show hWho h x.n = 0 by have := hWho_le (h := h) x.n; omega)
      obtain ⟨f, hq, _⟩ := hf.view hx
      simp only [if_neg h0, hat]
      rw [e, Int.toNat_natCast, hq, Option.getD_some]
      obtain ⟨e1, e2⟩ := hf.load hx hq x.a
      exact ⟨e1, ⟨t, e2⟩, load_n _ _ _⟩
  · exact tells_proc (q := fun f => fStore f x.a x.v) hf (fun s y => store_n s y x.a x.v) (fun k y f hx hq => hf.store hx hq x.a x.v v0 v1)
  · exact tells_proc (q := fun f => fRoot f x.a) hf (fun _ _ => rfl) (fun k y f hx hq => ⟨(hf.root hx hq x.a).1, t, (hf.root hx hq x.a).2.more (by omega)⟩)
  · exact tells_proc (q := fun f => fForget f x.a) hf (fun _ _ => rfl) (fun k y f hx hq => ⟨(hf.forget hx hq x.a).1, t, (hf.forget hx hq x.a).2.more (by omega)⟩)
  · exact tells_proc (q := fun f => fDrop f x.a) hf (fun _ _ => rfl) (fun k y f hx hq => ⟨(hf.drop hx hq x.a).1, t, (hf.drop hx hq x.a).2.more (by omega)⟩)
  · unfold cScan
    rw [← hf.who x.n]
    by_cases h0 : 0 < hWho h x.n
    · rw [hScan_wrong _ h0, if_pos h0]
      exact ⟨rfl, ⟨t, hf.more (by omega)⟩, rfl⟩
    · rw [if_neg h0]
      obtain ⟨k, y, e, hk, hx, _⟩ := hWho_zero (show hWho h x.n = 0 by have := hWho_le (h := h) x.n; omega)
      rw [e]
      cases hp : onB x.a with
      | false =>
        rw [hScan_off hx hk hp]
        exact ⟨rfl, ⟨t, hf.more (by omega)⟩, rfl⟩
      | true =>
        obtain ⟨p0, p1⟩ := (onB_iff x.a).1 hp
        obtain ⟨q, e2⟩ := Int.eq_ofNat_of_zero_le p0
        have hs := hf.scan hx (show q < 16 by omega)
        rw [e2]
        refine ⟨?_, ⟨t, hs.1.more (by omega)⟩, hs.2.2.2.2.2.2.1⟩
        simp only [if_true]
        rw [hs.2.1]
  · have h1 := (hf.scans 64 (Nat.le_refl _)).1
    have h2 := (hf.scans 64 (Nat.le_refl _)).2.2.1
    revert h1 h2
    generalize (hScanTo h 64).2 = hh
    intro h1 h2
    exact ⟨rfl, ⟨t, h1.more (by omega)⟩, h2⟩
  · exact ⟨rfl, ⟨t, hf.more (by omega)⟩, rfl⟩
end Go.Proofs.YtadpibcgjgcjhabGreatDoor
