/- Acts of a line, numbers that are told: how great they are. -/
import Derived.Test.YtadpibcgjgcjhabGreatDoorCnB
import Derived.Test.YtadpibcgjgcjhabGreatDoorCnJ
import Derived.Test.YtadpibcgjgcjhabGreatDoorHqB
namespace Go.Proofs.YtadpibcgjgcjhabGreatDoor
open Go.ChangeShapes Go.WideShapes Go.ChangeAt Go.RowKit
set_option maxRecDepth 100000
variable {h : Hs} {t : Nat → Nat → Int} {F : Nat → Option Fl} {k : Nat}

def acOf (c : List UInt8) (a b v : Int) : Ac := ⟨TX c, a, b, 0, v, false⟩
theorem did_add (h : Hs) (a b v : Int) : hDid h (acOf kAdd a b v) = hAdd h := by
  have e : (acOf kAdd a b v).kind.toList = [97, 100, 100] := TX_toList _
  unfold hDid
  rw [e]
  rfl
theorem did_remove (h : Hs) (a b v : Int) : hDid h (acOf kRemove a b v) = ((0, (hRemove h a).1), (hRemove h a).2) := by
  have e : (acOf kRemove a b v).kind.toList = [114, 101, 109, 111, 118, 101] := TX_toList _
  unfold hDid
  rw [e]
  rfl
theorem did_plug (h : Hs) (a b v : Int) : hDid h (acOf kPlug a b v) = ((0, (hPlug h a b).1), (hPlug h a b).2) := by
  have e : (acOf kPlug a b v).kind.toList = [112, 108, 117, 103] := TX_toList _
  unfold hDid
  rw [e]
  rfl
theorem did_unplug (h : Hs) (a b v : Int) : hDid h (acOf kUnplug a b v) = ((0, (hUnplug h a b).1), (hUnplug h a b).2) := by
  have e : (acOf kUnplug a b v).kind.toList = [117, 110, 112, 108, 117, 103] := TX_toList _
  unfold hDid
  rw [e]
  rfl
theorem did_give (h : Hs) (a b v : Int) : hDid h (acOf kGive a b v) = ((0, (hGive h a b false).1), (hGive h a b false).2) := by
  have e : (acOf kGive a b v).kind.toList = [103, 105, 118, 101] := TX_toList _
  unfold hDid
  rw [e]
  rfl
theorem did_back (h : Hs) (a b v : Int) : hDid h (acOf kBack a b v) = ((0, (hGive h a b true).1), (hGive h a b true).2) := by
  have e : (acOf kBack a b v).kind.toList = [98, 97, 99, 107] := TX_toList _
  unfold hDid
  rw [e]
  rfl
theorem did_load (h : Hs) (a b v : Int) : hDid h (acOf kLoad a b v) = hLoad h a b := by
  have e : (acOf kLoad a b v).kind.toList = [108, 111, 97, 100] := TX_toList _
  unfold hDid
  rw [e]
  rfl
theorem did_store (h : Hs) (a b v : Int) : hDid h (acOf kStore a b v) = ((0, (hStore h a b v).1), (hStore h a b v).2) := by
  have e : (acOf kStore a b v).kind.toList = [115, 116, 111, 114, 101] := TX_toList _
  unfold hDid
  rw [e]
  rfl
theorem did_root (h : Hs) (a b v : Int) : hDid h (acOf kRoot a b v) = ((0, (hRoot h a b).1), (hRoot h a b).2) := by
  have e : (acOf kRoot a b v).kind.toList = [114, 111, 111, 116] := TX_toList _
  unfold hDid
  rw [e]
  rfl
theorem did_forget (h : Hs) (a b v : Int) : hDid h (acOf kForget a b v) = ((0, (hForget h a b).1), (hForget h a b).2) := by
  have e : (acOf kForget a b v).kind.toList = [102, 111, 114, 103, 101, 116] := TX_toList _
  unfold hDid
  rw [e]
  rfl
theorem did_drop (h : Hs) (a b v : Int) : hDid h (acOf kDrop a b v) = ((0, (hDrop h a b).1), (hDrop h a b).2) := by
  have e : (acOf kDrop a b v).kind.toList = [100, 114, 111, 112] := TX_toList _
  unfold hDid
  rw [e]
  rfl
theorem did_scan (h : Hs) (a b v : Int) : hDid h (acOf kScan a b v) = ((0, (hScan h a b).1.2), (hScan h a b).2) := by
  have e : (acOf kScan a b v).kind.toList = [115, 99, 97, 110] := TX_toList _
  unfold hDid
  rw [e]
  rfl
theorem did_scanall (h : Hs) (a b v : Int) : hDid h (acOf kScanall a b v) = ((0, 0), (hScanTo h 64).2) := by
  have e : (acOf kScanall a b v).kind.toList = [115, 99, 97, 110, 97, 108, 108] := TX_toList _
  unfold hDid
  rw [e]
  rfl
theorem fWho_le (F : Nat → Option Fl) (n : Int) : fWho F n ≤ 2 := by
  unfold fWho
  split
  · omega
  · split <;> omega
theorem pgCode_top (z : Int) : pgCode z ≤ 6 := by unfold pgCode; split; omega; split <;> omega
theorem fStep_le (f : Fl) (x : En) (fd wt : Bool) : (fStep f x fd wt).1.2 ≤ 6 := by
  unfold fStep
  split
  · simp
  · split
    · exact pgCode_top _
    · simp
theorem fAt_le (f : Fl) (addr : Int) (wt : Bool) : (fAt f addr wt).1.2 ≤ 6 := by
  unfold fAt
  split
  · simp
  · split
    · exact pgCode_top _
    · split
      · exact fStep_le _ _ _ _
      · split
        · exact pgCode_top _
        · split
          · simp
          · exact fStep_le _ _ _ _
theorem fAct_le {F : Nat → Option Fl} {n : Int} {r : Fl → (Int × Int) × Fl} (h : ∀ f, (r f).1.2 ≤ 9) : (fAct F n r).1.2 ≤ 9 := by
  unfold fAct
  split
  · have := fWho_le F n; simp only; omega
  · exact h _
theorem fDid_le (F : Nat → Option Fl) (N : Nat) (x : Ac) : (fDid F N x).1.2 ≤ 9 := by
  have hw := fWho_le F x.n
  refine did_cases (h := hs0 0) (P := fun _ q => q.1.2 ≤ 9) N x (fun _ => ?_) (fun _ => ?_) (fun _ => ?_) (fun _ => ?_) (fun _ => ?_) (fun _ => ?_) (fun _ => ?_) (fun _ => ?_) (fun _ => ?_) (fun _ => ?_) (fun _ => ?_) (fun _ => ?_) (fun _ => ?_) ?_
  · unfold cAdd; split; simp; split; simp; split; simp; split <;> simp
  · simp only; omega
  · simp only; unfold cPlug; split; omega; split; omega; split; omega; split <;> omega
  · simp only; unfold cUnplug; split; omega; split; omega; split <;> omega
  · simp only; unfold cGive; split; omega; split; split; split; split; omega; omega; omega; split; omega; omega; omega
  · simp only; unfold cGive; split; omega; split; split; split; split; omega; omega; omega; split; omega; omega; omega
  · refine fAct_le fun f => ?_
    unfold fLoad
    split
    · have := fAt_le f x.a false; simp only; omega
    · simp
  · refine fAct_le fun f => ?_
    simp only
    unfold fStore
    split
    · have := fAt_le f x.a true; simp only; omega
    · simp
  · refine fAct_le fun f => ?_
    simp only
    unfold fRoot
    split <;> simp
  · refine fAct_le fun f => ?_
    simp only
    unfold fForget
    split <;> simp
  · refine fAct_le fun f => ?_
    simp only
    unfold fDrop
    split <;> simp
  · simp only; unfold cScan; split; omega; split <;> omega
  · simp
  · simp
/-- A host that may be. -/
def HOk (h : Hs) (n k : Nat) : Prop := (∃ t F, HF h t F (k : Int)) ∧ h.s.n = n
variable {n : Nat}
theorem HOk.code (o : HOk h n k) (x : Ac) (v0 : 0 ≤ x.v) (v1 : x.v ≤ 255) : 0 ≤ (hDid h x).1.2 ∧ (hDid h x).1.2 ≤ 9 := by
  obtain ⟨⟨t, F, hf⟩, _⟩ := o
  refine ⟨hDid_code hf x (by omega), ?_⟩
  rw [(hf.tells (by omega) x v0 v1).ans]
  exact fDid_le _ _ _
theorem HOk.next (o : HOk h n k) (x : Ac) (v0 : 0 ≤ x.v) (v1 : x.v ≤ 255) : HOk (hDid h x).2 n (k + 1) := by
  obtain ⟨⟨t, F, hf⟩, hn⟩ := o
  obtain ⟨t', h2⟩ := (hf.tells (by omega) x v0 v1).hf
  exact ⟨⟨t', _, h2⟩, by rw [(hf.tells (by omega) x v0 v1).n]; exact hn⟩
theorem HOk.more (o : HOk h n k) : HOk h n (k + 1) := by
  obtain ⟨⟨t, F, hf⟩, hn⟩ := o
  exact ⟨⟨t, F, hf.more (by omega)⟩, hn⟩
theorem HOk.start (n : Nat) : HOk (hs0 n) n 0 := ⟨⟨_, _, HF.start n⟩, rfl⟩
theorem HOk.inv (o : HOk h n k) : HInv h (k : Int) := by
  obtain ⟨⟨t, F, hf⟩, _⟩ := o
  exact hf.hr.inv
theorem who_code (h : Hs) (n : Int) : 0 ≤ hWho h n ∧ hWho h n ≤ 2 := by
  unfold hWho
  split
  · omega
  · split <;> omega
/-- What is loaded is a byte. -/
theorem HOk.byte (o : HOk h n k) (a b : Int) : 0 ≤ (hLoad h a b).1.1 ∧ (hLoad h a b).1.1 ≤ 255 := by
  have o2 := (o.next (acOf kLoad a b 0) (Int.le_refl _) (by show (0 : Int) ≤ 255; omega)).inv.byt
  rw [did_load] at o2
  unfold hLoad at o2 ⊢
  split
  · simp
  · next h0 =>
    rw [if_neg h0] at o2
    unfold gLoad at o2 ⊢
    split
    · simp
    · next h1 =>
      rw [if_neg h1] at o2
      exact o2 _ _
theorem stR_le {m : Mp} (h : Pgs m) (p : Int) : 0 ≤ (stR m p).1 ∧ (stR m p).1 ≤ 2 ∧ 0 ≤ (stR m p).2 ∧ (stR m p).2 ≤ 9 := by
  unfold stR
  split
  · next hp =>
    have := (onB_iff p).1 hp
    have := (h p.toNat (by omega)).1
    simp only
    omega
  · simp
theorem HOk.state (o : HOk h n k) (a b : Int) : 0 ≤ (hState h a b).1 ∧ (hState h a b).1 ≤ 2 ∧ 0 ≤ (hState h a b).2 ∧ (hState h a b).2 ≤ 9 := by
  have hw := who_code h a
  unfold hState
  split
  · simp only; omega
  · next h0 =>
    obtain ⟨i, x, rfl, hi, hx, hat⟩ := hWho_zero (show hWho h a = 0 by omega)
    rw [hat]
    exact stR_le (o.inv.gi i x hx).2.pg b
theorem HOk.refs (o : HOk h n k) (f : Int) : 0 ≤ (h.s.of f).1 ∧ (h.s.of f).1 ≤ 2 ∧ 0 ≤ (h.s.of f).2.1 ∧ (h.s.of f).2.1 ≤ 64 ∧ 0 ≤ (h.s.of f).2.2 ∧ (h.s.of f).2.2 ≤ 9 := by
  unfold Pl.of
  split
  · next hf =>
    have h1 := o.inv.cn.cnt f.toNat (by omega)
    have h2 := cntTo_le (rowL h) f.toNat 64
    have hc : 0 ≤ classOf (h.s.refs f.toNat) ∧ classOf (h.s.refs f.toNat) ≤ 2 := by unfold classOf; split; omega; split <;> omega
    simp only
    omega
  · simp
theorem scanTo_le (h : Hs) : ∀ K : Nat, 0 ≤ (hScanTo h K).1 ∧ (hScanTo h K).1 ≤ (K : Int)
  | 0 => by simp [hScanTo]
  | K + 1 => by
    have := scanTo_le h K
    simp only [hScanTo]
    split <;> omega
theorem HOk.ans (o : HOk h n k) (c : List UInt8) (a b v : Int) : HOk (ansL h c a b v).2 n (k + 1) := by
  have z0 : ∀ c a b, 0 ≤ (acOf c a b 0).v ∧ (acOf c a b 0).v ≤ 255 := fun _ _ _ => ⟨Int.le_refl _, by show (0 : Int) ≤ 255; omega⟩
  have st : ∀ c a b (r : (Int × Int) × Hs), hDid h (acOf c a b 0) = r → HOk r.2 n (k + 1) := fun c a b r e => by
    subst e
    exact o.next _ (z0 c a b).1 (z0 c a b).2
  unfold ansL
  by_cases eAdd : c = kAdd
  · rw [if_pos eAdd]; exact st kAdd a b _ (did_add h a b 0)
  rw [if_neg eAdd]
  by_cases eScanall : c = kScanall
  · rw [if_pos eScanall]; exact st kScanall a b _ (did_scanall h a b 0)
  rw [if_neg eScanall]
  by_cases eLeft : c = kLeft
  · rw [if_pos eLeft]; exact o.more
  rw [if_neg eLeft]
  by_cases ePromised : c = kPromised
  · rw [if_pos ePromised]; exact o.more
  rw [if_neg ePromised]
  by_cases eGuests : c = kGuests
  · rw [if_pos eGuests]; exact o.more
  rw [if_neg eGuests]
  by_cases eRemove : c = kRemove
  · rw [if_pos eRemove]; exact st kRemove a b _ (did_remove h a b 0)
  rw [if_neg eRemove]
  by_cases eFrame : c = kFrame
  · rw [if_pos eFrame]; exact o.more
  rw [if_neg eFrame]
  by_cases ePlug : c = kPlug
  · rw [if_pos ePlug]; exact st kPlug a b _ (did_plug h a b 0)
  rw [if_neg ePlug]
  by_cases eUnplug : c = kUnplug
  · rw [if_pos eUnplug]; exact st kUnplug a b _ (did_unplug h a b 0)
  rw [if_neg eUnplug]
  by_cases eGive : c = kGive
  · rw [if_pos eGive]; exact st kGive a b _ (did_give h a b 0)
  rw [if_neg eGive]
  by_cases eBack : c = kBack
  · rw [if_pos eBack]; exact st kBack a b _ (did_back h a b 0)
  rw [if_neg eBack]
  by_cases eLoad : c = kLoad
  · rw [if_pos eLoad]; exact st kLoad a b _ (did_load h a b 0)
  rw [if_neg eLoad]
  by_cases eRoot : c = kRoot
  · rw [if_pos eRoot]; exact st kRoot a b _ (did_root h a b 0)
  rw [if_neg eRoot]
  by_cases eForget : c = kForget
  · rw [if_pos eForget]; exact st kForget a b _ (did_forget h a b 0)
  rw [if_neg eForget]
  by_cases eDrop : c = kDrop
  · rw [if_pos eDrop]; exact st kDrop a b _ (did_drop h a b 0)
  rw [if_neg eDrop]
  by_cases eScan : c = kScan
  · rw [if_pos eScan]; exact st kScan a b _ (did_scan h a b 0)
  rw [if_neg eScan]
  by_cases ePage : c = kPage
  · rw [if_pos ePage]; exact o.more
  rw [if_neg ePage]
  by_cases eStore : c = kStore
  · rw [if_pos eStore]
    by_cases hv : v < 0 ∨ 255 < v
    · rw [if_pos hv]; exact o.more
    · rw [if_neg hv]
      have := o.next (acOf kStore a b v) (by show 0 ≤ v; omega) (by show v ≤ 255; omega)
      rw [did_store] at this
      exact this
  rw [if_neg eStore]
  exact o.more
theorem HOk.say (o : HOk h n k) (l : List UInt8) : HOk (sayL h l).2 n (k + 1) := by
  unfold sayL
  split
  · exact o.ans _ _ _ _
  · exact o.more
end Go.Proofs.YtadpibcgjgcjhabGreatDoor
