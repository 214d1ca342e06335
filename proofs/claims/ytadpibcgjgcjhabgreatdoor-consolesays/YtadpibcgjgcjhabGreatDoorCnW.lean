/- The console's obey. -/
import Derived.Test.YtadpibcgjgcjhabGreatDoorCnV
namespace Go.Proofs.YtadpibcgjgcjhabGreatDoor
open Go.ChangeShapes Go.WideShapes Go.ChangeAt Go.RowKit
set_option maxRecDepth 100000
attribute [local go_sem ↓] Go.wp_at_zero Go.wp_at_succ
variable {W w w1 w2 w3 w' : World} {bh bp bf : Nat} {G G' : Nat → G3} {h h2 : Hs} {n k : Nat}

/-- A session's host. -/
structure PS (W w : World) (n k : Nat) (bh bp bf : Nat) (G : Nat → G3) (h : Hs) : Prop where
  m : HM w bh bp bf G h
  ok : HOk h n k
  hk : k ≤ 1000
  new : ∀ j, Own bh bp bf G h j → W.heap.size ≤ j
  up : Upd (fun _ => False) W w
  tab : Tab W
theorem PS.tab1 (s : PS W w n k bh bp bf G h) (u : Upd (fun _ => False) w w1) : Tab w1 := s.tab.upd (s.up.trans u (fun _ _ f => f))
theorem PS.up2 (s : PS W w n k bh bp bf G h) (d : PM w w2 bh bp bf G h h2) : Upd (fun _ => False) W w2 := s.up.trans d.up (fun i hi e => by have := s.new i e; omega)
theorem PS.tab2 (s : PS W w n k bh bp bf G h) (u : Upd (fun _ => False) w w1) (d : PM w1 w2 bh bp bf G h h2) : Tab w2 := s.tab.upd (s.up2 (PM.fore u d))
/-- How a command ends: what is told, its error, the host behind it. -/
def OB (w : World) (bh bp bf : Nat) (G : Nat → G3) (h : Hs) (r : List UInt8 × Hs) (E : Ending) (w' : World) : Prop :=
  ∃ t e, E = .returned (.tuple #[.string (TX t), errV e]) ∧ (0 ≤ e ∧ e ≤ 9) ∧ (if 0 < e then errT e else t) = r.1 ∧ PM w w' bh bp bf G h r.2
theorem done_eq (e : Int) : (if 0 < e then errT e else okT) = doneT e := rfl
theorem obey_remove (s : PS W w n k bh bp bf G h) (bm : Value) (a b v : Int) : Calls Tryz.prog 36 #[.agg #[.pointer (some ⟨bh, 0, none⟩), bm], .string (TX kRemove), .agg #[.int .i64 a, .int .i64 b, .int .i64 v]] w (OB w bh bp bf G h (ansL h kRemove a b v)) := by
  rw [ans_remove]
  have hkk : (TX kRemove).toList = [114, 101, 109, 111, 118, 101] := TX_toList _
  have HAC : Hid (∀ w1, Upd (fun _ => False) w w1 → _) := fun w1 u => act_remove (s.m.same u) s.ok s.hk bm a b v
  have HCD : Hid _ := HOk.code s.ok (acOf kRemove a b 0) (Int.le_refl _) (by show (0 : Int) ≤ 255; omega)
  rw [did_remove] at HCD
  have HS0 : Hid _ := s
  clear s
  go_enter Tryz.func36, Tryz.ntmps36
  go_wp2_with (go_at_call 64; refine Calls.mono (HAC.out _ (((Upd.refl _ _).alloc _).alloc _)) ?_; rintro e w2 ⟨rfl, hd2⟩)
  go_ret2
  exact ⟨okT, _, rfl, HCD.out, done_eq _, PM.fore (((Upd.refl _ _).alloc _).alloc _) hd2⟩
theorem obey_plug (s : PS W w n k bh bp bf G h) (bm : Value) (a b v : Int) : Calls Tryz.prog 36 #[.agg #[.pointer (some ⟨bh, 0, none⟩), bm], .string (TX kPlug), .agg #[.int .i64 a, .int .i64 b, .int .i64 v]] w (OB w bh bp bf G h (ansL h kPlug a b v)) := by
  rw [ans_plug]
  have hkk : (TX kPlug).toList = [112, 108, 117, 103] := TX_toList _
  have HAC : Hid (∀ w1, Upd (fun _ => False) w w1 → _) := fun w1 u => act_plug (s.m.same u) s.ok s.hk bm a b v
  have HCD : Hid _ := HOk.code s.ok (acOf kPlug a b 0) (Int.le_refl _) (by show (0 : Int) ≤ 255; omega)
  rw [did_plug] at HCD
  have HS0 : Hid _ := s
  clear s
  go_enter Tryz.func36, Tryz.ntmps36
  go_wp2_with (go_at_call 64; refine Calls.mono (HAC.out _ (((Upd.refl _ _).alloc _).alloc _)) ?_; rintro e w2 ⟨rfl, hd2⟩)
  go_ret2
  exact ⟨okT, _, rfl, HCD.out, done_eq _, PM.fore (((Upd.refl _ _).alloc _).alloc _) hd2⟩
theorem obey_unplug (s : PS W w n k bh bp bf G h) (bm : Value) (a b v : Int) : Calls Tryz.prog 36 #[.agg #[.pointer (some ⟨bh, 0, none⟩), bm], .string (TX kUnplug), .agg #[.int .i64 a, .int .i64 b, .int .i64 v]] w (OB w bh bp bf G h (ansL h kUnplug a b v)) := by
  rw [ans_unplug]
  have hkk : (TX kUnplug).toList = [117, 110, 112, 108, 117, 103] := TX_toList _
  have HAC : Hid (∀ w1, Upd (fun _ => False) w w1 → _) := fun w1 u => act_unplug (s.m.same u) s.ok s.hk bm a b v
  have HCD : Hid _ := HOk.code s.ok (acOf kUnplug a b 0) (Int.le_refl _) (by show (0 : Int) ≤ 255; omega)
  rw [did_unplug] at HCD
  have HS0 : Hid _ := s
  clear s
  go_enter Tryz.func36, Tryz.ntmps36
  go_wp2_with (go_at_call 64; refine Calls.mono (HAC.out _ (((Upd.refl _ _).alloc _).alloc _)) ?_; rintro e w2 ⟨rfl, hd2⟩)
  go_ret2
  exact ⟨okT, _, rfl, HCD.out, done_eq _, PM.fore (((Upd.refl _ _).alloc _).alloc _) hd2⟩
theorem obey_give (s : PS W w n k bh bp bf G h) (bm : Value) (a b v : Int) : Calls Tryz.prog 36 #[.agg #[.pointer (some ⟨bh, 0, none⟩), bm], .string (TX kGive), .agg #[.int .i64 a, .int .i64 b, .int .i64 v]] w (OB w bh bp bf G h (ansL h kGive a b v)) := by
  rw [ans_give]
  have hkk : (TX kGive).toList = [103, 105, 118, 101] := TX_toList _
  have HAC : Hid (∀ w1, Upd (fun _ => False) w w1 → _) := fun w1 u => act_give (s.m.same u) s.ok s.hk bm a b v
  have HCD : Hid _ := HOk.code s.ok (acOf kGive a b 0) (Int.le_refl _) (by show (0 : Int) ≤ 255; omega)
  rw [did_give] at HCD
  have HS0 : Hid _ := s
  clear s
  go_enter Tryz.func36, Tryz.ntmps36
  go_wp2_with (go_at_call 64; refine Calls.mono (HAC.out _ (((Upd.refl _ _).alloc _).alloc _)) ?_; rintro e w2 ⟨rfl, hd2⟩)
  go_ret2
  exact ⟨okT, _, rfl, HCD.out, done_eq _, PM.fore (((Upd.refl _ _).alloc _).alloc _) hd2⟩
theorem obey_back (s : PS W w n k bh bp bf G h) (bm : Value) (a b v : Int) : Calls Tryz.prog 36 #[.agg #[.pointer (some ⟨bh, 0, none⟩), bm], .string (TX kBack), .agg #[.int .i64 a, .int .i64 b, .int .i64 v]] w (OB w bh bp bf G h (ansL h kBack a b v)) := by
  rw [ans_back]
  have hkk : (TX kBack).toList = [98, 97, 99, 107] := TX_toList _
  have HAC : Hid (∀ w1, Upd (fun _ => False) w w1 → _) := fun w1 u => act_back (s.m.same u) s.ok s.hk bm a b v
  have HCD : Hid _ := HOk.code s.ok (acOf kBack a b 0) (Int.le_refl _) (by show (0 : Int) ≤ 255; omega)
  rw [did_back] at HCD
  have HS0 : Hid _ := s
  clear s
  go_enter Tryz.func36, Tryz.ntmps36
  go_wp2_with (go_at_call 64; refine Calls.mono (HAC.out _ (((Upd.refl _ _).alloc _).alloc _)) ?_; rintro e w2 ⟨rfl, hd2⟩)
  go_ret2
  exact ⟨okT, _, rfl, HCD.out, done_eq _, PM.fore (((Upd.refl _ _).alloc _).alloc _) hd2⟩
theorem obey_root (s : PS W w n k bh bp bf G h) (bm : Value) (a b v : Int) : Calls Tryz.prog 36 #[.agg #[.pointer (some ⟨bh, 0, none⟩), bm], .string (TX kRoot), .agg #[.int .i64 a, .int .i64 b, .int .i64 v]] w (OB w bh bp bf G h (ansL h kRoot a b v)) := by
  rw [ans_root]
  have hkk : (TX kRoot).toList = [114, 111, 111, 116] := TX_toList _
  have HAC : Hid (∀ w1, Upd (fun _ => False) w w1 → _) := fun w1 u => act_root (s.m.same u) s.ok s.hk bm a b v
  have HCD : Hid _ := HOk.code s.ok (acOf kRoot a b 0) (Int.le_refl _) (by show (0 : Int) ≤ 255; omega)
  rw [did_root] at HCD
  have HS0 : Hid _ := s
  clear s
  go_enter Tryz.func36, Tryz.ntmps36
  go_wp2_with (go_at_call 64; refine Calls.mono (HAC.out _ (((Upd.refl _ _).alloc _).alloc _)) ?_; rintro e w2 ⟨rfl, hd2⟩)
  go_ret2
  exact ⟨okT, _, rfl, HCD.out, done_eq _, PM.fore (((Upd.refl _ _).alloc _).alloc _) hd2⟩
theorem obey_forget (s : PS W w n k bh bp bf G h) (bm : Value) (a b v : Int) : Calls Tryz.prog 36 #[.agg #[.pointer (some ⟨bh, 0, none⟩), bm], .string (TX kForget), .agg #[.int .i64 a, .int .i64 b, .int .i64 v]] w (OB w bh bp bf G h (ansL h kForget a b v)) := by
  rw [ans_forget]
  have hkk : (TX kForget).toList = [102, 111, 114, 103, 101, 116] := TX_toList _
  have HAC : Hid (∀ w1, Upd (fun _ => False) w w1 → _) := fun w1 u => act_forget (s.m.same u) s.ok s.hk bm a b v
  have HCD : Hid _ := HOk.code s.ok (acOf kForget a b 0) (Int.le_refl _) (by show (0 : Int) ≤ 255; omega)
  rw [did_forget] at HCD
  have HS0 : Hid _ := s
  clear s
  go_enter Tryz.func36, Tryz.ntmps36
  go_wp2_with (go_at_call 64; refine Calls.mono (HAC.out _ (((Upd.refl _ _).alloc _).alloc _)) ?_; rintro e w2 ⟨rfl, hd2⟩)
  go_ret2
  exact ⟨okT, _, rfl, HCD.out, done_eq _, PM.fore (((Upd.refl _ _).alloc _).alloc _) hd2⟩
theorem obey_drop (s : PS W w n k bh bp bf G h) (bm : Value) (a b v : Int) : Calls Tryz.prog 36 #[.agg #[.pointer (some ⟨bh, 0, none⟩), bm], .string (TX kDrop), .agg #[.int .i64 a, .int .i64 b, .int .i64 v]] w (OB w bh bp bf G h (ansL h kDrop a b v)) := by
  rw [ans_drop]
  have hkk : (TX kDrop).toList = [100, 114, 111, 112] := TX_toList _
  have HAC : Hid (∀ w1, Upd (fun _ => False) w w1 → _) := fun w1 u => act_drop (s.m.same u) s.ok s.hk bm a b v
  have HCD : Hid _ := HOk.code s.ok (acOf kDrop a b 0) (Int.le_refl _) (by show (0 : Int) ≤ 255; omega)
  rw [did_drop] at HCD
  have HS0 : Hid _ := s
  clear s
  go_enter Tryz.func36, Tryz.ntmps36
  go_wp2_with (go_at_call 64; refine Calls.mono (HAC.out _ (((Upd.refl _ _).alloc _).alloc _)) ?_; rintro e w2 ⟨rfl, hd2⟩)
  go_ret2
  exact ⟨okT, _, rfl, HCD.out, done_eq _, PM.fore (((Upd.refl _ _).alloc _).alloc _) hd2⟩
theorem obey_store (s : PS W w n k bh bp bf G h) (bm : Value) (a b v : Int) : Calls Tryz.prog 36 #[.agg #[.pointer (some ⟨bh, 0, none⟩), bm], .string (TX kStore), .agg #[.int .i64 a, .int .i64 b, .int .i64 v]] w (OB w bh bp bf G h (ansL h kStore a b v)) := by
  rw [ans_store]
  have hkk : (TX kStore).toList = [115, 116, 111, 114, 101] := TX_toList _
  have HAC : Hid (∀ w1, Upd (fun _ => False) w w1 → _) := fun w1 u => act_store (s.m.same u) s.ok s.hk bm a b v
  have HCD : Hid (0 ≤ (storeE h a b v).1 ∧ (storeE h a b v).1 ≤ 9) := show _ ∧ _ by
    unfold storeE
    by_cases hv : v < 0 ∨ 255 < v
    · rw [if_pos hv]; exact ⟨show (0 : Int) ≤ 1 by decide, show (1 : Int) ≤ 9 by decide⟩
    · rw [if_neg hv]
      have := HOk.code s.ok (acOf kStore a b v) (by show 0 ≤ v; omega) (by show v ≤ 255; omega)
      rw [did_store] at this
      exact this
  have HST : Hid (storeT h a b v = (doneT (storeE h a b v).1, (storeE h a b v).2)) := show _ = _ by
    unfold storeT storeE
    by_cases hv : v < 0 ∨ 255 < v
    · rw [if_pos hv, if_pos hv]; rfl
    · rw [if_neg hv, if_neg hv]
  rw [HST.out]
  have HS0 : Hid _ := s
  clear s
  go_enter Tryz.func36, Tryz.ntmps36
  go_wp2_with (go_at_call 64; refine Calls.mono (HAC.out _ (((Upd.refl _ _).alloc _).alloc _)) ?_; rintro e w2 ⟨rfl, hd2⟩)
  go_ret2
  exact ⟨okT, _, rfl, HCD.out, done_eq _, PM.fore (((Upd.refl _ _).alloc _).alloc _) hd2⟩
end Go.Proofs.YtadpibcgjgcjhabGreatDoor
