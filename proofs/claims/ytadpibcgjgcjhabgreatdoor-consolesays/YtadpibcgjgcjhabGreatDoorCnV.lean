/- The console's act and store. -/
import Derived.Test.YtadpibcgjgcjhabGreatDoorCnU
namespace Go.Proofs.YtadpibcgjgcjhabGreatDoor
open Go.ChangeShapes Go.WideShapes Go.ChangeAt Go.RowKit
set_option maxRecDepth 100000
attribute [local go_sem ↓] Go.wp_at_zero Go.wp_at_succ
variable {W w w1 w2 w3 w' : World} {bh bp bf : Nat} {G G' : Nat → G3} {h h2 : Hs} {n k : Nat}

def storeE (h : Hs) (a b v : Int) : Int × Hs := if v < 0 ∨ 255 < v then (1, h) else hStore h a b v
theorem store_any (m : HM w bh bp bf G h) (o : HOk h n k) (hk : k ≤ 1000) (bm : Value) (a b v : Int) : Calls Tryz.prog 94 #[.agg #[.pointer (some ⟨bh, 0, none⟩), bm], .int .i64 a, .int .i64 b, .int .i64 v] w fun e w2 => e = .returned (errV (storeE h a b v).1) ∧ PM w w2 bh bp bf G h (storeE h a b v).2 := by
  by_cases hv : v < 0 ∨ 255 < v
  · have he : storeE h a b v = (1, h) := by unfold storeE; rw [if_pos hv]
    rw [he, errV_no (by omega)]
    have HM0 : Hid _ := m
    clear m
    rcases hv with hv | hv
    · have e1 : decide (v < 0) = true := by simp; exact hv
      clear he
      go_enter Tryz.func94, Tryz.ntmps94
      go_wp2_with fail
      go_ret
      exact ⟨rfl, (PM.refl HM0.out).more ((Upd.refl _ _).alloc _)⟩
    · have e1 : decide (v < 0) = false := by simp; omega
      have e2 : decide (255 < v) = true := by simp; exact hv
      clear he
      go_enter Tryz.func94, Tryz.ntmps94
      go_wp2_with fail
      go_ret
      exact ⟨rfl, (PM.refl HM0.out).more ((Upd.refl _ _).alloc _)⟩
  · have he : storeE h a b v = hStore h a b v := by unfold storeE; rw [if_neg hv]
    rw [he]
    have HAC : Hid (∀ w1, Upd (fun _ => False) w w1 → _) := fun w1 u => pm_store (m.same u) o hk a b v (by omega) (by omega)
    have e1 : decide (v < 0) = false := by simp; omega
    have e2 : decide (255 < v) = false := by simp; omega
    have hw8 : IntKind.u8.wrap v = v := by rw [IntKind.wrap_u8]; omega
    clear m he
    go_enter Tryz.func94, Tryz.ntmps94
    go_wp2_with (go_at_call 126; refine Calls.mono (HAC.out _ ((Upd.refl _ _).alloc _)) ?_; rintro e w2 ⟨rfl, hd2⟩)
    go_ret
    exact ⟨rfl, PM.fore ((Upd.refl _ _).alloc _) hd2⟩
theorem act_remove (m : HM w bh bp bf G h) (o : HOk h n k) (hk : k ≤ 1000) (bm : Value) (a b v : Int) : Calls Tryz.prog 64 #[.agg #[.pointer (some ⟨bh, 0, none⟩), bm], .string (TX kRemove), .agg #[.int .i64 a, .int .i64 b, .int .i64 v]] w fun e w2 => e = .returned (errV (hRemove h a).1) ∧ PM w w2 bh bp bf G h (hRemove h a).2 := by
  have ht : (TX kRemove).toList = [114, 101, 109, 111, 118, 101] := TX_toList _
  have HAC : Hid (∀ w1, Upd (fun _ => False) w w1 → _) := fun w1 u => pm_remove (m.same u) o hk a
  clear m
  go_enter Tryz.func64, Tryz.ntmps64
  go_wp2_with (go_at_call 89; refine Calls.mono (HAC.out _ (((Upd.refl _ _).alloc _).alloc _)) ?_; rintro e w2 ⟨rfl, hd2⟩)
  go_ret
  exact ⟨rfl, PM.fore (((Upd.refl _ _).alloc _).alloc _) hd2⟩
theorem act_plug (m : HM w bh bp bf G h) (o : HOk h n k) (hk : k ≤ 1000) (bm : Value) (a b v : Int) : Calls Tryz.prog 64 #[.agg #[.pointer (some ⟨bh, 0, none⟩), bm], .string (TX kPlug), .agg #[.int .i64 a, .int .i64 b, .int .i64 v]] w fun e w2 => e = .returned (errV (hPlug h a b).1) ∧ PM w w2 bh bp bf G h (hPlug h a b).2 := by
  have ht : (TX kPlug).toList = [112, 108, 117, 103] := TX_toList _
  have HAC : Hid (∀ w1, Upd (fun _ => False) w w1 → _) := fun w1 u => pm_plug (m.same u) o hk a b
  clear m
  go_enter Tryz.func64, Tryz.ntmps64
  go_wp2_with (go_at_call 90; refine Calls.mono (HAC.out _ (((Upd.refl _ _).alloc _).alloc _)) ?_; rintro e w2 ⟨rfl, hd2⟩)
  go_ret
  exact ⟨rfl, PM.fore (((Upd.refl _ _).alloc _).alloc _) hd2⟩
theorem act_unplug (m : HM w bh bp bf G h) (o : HOk h n k) (hk : k ≤ 1000) (bm : Value) (a b v : Int) : Calls Tryz.prog 64 #[.agg #[.pointer (some ⟨bh, 0, none⟩), bm], .string (TX kUnplug), .agg #[.int .i64 a, .int .i64 b, .int .i64 v]] w fun e w2 => e = .returned (errV (hUnplug h a b).1) ∧ PM w w2 bh bp bf G h (hUnplug h a b).2 := by
  have ht : (TX kUnplug).toList = [117, 110, 112, 108, 117, 103] := TX_toList _
  have HAC : Hid (∀ w1, Upd (fun _ => False) w w1 → _) := fun w1 u => pm_unplug (m.same u) o hk a b
  clear m
  go_enter Tryz.func64, Tryz.ntmps64
  go_wp2_with (go_at_call 91; refine Calls.mono (HAC.out _ (((Upd.refl _ _).alloc _).alloc _)) ?_; rintro e w2 ⟨rfl, hd2⟩)
  go_ret
  exact ⟨rfl, PM.fore (((Upd.refl _ _).alloc _).alloc _) hd2⟩
theorem act_give (m : HM w bh bp bf G h) (o : HOk h n k) (hk : k ≤ 1000) (bm : Value) (a b v : Int) : Calls Tryz.prog 64 #[.agg #[.pointer (some ⟨bh, 0, none⟩), bm], .string (TX kGive), .agg #[.int .i64 a, .int .i64 b, .int .i64 v]] w fun e w2 => e = .returned (errV (hGive h a b false).1) ∧ PM w w2 bh bp bf G h (hGive h a b false).2 := by
  have ht : (TX kGive).toList = [103, 105, 118, 101] := TX_toList _
  have HAC : Hid (∀ w1, Upd (fun _ => False) w w1 → _) := fun w1 u => pm_give (m.same u) o hk a b
  clear m
  go_enter Tryz.func64, Tryz.ntmps64
  go_wp2_with (go_at_call 92; refine Calls.mono (HAC.out _ (((Upd.refl _ _).alloc _).alloc _)) ?_; rintro e w2 ⟨rfl, hd2⟩)
  go_ret
  exact ⟨rfl, PM.fore (((Upd.refl _ _).alloc _).alloc _) hd2⟩
theorem act_back (m : HM w bh bp bf G h) (o : HOk h n k) (hk : k ≤ 1000) (bm : Value) (a b v : Int) : Calls Tryz.prog 64 #[.agg #[.pointer (some ⟨bh, 0, none⟩), bm], .string (TX kBack), .agg #[.int .i64 a, .int .i64 b, .int .i64 v]] w fun e w2 => e = .returned (errV (hGive h a b true).1) ∧ PM w w2 bh bp bf G h (hGive h a b true).2 := by
  have ht : (TX kBack).toList = [98, 97, 99, 107] := TX_toList _
  have HAC : Hid (∀ w1, Upd (fun _ => False) w w1 → _) := fun w1 u => pm_back (m.same u) o hk a b
  clear m
  go_enter Tryz.func64, Tryz.ntmps64
  go_wp2_with (go_at_call 93; refine Calls.mono (HAC.out _ (((Upd.refl _ _).alloc _).alloc _)) ?_; rintro e w2 ⟨rfl, hd2⟩)
  go_ret
  exact ⟨rfl, PM.fore (((Upd.refl _ _).alloc _).alloc _) hd2⟩
theorem act_root (m : HM w bh bp bf G h) (o : HOk h n k) (hk : k ≤ 1000) (bm : Value) (a b v : Int) : Calls Tryz.prog 64 #[.agg #[.pointer (some ⟨bh, 0, none⟩), bm], .string (TX kRoot), .agg #[.int .i64 a, .int .i64 b, .int .i64 v]] w fun e w2 => e = .returned (errV (hRoot h a b).1) ∧ PM w w2 bh bp bf G h (hRoot h a b).2 := by
  have ht : (TX kRoot).toList = [114, 111, 111, 116] := TX_toList _
  have HAC : Hid (∀ w1, Upd (fun _ => False) w w1 → _) := fun w1 u => pm_root (m.same u) o hk a b
  clear m
  go_enter Tryz.func64, Tryz.ntmps64
  go_wp2_with (go_at_call 95; refine Calls.mono (HAC.out _ (((Upd.refl _ _).alloc _).alloc _)) ?_; rintro e w2 ⟨rfl, hd2⟩)
  go_ret
  exact ⟨rfl, PM.fore (((Upd.refl _ _).alloc _).alloc _) hd2⟩
theorem act_forget (m : HM w bh bp bf G h) (o : HOk h n k) (hk : k ≤ 1000) (bm : Value) (a b v : Int) : Calls Tryz.prog 64 #[.agg #[.pointer (some ⟨bh, 0, none⟩), bm], .string (TX kForget), .agg #[.int .i64 a, .int .i64 b, .int .i64 v]] w fun e w2 => e = .returned (errV (hForget h a b).1) ∧ PM w w2 bh bp bf G h (hForget h a b).2 := by
  have ht : (TX kForget).toList = [102, 111, 114, 103, 101, 116] := TX_toList _
  have HAC : Hid (∀ w1, Upd (fun _ => False) w w1 → _) := fun w1 u => pm_forget (m.same u) o hk a b
  clear m
  go_enter Tryz.func64, Tryz.ntmps64
  go_wp2_with (go_at_call 96; refine Calls.mono (HAC.out _ (((Upd.refl _ _).alloc _).alloc _)) ?_; rintro e w2 ⟨rfl, hd2⟩)
  go_ret
  exact ⟨rfl, PM.fore (((Upd.refl _ _).alloc _).alloc _) hd2⟩
theorem act_drop (m : HM w bh bp bf G h) (o : HOk h n k) (hk : k ≤ 1000) (bm : Value) (a b v : Int) : Calls Tryz.prog 64 #[.agg #[.pointer (some ⟨bh, 0, none⟩), bm], .string (TX kDrop), .agg #[.int .i64 a, .int .i64 b, .int .i64 v]] w fun e w2 => e = .returned (errV (hDrop h a b).1) ∧ PM w w2 bh bp bf G h (hDrop h a b).2 := by
  have ht : (TX kDrop).toList = [100, 114, 111, 112] := TX_toList _
  have HAC : Hid (∀ w1, Upd (fun _ => False) w w1 → _) := fun w1 u => pm_drop (m.same u) o hk a b
  clear m
  go_enter Tryz.func64, Tryz.ntmps64
  go_wp2_with (go_at_call 97; refine Calls.mono (HAC.out _ (((Upd.refl _ _).alloc _).alloc _)) ?_; rintro e w2 ⟨rfl, hd2⟩)
  go_ret
  exact ⟨rfl, PM.fore (((Upd.refl _ _).alloc _).alloc _) hd2⟩
theorem act_store (m : HM w bh bp bf G h) (o : HOk h n k) (hk : k ≤ 1000) (bm : Value) (a b v : Int) : Calls Tryz.prog 64 #[.agg #[.pointer (some ⟨bh, 0, none⟩), bm], .string (TX kStore), .agg #[.int .i64 a, .int .i64 b, .int .i64 v]] w fun e w2 => e = .returned (errV (storeE h a b v).1) ∧ PM w w2 bh bp bf G h (storeE h a b v).2 := by
  have ht : (TX kStore).toList = [115, 116, 111, 114, 101] := TX_toList _
  have HAC : Hid (∀ w1, Upd (fun _ => False) w w1 → _) := fun w1 u => store_any (m.same u) o hk bm a b v
  clear m
  go_enter Tryz.func64, Tryz.ntmps64
  go_wp2_with (go_at_call 94; refine Calls.mono (HAC.out _ (((Upd.refl _ _).alloc _).alloc _)) ?_; rintro e w2 ⟨rfl, hd2⟩)
  go_ret
  exact ⟨rfl, PM.fore (((Upd.refl _ _).alloc _).alloc _) hd2⟩
end Go.Proofs.YtadpibcgjgcjhabGreatDoor
