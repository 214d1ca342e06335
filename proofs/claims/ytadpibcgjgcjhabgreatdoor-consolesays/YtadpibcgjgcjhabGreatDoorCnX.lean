/- The console's obey, what is told. -/
import Derived.Test.YtadpibcgjgcjhabGreatDoorCnW
namespace Go.Proofs.YtadpibcgjgcjhabGreatDoor
open Go.ChangeShapes Go.WideShapes Go.ChangeAt Go.RowKit
set_option maxRecDepth 100000
attribute [local go_sem ↓] Go.wp_at_zero Go.wp_at_succ
variable {W w w1 w2 w3 w' : World} {bh bp bf : Nat} {G G' : Nat → G3} {h h2 : Hs} {n k : Nat}

theorem obey_add (s : PS W w n k bh bp bf G h) (bm : Value) (a b v : Int) : Calls Tryz.prog 36 #[.agg #[.pointer (some ⟨bh, 0, none⟩), bm], .string (TX kAdd), .agg #[.int .i64 a, .int .i64 b, .int .i64 v]] w (OB w bh bp bf G h (ansL h kAdd a b v)) := by
  rw [ans_add]
  have hkk : (TX kAdd).toList = [97, 100, 100] := TX_toList _
  have HAC : Hid (∀ w1, Upd (fun _ => False) w w1 → _) := fun w1 u => pm_add (s.m.same u)
  have HCD : Hid _ := HOk.code s.ok (acOf kAdd 0 0 0) (Int.le_refl _) (by show (0 : Int) ≤ 255; omega)
  rw [did_add] at HCD
  have HCO : Hid _ := fun w (ht : Tab w) => counted_int w ht (hAdd h).1.1 (add_le h).1 (by have := (add_le h).2; omega) (hAdd h).1.2
  have HS0 : Hid _ := s
  clear s
  go_enter Tryz.func36, Tryz.ntmps36
  go_wp2_with (first
    | (go_at_call 53; refine Calls.mono (HAC.out _ (((Upd.refl _ _).alloc _).alloc _)) ?_; rintro e w2 ⟨rfl, hd2⟩; have ht2 := HS0.out.tab2 (((Upd.refl _ _).alloc _).alloc _) hd2)
    | (go_at_call 52; refine Calls.mono (HCO.out _ ht2) ?_; rintro e w3 ⟨rfl, hu3⟩))
  go_ret2
  exact ⟨_, _, rfl, HCD.out, rfl, (PM.fore (((Upd.refl _ _).alloc _).alloc _) hd2).more hu3⟩
theorem obey_load (s : PS W w n k bh bp bf G h) (bm : Value) (a b v : Int) : Calls Tryz.prog 36 #[.agg #[.pointer (some ⟨bh, 0, none⟩), bm], .string (TX kLoad), .agg #[.int .i64 a, .int .i64 b, .int .i64 v]] w (OB w bh bp bf G h (ansL h kLoad a b v)) := by
  rw [ans_load]
  have hkk : (TX kLoad).toList = [108, 111, 97, 100] := TX_toList _
  have HAC : Hid (∀ w1, Upd (fun _ => False) w w1 → _) := fun w1 u => pm_load (s.m.same u) s.ok s.hk a b
  have HCD : Hid _ := HOk.code s.ok (acOf kLoad a b 0) (Int.le_refl _) (by show (0 : Int) ≤ 255; omega)
  rw [did_load] at HCD
  have HCO : Hid _ := fun w (ht : Tab w) => counted_byte w ht (hLoad h a b).1.1 (HOk.byte s.ok a b).1 (HOk.byte s.ok a b).2 (hLoad h a b).1.2
  have HS0 : Hid _ := s
  clear s
  go_enter Tryz.func36, Tryz.ntmps36
  go_wp2_with (first
    | (go_at_call 55; refine Calls.mono (HAC.out _ (((Upd.refl _ _).alloc _).alloc _)) ?_; rintro e w2 ⟨rfl, hd2⟩; have ht2 := HS0.out.tab2 (((Upd.refl _ _).alloc _).alloc _) hd2)
    | (go_at_call 54; refine Calls.mono (HCO.out _ ht2) ?_; rintro e w3 ⟨rfl, hu3⟩))
  go_ret2
  exact ⟨_, _, rfl, HCD.out, rfl, (PM.fore (((Upd.refl _ _).alloc _).alloc _) hd2).more hu3⟩
theorem obey_scanall (s : PS W w n k bh bp bf G h) (bm : Value) (a b v : Int) : Calls Tryz.prog 36 #[.agg #[.pointer (some ⟨bh, 0, none⟩), bm], .string (TX kScanall), .agg #[.int .i64 a, .int .i64 b, .int .i64 v]] w (OB w bh bp bf G h (ansL h kScanall a b v)) := by
  rw [ans_scanall]
  have hkk : (TX kScanall).toList = [115, 99, 97, 110, 97, 108, 108] := TX_toList _
  have HAC : Hid (∀ w1, Upd (fun _ => False) w w1 → _) := fun w1 u => pm_scanall (s.m.same u) s.ok
  have HB : Hid _ := scanTo_le h 64
  have HCO : Hid _ := fun w (ht : Tab w) => told_one w ht (hScanTo h 64).1 HB.out.1 (by have := HB.out.2; omega)
  have HS0 : Hid _ := s
  clear s
  go_enter Tryz.func36, Tryz.ntmps36
  go_wp2_with (first
    | (go_at_call 56; refine Calls.mono (HAC.out _ (((Upd.refl _ _).alloc _).alloc _)) ?_; rintro e w2 ⟨rfl, hd2⟩; have ht2 := HS0.out.tab2 (((Upd.refl _ _).alloc _).alloc _) hd2)
    | (go_at_call 51; refine Calls.mono (HCO.out _ ht2) ?_; rintro e w3 ⟨rfl, hu3⟩))
  go_ret2
  exact ⟨_, 0, rfl, ⟨Int.le_refl _, by decide⟩, rfl, (PM.fore (((Upd.refl _ _).alloc _).alloc _) hd2).more hu3⟩
theorem left_le2 (m : HM w bh bp bf G h) : 0 ≤ (h.s.left : Int) ∧ (h.s.left : Int) ≤ 64 := by
  have := freeTo_le h.s.refs h.s.n
  have := m.pool.le
  unfold Pl.left
  omega
theorem obey_left (s : PS W w n k bh bp bf G h) (bm : Value) (a b v : Int) : Calls Tryz.prog 36 #[.agg #[.pointer (some ⟨bh, 0, none⟩), bm], .string (TX kLeft), .agg #[.int .i64 a, .int .i64 b, .int .i64 v]] w (OB w bh bp bf G h (ansL h kLeft a b v)) := by
  rw [ans_left]
  have hkk : (TX kLeft).toList = [108, 101, 102, 116] := TX_toList _
  have HAC : Hid (∀ w1, Upd (fun _ => False) w w1 → _) := fun w1 u => pm_left (s.m.same u)
  have HB : Hid _ := left_le2 s.m
  have HCO : Hid _ := fun w (ht : Tab w) => told_one w ht (h.s.left : Int) HB.out.1 (by have := HB.out.2; omega)
  have HS0 : Hid _ := s
  clear s
  go_enter Tryz.func36, Tryz.ntmps36
  go_wp2_with (first
    | (go_at_call 57; refine Calls.mono (HAC.out _ (((Upd.refl _ _).alloc _).alloc _)) ?_; rintro e w2 ⟨rfl, hd2⟩; have ht2 := HS0.out.tab2 (((Upd.refl _ _).alloc _).alloc _) hd2)
    | (go_at_call 51; refine Calls.mono (HCO.out _ ht2) ?_; rintro e w3 ⟨rfl, hu3⟩))
  go_ret2
  exact ⟨_, 0, rfl, ⟨Int.le_refl _, by decide⟩, rfl, (PM.fore (((Upd.refl _ _).alloc _).alloc _) hd2).more hu3⟩
theorem obey_promised (s : PS W w n k bh bp bf G h) (bm : Value) (a b v : Int) : Calls Tryz.prog 36 #[.agg #[.pointer (some ⟨bh, 0, none⟩), bm], .string (TX kPromised), .agg #[.int .i64 a, .int .i64 b, .int .i64 v]] w (OB w bh bp bf G h (ansL h kPromised a b v)) := by
  rw [ans_promised]
  have hkk : (TX kPromised).toList = [112, 114, 111, 109, 105, 115, 101, 100] := TX_toList _
  have HAC : Hid (∀ w1, Upd (fun _ => False) w w1 → _) := fun w1 u => pm_promised (s.m.same u) s.ok
  have HB : Hid _ := prom_le h
  have HCO : Hid _ := fun w (ht : Tab w) => told_one w ht ((pln (rowS h) 64 : Nat) : Int) HB.out.1 (by have := HB.out.2; omega)
  have HS0 : Hid _ := s
  clear s
  go_enter Tryz.func36, Tryz.ntmps36
  go_wp2_with (first
    | (go_at_call 58; refine Calls.mono (HAC.out _ (((Upd.refl _ _).alloc _).alloc _)) ?_; rintro e w2 ⟨rfl, hd2⟩; have ht2 := HS0.out.tab2 (((Upd.refl _ _).alloc _).alloc _) hd2)
    | (go_at_call 51; refine Calls.mono (HCO.out _ ht2) ?_; rintro e w3 ⟨rfl, hu3⟩))
  go_ret2
  exact ⟨_, 0, rfl, ⟨Int.le_refl _, by decide⟩, rfl, (PM.fore (((Upd.refl _ _).alloc _).alloc _) hd2).more hu3⟩
theorem bool_eq (b : Bool) (e : Int) : (if 0 < e then errT e else Lib.formatBool b) = boolT b e := by
  cases b <;> rfl
theorem obey_scan (s : PS W w n k bh bp bf G h) (bm : Value) (a b v : Int) : Calls Tryz.prog 36 #[.agg #[.pointer (some ⟨bh, 0, none⟩), bm], .string (TX kScan), .agg #[.int .i64 a, .int .i64 b, .int .i64 v]] w (OB w bh bp bf G h (ansL h kScan a b v)) := by
  rw [ans_scan]
  have hkk : (TX kScan).toList = [115, 99, 97, 110] := TX_toList _
  have HAC : Hid (∀ w1, Upd (fun _ => False) w w1 → _) := fun w1 u => pm_scan (s.m.same u) s.ok a b
  have HCD : Hid _ := HOk.code s.ok (acOf kScan a b 0) (Int.le_refl _) (by show (0 : Int) ≤ 255; omega)
  rw [did_scan] at HCD
  have HCO : Hid _ := fun w => Tryz.strconv_FormatBool (hScan h a b).1.1 w
  have HS0 : Hid _ := s
  clear s
  go_enter Tryz.func36, Tryz.ntmps36
  go_wp2_with (first
    | (go_at_call 59; refine Calls.mono (HAC.out _ (((Upd.refl _ _).alloc _).alloc _)) ?_; rintro e w2 ⟨rfl, hd2⟩)
    | (go_at_call 60; refine Calls.mono (HCO.out _) ?_; rintro e w3 ⟨rfl, hw3⟩; subst hw3))
  go_ret2
  exact ⟨_, _, rfl, HCD.out, bool_eq _ _, PM.fore (((Upd.refl _ _).alloc _).alloc _) hd2⟩
end Go.Proofs.YtadpibcgjgcjhabGreatDoor
