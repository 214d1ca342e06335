/- The document's texts: numbers and words. -/
import Derived.Test.YtadpibcgjgcjhabGreatDoorCnA
import Derived.Test.YtadpibcgjgcjhabGreatDoorModel
import Derived.Laws.BytesArg
namespace Go.Proofs.YtadpibcgjgcjhabGreatDoor
open Go.ChangeShapes Go.WideShapes Go.ChangeAt Go.RowKit
set_option maxRecDepth 100000
attribute [local go_sem ↓] Go.wp_at_zero Go.wp_at_succ
variable {w w' : World}

/-- A text. -/
def TX (l : List UInt8) : ByteArray := ⟨l.toArray⟩
theorem TX_size (l : List UInt8) : (TX l).size = l.length := by simp [TX, ByteArray.size]
theorem TX_append (a b : List UInt8) : TX a ++ TX b = TX (a ++ b) := ByteArray.mk_append_mk a b
theorem TX_toList (l : List UInt8) : (TX l).toList = l := by rw [ByteArray.toList_eq]; simp [TX]
theorem TX_of (s : ByteArray) : TX s.data.toList = s := rfl
theorem numT_len : ∀ (k n : Nat), n < k → (numT n).length ≤ k
  | 0, _, h => absurd h (Nat.not_lt_zero _)
  | k + 1, n, h => by
    rw [numT_eq, Int.toNat_natCast, dec_unfold]
    split
    · simp
    · have := numT_len k (n / 10) (by omega)
      rw [numT_eq, Int.toNat_natCast] at this
      simp only [List.length_append, List.length_singleton]
      omega
theorem one_byte (w : World) (x : Int) : (convert 100 9 (.slice (some ⟨w.heap.size, 0, none⟩) 1 1)).run Tryz.prog (w.alloc (.cells #[.int .u8 x] 5)) = .ok (.string ⟨#[UInt8.ofNat x.toNat]⟩) (w.alloc (.cells #[.int .u8 x] 5)) := by
  have := run_convert_bytes_arg (P := Tryz.prog) (w.alloc (.cells #[.int .u8 x] 5)) 100 5 Tryz.underlying100 Tryz.underlying5 w.heap.size 0 1 1 [x] rfl (fun i hi => by
    have : i = 0 := by omega
    subst this
    rw [World.cell?_alloc_new]
    rfl) 9 Tryz.underlying9
  rw [this]
  simp [strOfNums]
theorem one_byteU {w W1 w2 : World} {x : Int} (u : Upd (fun _ => False) W1 w2) (h : W1.heap = (w.alloc (.cells #[.int .u8 x] 5)).heap) : (convert 100 9 (.slice (some ⟨w.heap.size, 0, none⟩) 1 1)).run Tryz.prog w2 = .ok (.string ⟨#[UInt8.ofNat x.toNat]⟩) w2 := by
  have hc : W1.cell? ⟨w.heap.size, 0, none⟩ = some (.int .u8 x) := by
    rw [World.cell?_of_block (w := w.alloc (.cells #[.int .u8 x] 5)) (by rw [h]), World.cell?_alloc_new]
    rfl
  have := run_convert_bytes_arg (P := Tryz.prog) w2 100 5 Tryz.underlying100 Tryz.underlying5 w.heap.size 0 1 1 [x] rfl (fun i hi => by
    have : i = 0 := by omega
    subst this
    exact u.cell hc (fun f => f)) 9 Tryz.underlying9
  rw [this]
  simp [strOfNums]
theorem numT_small {n : Nat} (hn : n < 10) : numT n = [UInt8.ofNat (48 + n)] := by
  rw [numT_eq, Int.toNat_natCast, dec_unfold, if_pos hn]
theorem numT_more {n : Nat} (hn : ¬ n < 10) : numT n = numT ((n / 10 : Nat) : Int) ++ [UInt8.ofNat (48 + n % 10)] := by
  rw [numT_eq, numT_eq, Int.toNat_natCast, Int.toNat_natCast, dec_unfold, if_neg hn]
theorem decimal_small (w : World) (n : Nat) (hn : n < 10) : Calls Tryz.prog 18 #[.int .i64 (n : Int)] w fun e w' => e = .returned (.string (TX (numT n))) ∧ Upd (fun _ => False) w w' := by
  have h1 := fun x => one_byte w x
  go_enter Tryz.func18, Tryz.ntmps18
  go_wp2_with fail
  go_ret
  exact ⟨by rw [numT_small hn]; rfl, (Upd.refl _ _).alloc _⟩
theorem decimal_any : ∀ (k n : Nat) (w : World), n < k → n ≤ 1000000 → Calls Tryz.prog 18 #[.int .i64 (n : Int)] w fun e w' => e = .returned (.string (TX (numT n))) ∧ Upd (fun _ => False) w w'
  | 0, _, _, h, _ => absurd h (Nat.not_lt_zero _)
  | k + 1, n, w, h, hl => by
    by_cases hn : n < 10
    · exact decimal_small w n hn
    · have IH : Hid (∀ w, Calls Tryz.prog 18 #[.int .i64 ((n : Int) / 10)] w _) := fun w => decimal_any k (n / 10) w (by omega) (by omega)
      have hw : IntKind.i64.wrap ((n : Int) / 10) = (n : Int) / 10 := by rw [IntKind.wrap_i64]; omega
      have hm : (n : Int).tmod 10 = (n : Int) % 10 := Int.tmod_eq_emod_of_nonneg (by omega)
      have hw2 : IntKind.i64.wrap (48 + (n : Int) % 10) = 48 + (n : Int) % 10 := by rw [IntKind.wrap_i64]; omega
      have hw3 : IntKind.u8.wrap (48 + (n : Int) % 10) = 48 + (n : Int) % 10 := by rw [IntKind.wrap_u8]; omega
      have h1 : ∀ w : World, _ := fun w => one_byte w (48 + (n : Int) % 10)
      have h1d : ∀ w : World, _ := fun w => one_byteU (w := w) (W1 := w.alloc (.cells #[.int .u8 (48 + (n : Int) % 10)] 5)) (x := 48 + (n : Int) % 10) (Upd.refl _ _).drew rfl
      have hv : Ending.returned (.string (TX (numT ((n : Int) / 10)) ++ ⟨#[UInt8.ofNat (48 + (n : Int) % 10).toNat]⟩)) = .returned (.string (TX (numT n))) := by
        rw [numT_more hn, show (n : Int) / 10 = ((n / 10 : Nat) : Int) by omega, show (48 + (n : Int) % 10).toNat = 48 + n % 10 by omega, ← TX_append]
        rfl
      have HV : Hid _ := hv
      clear hv
      have hsz : ¬ 9223372036854775807 < (TX (numT ((n : Int) / 10))).size + 1 := by
        have := numT_len (n / 10 + 1) (n / 10) (by omega)
        rw [TX_size, show (n : Int) / 10 = ((n / 10 : Nat) : Int) by omega]
        omega
      go_enter Tryz.func18, Tryz.ntmps18
      go_wp2_with fail
      go_region_with (go_at_call 18; refine Calls.mono (IH.out _) ?_; rintro e w2 ⟨rfl, hu2⟩; try (have hcv2 := one_byteU (w := w) (x := 48 + (n : Int) % 10) hu2 rfl))
      all_goals clear h1 h1d
      all_goals go_wp2_with fail
      all_goals go_ret
      all_goals first
        | exact ⟨HV.out, ((Upd.refl _ w).drew.trans hu2 (fun _ _ f => f)).alloc _⟩
        | exact ⟨HV.out, ((Upd.refl _ w).trans hu2 (fun _ _ f => f)).alloc _⟩
        | exact ⟨HV.out, ((Upd.refl _ w).alloc _).drew.trans hu2 (fun _ _ f => f)⟩
        | exact ⟨HV.out, ((Upd.refl _ w).alloc _).trans hu2 (fun _ _ f => f)⟩
/-- A number, told. -/
theorem dec_any (w : World) (n : Int) (h0 : 0 ≤ n) (h1 : n ≤ 1000000) : Calls Tryz.prog 18 #[.int .i64 n] w fun e w' => e = .returned (.string (TX (numT n))) ∧ Upd (fun _ => False) w w' := by
  obtain ⟨m, rfl⟩ := Int.eq_ofNat_of_zero_le h0
  exact decimal_any (m + 1) m w (by omega) (by omega)
theorem numT_le (n : Int) (h1 : n ≤ 1000000) : (numT n).length ≤ 1000001 := by
  have := numT_len (n.toNat + 1) n.toNat (by omega)
  rw [numT_eq, Int.toNat_natCast] at this
  rw [numT_eq]
  omega
theorem fault_any (w : World) (n : Int) (h0 : 0 ≤ n) (h1 : n ≤ 1000000) : Calls Tryz.prog 15 #[.int .i64 n] w fun e w' => e = .returned (.string (TX (errT n))) ∧ Upd (fun _ => False) w w' := by
  have HD : Hid _ := fun w => dec_any w n h0 h1
  have hsz : ¬ 9223372036854775807 < 6 + (TX (numT n)).size := by
    have := numT_le n h1
    rw [TX_size]
    omega
  go_enter Tryz.func15, Tryz.ntmps15
  go_wp2_with (go_at_call 18; refine Calls.mono (HD.out _) ?_; rintro e w2 ⟨rfl, hu2⟩)
  go_ret
  exact ⟨by unfold errT; rw [← TX_append]; rfl, hu2⟩
theorem done_any (w : World) (n : Int) (h0 : 0 ≤ n) (h1 : n ≤ 1000000) : Calls Tryz.prog 24 #[.int .i64 n] w fun e w' => e = .returned (.string (TX (doneT n))) ∧ Upd (fun _ => False) w w' := by
  have HD : Hid _ := fun w => fault_any w n h0 h1
  unfold doneT
  by_cases hn : 0 < n
  · rw [if_pos hn]
    go_enter Tryz.func24, Tryz.ntmps24
    go_wp2_with (go_at_call 15; refine Calls.mono (HD.out _) ?_; rintro e w2 ⟨rfl, hu2⟩)
    go_ret
    exact ⟨rfl, hu2⟩
  · rw [if_neg hn]
    go_enter Tryz.func24, Tryz.ntmps24
    go_wp2_with fail
    go_ret
    exact ⟨rfl, Upd.refl _ _⟩
end Go.Proofs.YtadpibcgjgcjhabGreatDoor
