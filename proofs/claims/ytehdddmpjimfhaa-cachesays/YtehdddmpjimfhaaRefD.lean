/- Sum and Fill of the document's answer and of package frames; Same of package frames. -/
import Derived.Test.YtehdddmpjimfhaaRefC
namespace Go.Proofs.Ytehdddmpjimfhaa
open Go.ChangeShapes Go.WideShapes Go.ChangeAt Go.RowKit
set_option maxRecDepth 100000

/-- The sum of the first k bytes. -/
def sumTo (g : Nat → Int) : Nat → Int
  | 0 => 2166136261
  | k + 1 => bits .xor .u32 (sumTo g k) (g k % 4294967296) * 16777619 % 4294967296
theorem sumTo_succ (g : Nat → Int) (k : Nat) : sumTo g (k + 1) = bits .xor .u32 (sumTo g k) (g k % 4294967296) * 16777619 % 4294967296 := rfl
theorem u32_eq {a b : Int} (h : a = b) : Value.int .u32 a = .int .u32 b := by rw [h]
def Pl.sum (s : Pl) (f : Int) : Int × Int := if s.used f then (sumTo (s.byt f.toNat) 16, 0) else (0, 2)
theorem index_row (g : Nat → Int) (k : Nat) (hk : k < 16) (w : World) : (Instr.index 32 (.agg (rowOf g).toArray) (.int .i64 k)).run Try.prog w = .ok (.int .u8 (g k)) w := by
  rcases k with _ | _ | _ | _ | _ | _ | _ | _ | _ | _ | _ | _ | _ | _ | _ | _ | k
  · kernel_rfl
  · kernel_rfl
  · kernel_rfl
  · kernel_rfl
  · kernel_rfl
  · kernel_rfl
  · kernel_rfl
  · kernel_rfl
  · kernel_rfl
  · kernel_rfl
  · kernel_rfl
  · kernel_rfl
  · kernel_rfl
  · kernel_rfl
  · kernel_rfl
  · kernel_rfl
  · omega
theorem ret_sum {a b : Int} {v : Value} (h : a = b) : Ending.returned (.tuple #[.int .u32 a, v]) = .returned (.tuple #[.int .u32 b, v]) := by rw [h]

theorem rSum_no (w : World) (bm : Nat) (f : Int) (s : Pl) (h : RefAt w bm s) (hf : s.used f = false) :
    Calls Try.prog 66 #[.pointer (some ⟨bm, 0, none⟩), .int .i64 f] w fun e w' => e = .returned (.tuple #[.int .u32 0, .int .i64 2]) ∧ w' = w := by
  go_enter Try.func66, Try.ntmps66
  go_wp2_with (go_at_call 59; refine (rUsed_is _ _ _ _ h hf).mono ?_; rintro e w' ⟨rfl, rfl⟩)
  go_ret2
  exact ⟨rfl, rfl⟩
theorem rSum_yes (w : World) (bm : Nat) (f : Int) (s : Pl) (h : RefAt w bm s) (hf : s.used f = true) :
    Calls Try.prog 66 #[.pointer (some ⟨bm, 0, none⟩), .int .i64 f] w fun e w' => e = .returned (.tuple #[.int .u32 (sumTo (s.byt f.toNat) 16), .int .i64 0]) ∧ w' = w := by
  obtain ⟨f0, f1, _⟩ := (s.used_iff f).1 hf
  have hl := h.le
  have f2 : f < 64 := by omega
  go_enter Try.func66, Try.ntmps66
  go_wp2_with fail
  refine (rUsed_is _ _ _ _ h hf).mono ?_
  rintro e w' ⟨rfl, rfl⟩
  go_wp2_with fail
  go_loop [7, 8] (fun t i => ∃ (k : Nat) (z : Int), k ≤ 16 ∧ i = .int .i64 k ∧ t = .int .u32 z ∧ z = sumTo (s.byt f.toNat) k) (fun _ i => 16 - (intOf i).toNat)
  case atStart => exact ⟨0, _, Nat.zero_le _, rfl, rfl, rfl⟩
  case round =>
    obtain ⟨k, z, hk, rfl, rfl, hz⟩ := hrel
    have HZ : Hid _ := hz
    clear hz
    by_cases hlt : k < 16
    · have c1 := h.byt f.toNat k (by omega) hlt
      have k1 : (k : Int) < 16 := by omega
      go_wp2
      go_round
      case rel => exact ⟨k + 1, _, by omega, by go_num, rfl, by rw [sumTo_succ, HZ.out]⟩
      case measure => simp [intOf]; omega
    · have e : k = 16 := by omega
      subst e
      go_wp2
      go_ret2
      exact ⟨ret_sum HZ.out, rfl⟩
theorem rSum_any (w : World) (bm : Nat) (f : Int) (s : Pl) (h : RefAt w bm s) :
    Calls Try.prog 66 #[.pointer (some ⟨bm, 0, none⟩), .int .i64 f] w fun e w' => e = .returned (.tuple #[.int .u32 (s.sum f).1, .int .i64 (s.sum f).2]) ∧ w' = w := by
  cases hu : s.used f with
  | false => simp only [Pl.sum, hu, Bool.false_eq_true, if_false]; exact rSum_no w bm f s h hu
  | true => simp only [Pl.sum, hu, if_true]; exact rSum_yes w bm f s h hu

theorem sum_no (w : World) (bp bf : Nat) (f : Int) (s : Pl) (h : PoolAt w bp bf s) (hf : s.used f = false) :
    Calls Try.prog 65 #[.pointer (some ⟨bp, 0, none⟩), .int .i64 f] w fun e w' => e = .returned (.tuple #[.int .u32 0, .iface 105 (.int .i64 2)]) ∧ w' = w := by
  go_enter Try.func65, Try.ntmps65
  go_wp2_with (go_at_call 58; refine (used_none _ _ _ _ _ h hf).mono ?_; rintro e w' ⟨rfl, rfl⟩)
  go_ret2
  exact ⟨rfl, rfl⟩
theorem sum_yes (w : World) (bp bf : Nat) (f : Int) (s : Pl) (h : PoolAt w bp bf s) (hf : s.used f = true) :
    Calls Try.prog 65 #[.pointer (some ⟨bp, 0, none⟩), .int .i64 f] w fun e w' => e = .returned (.tuple #[.int .u32 (sumTo (s.byt f.toNat) 16), .nilIface]) ∧ w' = w := by
  obtain ⟨f0, f1, _⟩ := (s.used_iff f).1 hf
  have hr := h.range (f := f.toNat) (by omega)
  go_enter Try.func65, Try.ntmps65
  go_wp2_with fail
  refine (used_some _ _ _ _ _ h hf).mono ?_
  rintro e w' ⟨rfl, rfl⟩
  go_wp2_with (refine wpList_load_mid (by rfl) 32 _ (by rfl) bf (f.toNat * 17 + 1) (by rfl) (rowOf (s.byt f.toNat)) _ hr Try.underlying32 (by rfl) (by rw [rowOf_length]; exact info32) ?_)
  go_loop [7, 20] (fun t i => ∃ (k : Nat) (z : Int), k ≤ 16 ∧ i = .int .i64 k ∧ t = .int .u32 z ∧ z = sumTo (s.byt f.toNat) k) (fun _ i => 16 - (intOf i).toNat)
  case atStart => exact ⟨0, _, Nat.zero_le _, rfl, rfl, rfl⟩
  case round =>
    obtain ⟨k, z, hk, rfl, rfl, hz⟩ := hrel
    have HZ : Hid _ := hz
    clear hz
    by_cases hlt : k < 16
    · have c1 := index_row (s.byt f.toNat) k hlt w'
      have k1 : (k : Int) < 16 := by omega
      go_wp2
      go_round
      case rel => exact ⟨k + 1, _, by omega, by go_num, rfl, by rw [sumTo_succ, HZ.out]⟩
      case measure => simp [intOf]; omega
    · have e : k = 16 := by omega
      subst e
      go_wp2
      go_ret2
      exact ⟨ret_sum HZ.out, rfl⟩
theorem sum_any (w : World) (bp bf : Nat) (f : Int) (s : Pl) (h : PoolAt w bp bf s) :
    Calls Try.prog 65 #[.pointer (some ⟨bp, 0, none⟩), .int .i64 f] w fun e w' => e = .returned (.tuple #[.int .u32 (s.sum f).1, errV (s.sum f).2]) ∧ w' = w := by
  cases hu : s.used f with
  | false => simp only [Pl.sum, hu, Bool.false_eq_true, if_false, errV2]; exact sum_no w bp bf f s h hu
  | true => simp only [Pl.sum, hu, if_true, errV_zero]; exact sum_yes w bp bf f s h hu

theorem fill_from (w : World) (bp bf : Nat) (f g : Int) (s : Pl) (h : PoolAt w bp bf s) (hg : s.used g = false) :
    Calls Try.prog 22 #[.pointer (some ⟨bp, 0, none⟩), .int .i64 f, .int .i64 g] w fun e w' => e = .returned (.iface 105 (.int .i64 2)) ∧ w' = w := by
  go_enter Try.func22, Try.ntmps22
  go_wp2_with (go_at_call 58; refine (used_none _ _ _ _ _ h hg).mono ?_; rintro e w' ⟨rfl, rfl⟩)
  go_ret
  exact ⟨rfl, rfl⟩
theorem fill_none (w : World) (bp bf : Nat) (f g : Int) (s : Pl) (h : PoolAt w bp bf s) (hg : s.used g = true) (hf : s.used f = false) :
    Calls Try.prog 22 #[.pointer (some ⟨bp, 0, none⟩), .int .i64 f, .int .i64 g] w fun e w' => e = .returned (.iface 105 (.int .i64 2)) ∧ w' = w := by
  go_enter Try.func22, Try.ntmps22
  go_wp2_with (first | (go_at_call 58; refine (used_some _ _ _ _ _ h hg).mono ?_; rintro e w' ⟨rfl, rfl⟩) | (go_at_call 61; refine (alone_none _ _ _ _ _ h hf).mono ?_; rintro e w' ⟨rfl, rfl⟩))
  go_ret
  exact ⟨rfl, rfl⟩
theorem fill_held (w : World) (bp bf : Nat) (f g : Int) (s : Pl) (h : PoolAt w bp bf s) (hg : s.used g = true) (hf : s.used f = true) (hr : 1 < s.refs f.toNat) :
    Calls Try.prog 22 #[.pointer (some ⟨bp, 0, none⟩), .int .i64 f, .int .i64 g] w fun e w' => e = .returned (.iface 105 (.int .i64 4)) ∧ w' = w := by
  go_enter Try.func22, Try.ntmps22
  go_wp2_with (first | (go_at_call 58; refine (used_some _ _ _ _ _ h hg).mono ?_; rintro e w' ⟨rfl, rfl⟩) | (go_at_call 61; refine (alone_held _ _ _ _ _ h hf hr).mono ?_; rintro e w' ⟨rfl, rfl⟩))
  go_ret
  exact ⟨rfl, rfl⟩
theorem wpList_storeRow {ops : Array Oper} {rest : List Oper} {op : Oper} {a : Act} {w : World} {Q : Exit → Act → World → Prop} (hgd : op.guard = none) (x y : Operand) (ho : op.op = .store 32 x y)
    (b o : Nat) (g : Nat → Int) (hx : a.eval x = .pointer (some ⟨b, o, none⟩)) (hy : a.eval y = .agg (rowOf g).toArray)
    (ht : w.there b o 16) (h : wpList Try.prog ops Q rest (a.put op.dst undef) (w.setCells b o (rowOf g))) : wpList Try.prog ops Q (op :: rest) a w :=
  wpList_store_mid hgd 32 x y ho b o (rowOf g).toArray hx hy (by simpa [rowOf_length] using ht) (by simpa [rowOf_length] using info32) (all_oneCell_toArray (rowOf_one _)) h
theorem fill_yes (w : World) (bp bf : Nat) (f g : Int) (s : Pl) (h : PoolAt w bp bf s) (hg : s.used g = true) (hf : s.used f = true) (hr : s.refs f.toNat ≤ 1) :
    Calls Try.prog 22 #[.pointer (some ⟨bp, 0, none⟩), .int .i64 f, .int .i64 g] w fun e w' => e = .returned .nilIface ∧ w' = w.setCells bf (f.toNat * 17 + 1) (rowOf (s.byt g.toNat)) := by
  obtain ⟨f0, f1, _⟩ := (s.used_iff f).1 hf
  obtain ⟨g0, g1, _⟩ := (s.used_iff g).1 hg
  have hrg := h.range (f := g.toNat) (by omega)
  have ht := h.there (f := f.toNat) (by omega)
  go_enter Try.func22, Try.ntmps22
  go_wp2_with (first | (go_at_call 58; refine (used_some _ _ _ _ _ h hg).mono ?_; rintro e w' ⟨rfl, rfl⟩) | (go_at_call 61; refine (alone_yes _ _ _ _ _ h hf hr).mono ?_; rintro e w' ⟨rfl, rfl⟩) | (refine wpList_load_mid (by rfl) 32 _ (by rfl) bf (g.toNat * 17 + 1) (by rfl) (rowOf (s.byt g.toNat)) _ hrg Try.underlying32 (by rfl) (by rw [rowOf_length]; exact info32) ?_) | (refine wpList_storeRow (by rfl) _ _ (by rfl) bf (f.toNat * 17 + 1) (s.byt g.toNat) (by rfl) (by rfl) ht ?_))
  go_ret
  exact ⟨rfl, rfl⟩
theorem fill_any (w : World) (bp bf : Nat) (f g : Int) (s : Pl) (h : PoolAt w bp bf s) :
    Calls Try.prog 22 #[.pointer (some ⟨bp, 0, none⟩), .int .i64 f, .int .i64 g] w fun e w' => e = .returned (errV (s.fill f g).1) ∧ PoolAt w' bp bf (s.fill f g).2 ∧ Upd (fun k => k = bf) w w' := by
  cases hg : s.used g with
  | false =>
    refine (fill_from w bp bf f g s h hg).mono ?_
    rintro e w' ⟨rfl, rfl⟩
    simp only [Pl.fill, hg, Bool.and_false, Bool.false_eq_true, if_false]
    exact ⟨by rw [errV2], h, Upd.refl _ _⟩
  | true =>
    cases hf : s.used f with
    | false =>
      refine (fill_none w bp bf f g s h hg hf).mono ?_
      rintro e w' ⟨rfl, rfl⟩
      simp only [Pl.fill, hf, Bool.false_and, Bool.false_eq_true, if_false]
      exact ⟨by rw [errV2], h, Upd.refl _ _⟩
    | true =>
      obtain ⟨f0, f1, _⟩ := (s.used_iff f).1 hf
      by_cases hr : 1 < s.refs f.toNat
      · refine (fill_held w bp bf f g s h hg hf hr).mono ?_
        rintro e w' ⟨rfl, rfl⟩
        simp only [Pl.fill, hf, hg, Bool.and_true, if_true, hr]
        exact ⟨by rw [errV4], h, Upd.refl _ _⟩
      · refine (fill_yes w bp bf f g s h hg hf (by omega)).mono ?_
        rintro e w' ⟨rfl, rfl⟩
        simp only [Pl.fill, hf, hg, Bool.and_true, if_true, hr, if_false]
        exact ⟨by rw [errV_zero], h.setRow (by omega) _, Upd.row _ _ _ _⟩
end Go.Proofs.Ytehdddmpjimfhaa
