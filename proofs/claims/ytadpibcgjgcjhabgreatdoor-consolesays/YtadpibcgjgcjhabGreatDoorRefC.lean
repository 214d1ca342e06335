/- Take, Same, Sum and Fill of the document's answer; Same, Sum and Fill of package frames. -/
import Derived.Test.YtadpibcgjgcjhabGreatDoorRefB
namespace Go.Proofs.YtadpibcgjgcjhabGreatDoor
open Go.ChangeShapes Go.WideShapes Go.ChangeAt Go.RowKit
set_option maxRecDepth 100000

theorem zeroRow_eq : (rowOf fun _ => 0).toArray = #[.int .u8 0, .int .u8 0, .int .u8 0, .int .u8 0, .int .u8 0, .int .u8 0, .int .u8 0, .int .u8 0, .int .u8 0, .int .u8 0, .int .u8 0, .int .u8 0, .int .u8 0, .int .u8 0, .int .u8 0, .int .u8 0] := rfl
theorem info32 : (Tryz.prog.info? 44).map (·.size) = some 16 := by kernel_rfl
theorem wpList_zeroRow {ops : Array Oper} {rest : List Oper} {op : Oper} {a : Act} {w : World} {Q : Exit → Act → World → Prop} (hgd : op.guard = none) (x y : Operand) (ho : op.op = .store 44 x y)
    (b o : Nat) (hx : a.eval x = .pointer (some ⟨b, o, none⟩)) (hy : a.eval y = .agg #[.int .u8 0, .int .u8 0, .int .u8 0, .int .u8 0, .int .u8 0, .int .u8 0, .int .u8 0, .int .u8 0, .int .u8 0, .int .u8 0, .int .u8 0, .int .u8 0, .int .u8 0, .int .u8 0, .int .u8 0, .int .u8 0])
    (ht : w.there b o 16) (h : wpList Tryz.prog ops Q rest (a.put op.dst undef) (w.setCells b o (rowOf fun _ => 0))) : wpList Tryz.prog ops Q (op :: rest) a w :=
  wpList_store_mid hgd 44 x y ho b o (rowOf fun _ => 0).toArray hx (by rw [zeroRow_eq]; exact hy) ht info32 (all_oneCell_toArray (rowOf_one _)) h

theorem rTake_full (w : World) (bm : Nat) (s : Pl) (h : RefAt w bm s) (hr : ∀ i, i < s.n → s.refs i ≠ 0) :
    Calls Tryz.prog 130 #[.pointer (some ⟨bm, 0, none⟩)] w fun e w' => e = .returned (.tuple #[.int .i64 0, .int .i64 3]) ∧ w' = w := by
  have h1 := h.num
  have h2 := h.le
  have HR : Hid _ := hr
  clear hr
  go_enter Tryz.func130, Tryz.ntmps130
  go_wp2
  go_loop [4] (fun i => ∃ k : Nat, k ≤ s.n ∧ i = .int .i64 k) (fun i => s.n - (intOf i).toNat)
  case atStart => exact ⟨0, Nat.zero_le _, rfl⟩
  case round =>
    obtain ⟨k, hk, rfl⟩ := hrel
    by_cases hlt : k < s.n
    · have c1 := h.refs k hlt
      have i1 : (k : Int) < 64 := by omega
      have c2 : (s.refs k == 0) = false := by simp [HR.out k hlt]
      go_wp2
      go_round
      case rel => exact ⟨k + 1, by omega, by go_num⟩
      case measure => simp [intOf]; omega
    · go_wp2
      go_ret2
      exact ⟨rfl, rfl⟩
theorem rTake_at (w : World) (bm j : Nat) (s : Pl) (h : RefAt w bm s) (hj : j < s.n) (h0 : s.refs j = 0) (hr : ∀ i, i < j → s.refs i ≠ 0) :
    Calls Tryz.prog 130 #[.pointer (some ⟨bm, 0, none⟩)] w fun e w' => e = .returned (.tuple #[.int .i64 j, .int .i64 0]) ∧ w' = (w.setCell ⟨bm, 1025 + j, none⟩ (.int .i64 1)).setCells bm (1 + j * 16) (rowOf fun _ => 0) := by
  have h1 := h.num
  have h2 := h.le
  have HR : Hid _ := hr
  have H0 : Hid _ := h0
  clear hr h0
  go_enter Tryz.func130, Tryz.ntmps130
  go_wp2
  go_loop [4] (fun i => ∃ k : Nat, k ≤ j ∧ i = .int .i64 k) (fun i => s.n - (intOf i).toNat)
  case atStart => exact ⟨0, Nat.zero_le _, rfl⟩
  case round =>
    obtain ⟨k, hk, rfl⟩ := hrel
    have hlt : k < s.n := by omega
    have c1 := h.refs k hlt
    have i1 : (k : Int) < 64 := by omega
    by_cases hkj : k < j
    · have c2 : (s.refs k == 0) = false := by simp [HR.out k hkj]
      go_wp2
      go_round
      case rel => exact ⟨k + 1, by omega, by go_num⟩
      case measure => simp [intOf]; omega
    · have e : k = j := by omega
      subst e
      have c2 : (s.refs k == 0) = true := by simp [H0.out]
      have c3 := h.fz (1025 + k)
      have ht := (h.setRef (v := 1) hlt (by omega)).there (f := k) hlt
      go_wp2_with (refine wpList_zeroRow (by rfl) _ _ (by rfl) bm (1 + k * 16) (by rfl) (by rfl) ht ?_)
      go_ret2
      exact ⟨rfl, rfl⟩
/-- The first k bytes are alike. -/
def sameTo (g h : Nat → Int) (k : Nat) : Bool := (List.range k).all fun i => g i == h i
theorem sameTo_succ (g h : Nat → Int) (k : Nat) : sameTo g h (k + 1) = (sameTo g h k && (g k == h k)) := by simp [sameTo, List.range_succ, List.all_append]

theorem ret_bool {a b : Bool} (h : a = b) : Ending.returned (.bool a) = .returned (.bool b) := by rw [h]
theorem rSame_no (w : World) (bm : Nat) (f g : Int) (s : Pl) (h : RefAt w bm s) (hu : (s.used f && s.used g) = false) :
    Calls Tryz.prog 41 #[.pointer (some ⟨bm, 0, none⟩), .int .i64 f, .int .i64 g] w fun e w' => e = .returned (.bool false) ∧ w' = w := by
  cases hf : s.used f with
  | false =>
    go_enter Tryz.func41, Tryz.ntmps41
    go_wp2_with fail
    refine (rUsed_is _ _ _ _ h hf).mono ?_
    rintro e w' ⟨rfl, rfl⟩
    go_wp2_with fail
    refine (rUsed_any _ _ _ _ h).mono ?_
    rintro e w' ⟨rfl, rfl⟩
    go_wp2_with fail
    go_ret
    exact ⟨rfl, rfl⟩
  | true =>
    have hg : s.used g = false := by simpa [hf] using hu
    go_enter Tryz.func41, Tryz.ntmps41
    go_wp2_with fail
    refine (rUsed_is _ _ _ _ h hf).mono ?_
    rintro e w' ⟨rfl, rfl⟩
    go_wp2_with fail
    refine (rUsed_is _ _ _ _ h hg).mono ?_
    rintro e w' ⟨rfl, rfl⟩
    go_wp2_with fail
    go_ret
    exact ⟨rfl, rfl⟩
theorem rSame_yes (w : World) (bm : Nat) (f g : Int) (s : Pl) (h : RefAt w bm s) (hf : s.used f = true) (hg : s.used g = true) :
    Calls Tryz.prog 41 #[.pointer (some ⟨bm, 0, none⟩), .int .i64 f, .int .i64 g] w fun e w' => e = .returned (.bool (sameTo (s.byt f.toNat) (s.byt g.toNat) 16)) ∧ ∃ m, w' = w.drewN m := by
  obtain ⟨f0, f1, _⟩ := (s.used_iff f).1 hf
  obtain ⟨g0, g1, _⟩ := (s.used_iff g).1 hg
  have hl := h.le
  have f2 : f < 64 := by omega
  have g2 : g < 64 := by omega
  go_enter Tryz.func41, Tryz.ntmps41
  go_wp2_with fail
  refine (rUsed_is _ _ _ _ h hf).mono ?_
  rintro e w' ⟨rfl, rfl⟩
  go_wp2_with fail
  refine (rUsed_is _ _ _ _ h hg).mono ?_
  rintro e w' ⟨rfl, rfl⟩
  go_wp2_with fail
  go_loopw [9] (fun i wr => ∃ k : Nat, k ≤ 16 ∧ i = .int .i64 k ∧ sameTo (s.byt f.toNat) (s.byt g.toNat) k = true ∧ ∃ m, wr = w'.drewN m) (fun i _ => 16 - (intOf i).toNat)
  case atStart => exact ⟨0, Nat.zero_le _, rfl, rfl, 0, rfl⟩
  case round =>
    obtain ⟨k, hk, rfl, hs, m, rfl⟩ := hrel
    have HS : Hid _ := hs
    clear hs
    by_cases hlt : k < 16
    · have c1 := h.byt f.toNat k (by omega) hlt
      have c2 := h.byt g.toNat k (by omega) hlt
      have k1 : (k : Int) < 16 := by omega
      by_cases hb : s.byt f.toNat k = s.byt g.toNat k
      · have hb' : (s.byt f.toNat k != s.byt g.toNat k) = false := by simp [hb]
        have HB : Hid _ := hb
        clear hb
        go_wp2
        go_quiet (fail)
        go_wp2
        go_roundw
        case rel => exact ⟨k + 1, by omega, by go_num, by rw [sameTo_succ, HS.out]; simp [HB.out], m + nq, rfl⟩
        case measure => simp [intOf]; omega
      · have hb' : (s.byt f.toNat k != s.byt g.toNat k) = true := by simp [hb]
        have hno : sameTo (s.byt f.toNat) (s.byt g.toNat) 16 = false := by
          simp only [sameTo, List.all_eq_false]
          exact ⟨k, by simp; omega, by simp [hb]⟩
        have HN : Hid _ := hno
        clear hb hno
        go_wp2
        go_quiet (fail)
        go_wp2
        go_ret
        exact ⟨ret_bool HN.out.symm, m + nq, by simp⟩
    · have e : k = 16 := by omega
      subst e
      go_wp2
      go_ret
      exact ⟨ret_bool HS.out.symm, m, rfl⟩
theorem rSame_any (w : World) (bm : Nat) (f g : Int) (s : Pl) (h : RefAt w bm s) :
    Calls Tryz.prog 41 #[.pointer (some ⟨bm, 0, none⟩), .int .i64 f, .int .i64 g] w fun e w' => e = .returned (.bool (s.same f g)) ∧ ∃ m, w' = w.drewN m := by
  cases hu : (s.used f && s.used g) with
  | false =>
    have e : s.same f g = false := by simp only [Pl.same, hu, Bool.false_and]
    rw [e]
    refine (rSame_no w bm f g s h hu).mono ?_
    rintro e w' ⟨rfl, rfl⟩
    exact ⟨rfl, 0, rfl⟩
  | true =>
    have e : s.same f g = sameTo (s.byt f.toNat) (s.byt g.toNat) 16 := by simp only [Pl.same, hu, Bool.true_and, sameTo]
    rw [e]
    simp only [Bool.and_eq_true] at hu
    exact rSame_yes w bm f g s h hu.1 hu.2
end Go.Proofs.YtadpibcgjgcjhabGreatDoor
