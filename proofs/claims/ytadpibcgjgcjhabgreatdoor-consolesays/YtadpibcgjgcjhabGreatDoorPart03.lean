/- The document's answer for chapter 1: Share, Set, Left, Of, Take. -/
import Derived.Test.YtadpibcgjgcjhabGreatDoorPart02
import Derived.Deep.AppendLies
import Derived.Deep.DeepCutAuto
import Derived.Deep.LoopGhost
import Derived.Deep.CutBlock
namespace Go.Proofs.YtadpibcgjgcjhabGreatDoor
open Go.ChangeShapes Go.WideShapes Go.ChangeAt Go.RowKit
set_option maxRecDepth 100000

theorem rShare_no (w : World) (bm : Nat) (f d : Int) (s : Pl) (h : RefAt w bm s) (hu : s.used f = false) :
    Calls Tryz.prog 67 #[.pointer (some ⟨bm, 0, none⟩), .int .i64 f, .int .i64 d] w fun e w' => e = .returned (.int .i64 2) ∧ w' = w := by
  go_enter Tryz.func67, Tryz.ntmps67
  go_wp2_with (go_at_call 66; refine (rUsed_is _ _ _ _ h hu).mono ?_; rintro e w' ⟨rfl, rfl⟩)
  go_ret
  exact ⟨rfl, rfl⟩
theorem rShare_yes (w : World) (bm : Nat) (f d : Int) (s : Pl) (h : RefAt w bm s) (hu : s.used f = true) (hm : s.refs f.toNat ≤ 1000000) (d0 : -1 ≤ d) (d1 : d ≤ 1) :
    Calls Tryz.prog 67 #[.pointer (some ⟨bm, 0, none⟩), .int .i64 f, .int .i64 d] w fun e w' => e = .returned (.int .i64 0) ∧ RefAt w' bm { s with refs := setAt s.refs f.toNat (s.refs f.toNat + d) } ∧ Upd (fun k => k = bm) w w' := by
  obtain ⟨h0, h1, h2⟩ := (s.used_iff f).1 hu
  have hl := h.le
  have hk : f.toNat < s.n := by omega
  have c1 := h.refs f.toNat hk
  have c2 := h.fz (1025 + f.toNat)
  have c3 := h.nn f.toNat hk
  have f2 : f < 64 := by omega
  have hw := h.setRef hk (v := s.refs f.toNat + d) (by omega)
  clear h2
  go_enter Tryz.func67, Tryz.ntmps67
  go_wp2_with (go_at_call 66; refine (rUsed_is _ _ _ _ h hu).mono ?_; rintro e w' ⟨rfl, rfl⟩)
  go_region
  all_goals go_wp2
  all_goals go_ret
  all_goals exact ⟨rfl, hw.upd (S := fun _ => False) (Upd.refl _ _).drew (fun f => f), (Upd.one _ _ _ _).drew⟩
theorem rShare_any (w : World) (bm : Nat) (f d : Int) (s : Pl) (h : RefAt w bm s) (hm : ∀ k, k < s.n → s.refs k ≤ 1000000) (d0 : -1 ≤ d) (d1 : d ≤ 1) :
    Calls Tryz.prog 67 #[.pointer (some ⟨bm, 0, none⟩), .int .i64 f, .int .i64 d] w fun e w' => e = .returned (.int .i64 (s.share f d).1) ∧ RefAt w' bm (s.share f d).2 ∧ Upd (fun k => k = bm) w w' := by
  cases hu : s.used f with
  | false =>
    refine (rShare_no w bm f d s h hu).mono ?_
    rintro e w' ⟨rfl, rfl⟩
    simp only [Pl.share, hu]
    exact ⟨rfl, h, Upd.refl _ _⟩
  | true =>
    obtain ⟨h0, h1, _⟩ := (s.used_iff f).1 hu
    refine (rShare_yes w bm f d s h hu (hm _ (by omega)) d0 d1).mono ?_
    rintro e w' ⟨rfl, h1, h2⟩
    simp only [Pl.share, hu, if_true]
    exact ⟨trivial, h1, h2⟩

theorem rSet_any (w : World) (bm : Nat) (f i v : Int) (s : Pl) (h : RefAt w bm s) :
    Calls Tryz.prog 69 #[.pointer (some ⟨bm, 0, none⟩), .int .i64 f, .int .i64 i, .int .u8 v] w fun e w' => e = .returned (.int .i64 (s.set f i v).1) ∧ RefAt w' bm (s.set f i v).2 ∧ Upd (fun k => k = bm) w w' := by
  have hg := rGet_any w bm f i s h
  by_cases hi : i < 0 ∨ 15 < i
  · simp only [Pl.set, hi, if_true]
    have eg : s.get f i = (0, 1) := by simp only [Pl.get, hi, if_true]
    rw [eg] at hg
    simp only at hg
    go_enter Tryz.func69, Tryz.ntmps69
    go_wp2_with fail
    refine hg.mono ?_
    rintro e w' ⟨rfl, rfl⟩
    go_wp2_with fail
    go_ret
    exact ⟨rfl, h, Upd.refl _ _⟩
  · have i0 : 0 ≤ i := by omega
    have i1 : i ≤ 15 := by omega
    cases hu : s.used f with
    | false =>
      have eg : s.get f i = (0, 2) := by simp only [Pl.get, hi, hu, if_false, Bool.false_eq_true]
      rw [eg] at hg
      simp only [Pl.set, hi, hu, if_false, Bool.false_eq_true]
      simp only at hg
      clear hi
      go_enter Tryz.func69, Tryz.ntmps69
      go_wp2_with fail
      refine hg.mono ?_
      rintro e w' ⟨rfl, rfl⟩
      go_wp2_with fail
      go_ret
      exact ⟨rfl, h, Upd.refl _ _⟩
    | true =>
      have eg : s.get f i = (s.byt f.toNat i.toNat, 0) := by simp only [Pl.get, hi, hu, if_false, if_true]
      rw [eg] at hg
      simp only at hg
      obtain ⟨h0, h1, h2⟩ := (s.used_iff f).1 hu
      have hl := h.le
      have f2 : f < 64 := by omega
      have hk : f.toNat < s.n := by omega
      have c1 := h.refs f.toNat hk
      clear h2
      by_cases hr : 1 < s.refs f.toNat
      · simp only [Pl.set, hi, hu, hr, if_false, if_true]
        clear hi
        go_enter Tryz.func69, Tryz.ntmps69
        go_wp2_with fail
        refine hg.mono ?_
        rintro e w' ⟨rfl, rfl⟩
        go_wp2_with fail
        go_ret
        exact ⟨rfl, h, Upd.refl _ _⟩
      · simp only [Pl.set, hi, hu, hr, if_false, if_true]
        have c3 := h.byt f.toNat i.toNat hk (by omega)
        have c4 := h.fz (1 + f.toNat * 16 + i.toNat)
        have i2 : i < 16 := by omega
        clear hi
        go_enter Tryz.func69, Tryz.ntmps69
        go_wp2_with fail
        refine hg.mono ?_
        rintro e w' ⟨rfl, rfl⟩
        go_wp2_with fail
        go_ret
        exact ⟨rfl, h.setByte hk (by omega) v, Upd.one _ _ _ _⟩

theorem rLeft_any (w : World) (bm : Nat) (s : Pl) (h : RefAt w bm s) :
    Calls Tryz.prog 22 #[.pointer (some ⟨bm, 0, none⟩)] w fun e w' => e = .returned (.int .i64 s.left) ∧ w' = w := by
  have h1 := h.num
  have h2 := h.le
  go_enter Tryz.func22, Tryz.ntmps22
  go_wp2
  go_loop [3, 4] (fun t i => ∃ k : Nat, k ≤ s.n ∧ i = .int .i64 k ∧ t = .int .i64 (freeTo s.refs k)) (fun _ i => s.n - (intOf i).toNat)
  case atStart => exact ⟨0, Nat.zero_le _, rfl, rfl⟩
  case round =>
    obtain ⟨k, hk, rfl, rfl⟩ := hrel
    have hle := freeTo_le s.refs k
    by_cases hlt : k < s.n
    · have c1 := h.refs k hlt
      have i1 : (k : Int) < 64 := by omega
      have hs : freeTo s.refs (k + 1) = freeTo s.refs k + if s.refs k = 0 then 1 else 0 := rfl
      by_cases hr : s.refs k = 0
      · rw [if_pos hr] at hs
        have HS : Hid _ := hs
        have hr' : (s.refs k == 0) = true := by simp [hr]
        clear hs hr
        go_wp2
        go_round
        case rel => exact ⟨k + 1, by omega, by go_num, by rw [HS.out]; go_num⟩
        case measure => simp [intOf]; omega
      · rw [if_neg hr] at hs
        have HS : Hid _ := hs
        have hr' : (s.refs k == 0) = false := by simp [hr]
        clear hs hr
        go_wp2
        go_round
        case rel => exact ⟨k + 1, by omega, by go_num, by rw [HS.out]; go_num⟩
        case measure => simp [intOf]; omega
    · have : k = s.n := by omega
      subst this
      go_wp2
      go_ret
      exact ⟨rfl, rfl⟩

theorem rOf_any (w : World) (bm : Nat) (f : Int) (s : Pl) (h : RefAt w bm s) :
    Calls Tryz.prog 26 #[.pointer (some ⟨bm, 0, none⟩), .int .i64 f] w fun e w' => e = .returned (.tuple #[.agg #[.int .i64 (s.of f).1, .int .i64 (s.of f).2.1], .int .i64 (s.of f).2.2]) ∧ Upd (fun _ => False) w w' := by
  have h1 := h.num
  have hl := h.le
  have hb := World.block_lt_of_cell? w _ h.num
  by_cases h0 : f < 0
  · have e : s.of f = (0, 0, 1) := by unfold Pl.of; rw [if_neg (by omega)]
    rw [e]
    have hd : decide (f < 0) = true := by simp; omega
    go_enter Tryz.func26, Tryz.ntmps26
    go_wp2
    exact bodyPost_ret (v := .tuple #[.agg #[.int .i64 0, .int .i64 0], .int .i64 1]) (by simp [results, Tryz.results26, go_sem]) rfl ⟨rfl, (Upd.refl _ _).alloc _⟩
  · have hd : decide (f < 0) = false := by simp; omega
    by_cases h2 : f < s.n
    · obtain ⟨k, rfl⟩ := Int.eq_ofNat_of_zero_le (show 0 ≤ f by omega)
      have e : s.of k = (classOf (s.refs k), s.refs k, 0) := by unfold Pl.of; rw [if_pos (by omega), Int.toNat_natCast]
      rw [e]
      have hk : k < s.n := by omega
      have c1 := h.refs k (by omega)
      have c2 := h.nn k (by omega)
      have i1 : (k : Int) < 64 := by omega
      clear h0 h2
      by_cases r0 : s.refs k = 0
      · have ec : classOf (s.refs k) = 0 := by simp [classOf, r0]
        rw [ec, r0]
        rw [r0] at c1
        clear ec r0 c2
        go_enter Tryz.func26, Tryz.ntmps26
        go_wp2
        exact bodyPost_ret (v := .tuple #[.agg #[.int .i64 0, .int .i64 0], .int .i64 0]) (by simp [results, Tryz.results26, go_sem]) rfl ⟨rfl, (Upd.refl _ _).alloc _⟩
      · by_cases r1 : s.refs k = 1
        · have ec : classOf (s.refs k) = 1 := by simp [classOf, r1]
          rw [ec, r1]
          rw [r1] at c1
          clear ec r0 r1 c2
          go_enter Tryz.func26, Tryz.ntmps26
          go_wp2
          exact bodyPost_ret (v := .tuple #[.agg #[.int .i64 1, .int .i64 1], .int .i64 0]) (by simp [results, Tryz.results26, go_sem]) rfl ⟨rfl, (Upd.refl _ _).alloc _⟩
        · have ec : classOf (s.refs k) = 2 := by simp [classOf, r0, r1]
          rw [ec]
          have b1 : (s.refs k == 1) = false := by simp [r1]
          have b2 : 1 < s.refs k := by omega
          clear ec r0 r1 c2
          go_enter Tryz.func26, Tryz.ntmps26
          go_wp2
          exact bodyPost_ret (v := .tuple #[.agg #[.int .i64 2, .int .i64 (s.refs k)], .int .i64 0]) (by simp [results, Tryz.results26, go_sem]) rfl ⟨rfl, (Upd.refl _ _).alloc _⟩
    · have e : s.of f = (0, 0, 1) := by unfold Pl.of; rw [if_neg (by omega)]
      rw [e]
      have hd2 : decide ((s.n : Int) ≤ f) = true := by simp; omega
      go_enter Tryz.func26, Tryz.ntmps26
      go_wp2
      exact bodyPost_ret (v := .tuple #[.agg #[.int .i64 0, .int .i64 0], .int .i64 1]) (by simp [results, Tryz.results26, go_sem]) rfl ⟨rfl, (Upd.refl _ _).alloc _⟩
end Go.Proofs.YtadpibcgjgcjhabGreatDoor
/- Take, Same, Sum and Fill of the document's answer; Same, Sum and Fill of package frames. -/
namespace Go.Proofs.YtadpibcgjgcjhabGreatDoor
open Go.ChangeShapes Go.WideShapes Go.ChangeAt Go.RowKit
set_option maxRecDepth 100000

theorem zeroRow_eq : (rowOf fun _ => 0).toArray = #[.int .u8 0, .int .u8 0, .int .u8 0, .int .u8 0, .int .u8 0, .int .u8 0, .int .u8 0, .int .u8 0, .int .u8 0, .int .u8 0, .int .u8 0, .int .u8 0, .int .u8 0, .int .u8 0, .int .u8 0, .int .u8 0] := rfl
theorem info32 : (Tryz.prog.info? 44).map (·.size) = some 16 := by kernel_rfl
theorem wpList_zeroRow {ops : Array Oper} {rest : List Oper} {op : Oper} {a : Act} {w : World} {Q : Exit → Act → World → Prop} (hgd : op.guard = none) (x y : Operand) (ho : op.op = .store 44 x y)
    (b o : Nat) (hx : a.eval x = .pointer (some ⟨b, o, none⟩)) (hy : a.eval y = .agg #[.int .u8 0, .int .u8 0, .int .u8 0, .int .u8 0, .int .u8 0, .int .u8 0, .int .u8 0, .int .u8 0, .int .u8 0, .int .u8 0, .int .u8 0, .int .u8 0, .int .u8 0, .int .u8 0, .int .u8 0, .int .u8 0])
    (ht : w.there b o 16) (h : wpList Tryz.prog ops Q rest (a.put op.dst undef) (w.setCells b o (rowOf fun _ => 0))) : wpList Tryz.prog ops Q (op :: rest) a w :=
  wpList_store_mid hgd 44 x y ho b o (rowOf fun _ => 0).toArray hx (by rw [zeroRow_eq]; exact hy) ht info32 (all_oneCell_toArray (rowOf_one _)) h

theorem rTake_full (w : World) (bm : Nat) (s : Pl) (h : RefAt w bm s) (hr : ∀ i, i < s.n → s.refs i ≠ 0) :
    Calls Tryz.prog 130 #[.pointer (some ⟨bm, 0, none⟩)] w fun e w' => e = .returned (.tuple #[.int .i64 0, .int .i64 3]) ∧ w' = w := by
  have h1 := h.num
  have h2 := h.le
  have HR : Hid _ := hr
  clear hr
  go_enter Tryz.func130, Tryz.ntmps130
  go_wp2
  go_loop [4] (fun i => ∃ k : Nat, k ≤ s.n ∧ i = .int .i64 k) (fun i => s.n - (intOf i).toNat)
  case atStart => exact ⟨0, Nat.zero_le _, rfl⟩
  case round =>
    obtain ⟨k, hk, rfl⟩ := hrel
    by_cases hlt : k < s.n
    · have c1 := h.refs k hlt
      have i1 : (k : Int) < 64 := by omega
      have c2 : (s.refs k == 0) = false := by simp [HR.out k hlt]
      go_wp2
      go_round
      case rel => exact ⟨k + 1, by omega, by go_num⟩
      case measure => simp [intOf]; omega
    · go_wp2
      go_ret2
      exact ⟨rfl, rfl⟩
theorem rTake_at (w : World) (bm j : Nat) (s : Pl) (h : RefAt w bm s) (hj : j < s.n) (h0 : s.refs j = 0) (hr : ∀ i, i < j → s.refs i ≠ 0) :
    Calls Tryz.prog 130 #[.pointer (some ⟨bm, 0, none⟩)] w fun e w' => e = .returned (.tuple #[.int .i64 j, .int .i64 0]) ∧ w' = (w.setCell ⟨bm, 1025 + j, none⟩ (.int .i64 1)).setCells bm (1 + j * 16) (rowOf fun _ => 0) := by
  have h1 := h.num
  have h2 := h.le
  have HR : Hid _ := hr
  have H0 : Hid _ := h0
  clear hr h0
  go_enter Tryz.func130, Tryz.ntmps130
  go_wp2
  go_loop [4] (fun i => ∃ k : Nat, k ≤ j ∧ i = .int .i64 k) (fun i => s.n - (intOf i).toNat)
  case atStart => exact ⟨0, Nat.zero_le _, rfl⟩
  case round =>
    obtain ⟨k, hk, rfl⟩ := hrel
    have hlt : k < s.n := by omega
    have c1 := h.refs k hlt
    have i1 : (k : Int) < 64 := by omega
    by_cases hkj : k < j
    · have c2 : (s.refs k == 0) = false := by simp [HR.out k hkj]
      go_wp2
      go_round
      case rel => exact ⟨k + 1, by omega, by go_num⟩
      case measure => simp [intOf]; omega
    · have e : k = j := by omega
      subst e
      have c2 : (s.refs k == 0) = true := by simp [H0.out]
      have c3 := h.fz (1025 + k)
      have ht := (h.setRef (v := 1) hlt (by omega)).there (f := k) hlt
      go_wp2_with (refine wpList_zeroRow (by rfl) _ _ (by rfl) bm (1 + k * 16) (by rfl) (by rfl) ht ?_)
      go_ret2
      exact ⟨rfl, rfl⟩
/-- The first k bytes are alike. -/
def sameTo (g h : Nat → Int) (k : Nat) : Bool := (List.range k).all fun i => g i == h i
theorem sameTo_succ (g h : Nat → Int) (k : Nat) : sameTo g h (k + 1) = (sameTo g h k && (g k == h k)) := by simp [sameTo, List.range_succ, List.all_append]

theorem ret_bool {a b : Bool} (h : a = b) : Ending.returned (.bool a) = .returned (.bool b) := by rw [h]
theorem rSame_no (w : World) (bm : Nat) (f g : Int) (s : Pl) (h : RefAt w bm s) (hu : (s.used f && s.used g) = false) :
    Calls Tryz.prog 41 #[.pointer (some ⟨bm, 0, none⟩), .int .i64 f, .int .i64 g] w fun e w' => e = .returned (.bool false) ∧ w' = w := by
  cases hf : s.used f with
  | false =>
    go_enter Tryz.func41, Tryz.ntmps41
    go_wp2_with fail
    refine (rUsed_is _ _ _ _ h hf).mono ?_
    rintro e w' ⟨rfl, rfl⟩
    go_wp2_with fail
    refine (rUsed_any _ _ _ _ h).mono ?_
    rintro e w' ⟨rfl, rfl⟩
    go_wp2_with fail
    go_ret
    exact ⟨rfl, rfl⟩
  | true =>
    have hg : s.used g = false := by simpa [hf] using hu
    go_enter Tryz.func41, Tryz.ntmps41
    go_wp2_with fail
    refine (rUsed_is _ _ _ _ h hf).mono ?_
    rintro e w' ⟨rfl, rfl⟩
    go_wp2_with fail
    refine (rUsed_is _ _ _ _ h hg).mono ?_
    rintro e w' ⟨rfl, rfl⟩
    go_wp2_with fail
    go_ret
    exact ⟨rfl, rfl⟩
theorem rSame_yes (w : World) (bm : Nat) (f g : Int) (s : Pl) (h : RefAt w bm s) (hf : s.used f = true) (hg : s.used g = true) :
    Calls Tryz.prog 41 #[.pointer (some ⟨bm, 0, none⟩), .int .i64 f, .int .i64 g] w fun e w' => e = .returned (.bool (sameTo (s.byt f.toNat) (s.byt g.toNat) 16)) ∧ ∃ m, w' = w.drewN m := by
  obtain ⟨f0, f1, _⟩ := (s.used_iff f).1 hf
  obtain ⟨g0, g1, _⟩ := (s.used_iff g).1 hg
  have hl := h.le
  have f2 : f < 64 := by omega
  have g2 : g < 64 := by omega
  go_enter Tryz.func41, Tryz.ntmps41
  go_wp2_with fail
  refine (rUsed_is _ _ _ _ h hf).mono ?_
  rintro e w' ⟨rfl, rfl⟩
  go_wp2_with fail
  refine (rUsed_is _ _ _ _ h hg).mono ?_
  rintro e w' ⟨rfl, rfl⟩
  go_wp2_with fail
  go_loopw [9] (fun i wr => ∃ k : Nat, k ≤ 16 ∧ i = .int .i64 k ∧ sameTo (s.byt f.toNat) (s.byt g.toNat) k = true ∧ ∃ m, wr = w'.drewN m) (fun i _ => 16 - (intOf i).toNat)
  case atStart => exact ⟨0, Nat.zero_le _, rfl, rfl, 0, rfl⟩
  case round =>
    obtain ⟨k, hk, rfl, hs, m, rfl⟩ := hrel
    have HS : Hid _ := hs
    clear hs
    by_cases hlt : k < 16
    · have c1 := h.byt f.toNat k (by omega) hlt
      have c2 := h.byt g.toNat k (by omega) hlt
      have k1 : (k : Int) < 16 := by omega
      by_cases hb : s.byt f.toNat k = s.byt g.toNat k
      · have hb' : (s.byt f.toNat k != s.byt g.toNat k) = false := by simp [hb]
        have HB : Hid _ := hb
        clear hb
        go_wp2
        go_quiet (fail)
        go_wp2
        go_roundw
        case rel => exact ⟨k + 1, by omega, by go_num, by rw [sameTo_succ, HS.out]; simp [HB.out], m + nq, rfl⟩
        case measure => simp [intOf]; omega
      · have hb' : (s.byt f.toNat k != s.byt g.toNat k) = true := by simp [hb]
        have hno : sameTo (s.byt f.toNat) (s.byt g.toNat) 16 = false := by
          simp only [sameTo, List.all_eq_false]
          exact ⟨k, by simp; omega, by simp [hb]⟩
        have HN : Hid _ := hno
        clear hb hno
        go_wp2
        go_quiet (fail)
        go_wp2
        go_ret
        exact ⟨ret_bool HN.out.symm, m + nq, by simp⟩
    · have e : k = 16 := by omega
      subst e
      go_wp2
      go_ret
      exact ⟨ret_bool HS.out.symm, m, rfl⟩
theorem rSame_any (w : World) (bm : Nat) (f g : Int) (s : Pl) (h : RefAt w bm s) :
    Calls Tryz.prog 41 #[.pointer (some ⟨bm, 0, none⟩), .int .i64 f, .int .i64 g] w fun e w' => e = .returned (.bool (s.same f g)) ∧ ∃ m, w' = w.drewN m := by
  cases hu : (s.used f && s.used g) with
  | false =>
    have e : s.same f g = false := by simp only [Pl.same, hu, Bool.false_and]
    rw [e]
    refine (rSame_no w bm f g s h hu).mono ?_
    rintro e w' ⟨rfl, rfl⟩
    exact ⟨rfl, 0, rfl⟩
  | true =>
    have e : s.same f g = sameTo (s.byt f.toNat) (s.byt g.toNat) 16 := by simp only [Pl.same, hu, Bool.true_and, sameTo]
    rw [e]
    simp only [Bool.and_eq_true] at hu
    exact rSame_yes w bm f g s h hu.1 hu.2
end Go.Proofs.YtadpibcgjgcjhabGreatDoor
/- Sum and Fill of the document's answer and of package frames; Same of package frames. -/
namespace Go.Proofs.YtadpibcgjgcjhabGreatDoor
open Go.ChangeShapes Go.WideShapes Go.ChangeAt Go.RowKit
set_option maxRecDepth 100000

/-- The sum of the first k bytes. -/
def sumTo (g : Nat → Int) : Nat → Int
  | 0 => 2166136261
  | k + 1 => bits .xor .u32 (sumTo g k) (g k % 4294967296) * 16777619 % 4294967296
def Pl.sum (s : Pl) (f : Int) : Int × Int := if s.used f then (sumTo (s.byt f.toNat) 16, 0) else (0, 2)
theorem fill_from (w : World) (bp bf : Nat) (f g : Int) (s : Pl) (h : PoolAt w bp bf s) (hg : s.used g = false) :
    Calls Tryz.prog 201 #[.pointer (some ⟨bp, 0, none⟩), .int .i64 f, .int .i64 g] w fun e w' => e = .returned (.iface 37 (.int .i64 2)) ∧ w' = w := by
  go_enter Tryz.func201, Tryz.ntmps201
  go_wp2_with (go_at_call 142; refine (used_none _ _ _ _ _ h hg).mono ?_; rintro e w' ⟨rfl, rfl⟩)
  go_ret
  exact ⟨rfl, rfl⟩
theorem fill_none (w : World) (bp bf : Nat) (f g : Int) (s : Pl) (h : PoolAt w bp bf s) (hg : s.used g = true) (hf : s.used f = false) :
    Calls Tryz.prog 201 #[.pointer (some ⟨bp, 0, none⟩), .int .i64 f, .int .i64 g] w fun e w' => e = .returned (.iface 37 (.int .i64 2)) ∧ w' = w := by
  go_enter Tryz.func201, Tryz.ntmps201
  go_wp2_with (first | (go_at_call 142; refine (used_some _ _ _ _ _ h hg).mono ?_; rintro e w' ⟨rfl, rfl⟩) | (go_at_call 195; refine (alone_none _ _ _ _ _ h hf).mono ?_; rintro e w' ⟨rfl, rfl⟩))
  go_ret
  exact ⟨rfl, rfl⟩
theorem fill_held (w : World) (bp bf : Nat) (f g : Int) (s : Pl) (h : PoolAt w bp bf s) (hg : s.used g = true) (hf : s.used f = true) (hr : 1 < s.refs f.toNat) :
    Calls Tryz.prog 201 #[.pointer (some ⟨bp, 0, none⟩), .int .i64 f, .int .i64 g] w fun e w' => e = .returned (.iface 37 (.int .i64 4)) ∧ w' = w := by
  go_enter Tryz.func201, Tryz.ntmps201
  go_wp2_with (first | (go_at_call 142; refine (used_some _ _ _ _ _ h hg).mono ?_; rintro e w' ⟨rfl, rfl⟩) | (go_at_call 195; refine (alone_held _ _ _ _ _ h hf hr).mono ?_; rintro e w' ⟨rfl, rfl⟩))
  go_ret
  exact ⟨rfl, rfl⟩
theorem wpList_storeRow {ops : Array Oper} {rest : List Oper} {op : Oper} {a : Act} {w : World} {Q : Exit → Act → World → Prop} (hgd : op.guard = none) (x y : Operand) (ho : op.op = .store 44 x y)
    (b o : Nat) (g : Nat → Int) (hx : a.eval x = .pointer (some ⟨b, o, none⟩)) (hy : a.eval y = .agg (rowOf g).toArray)
    (ht : w.there b o 16) (h : wpList Tryz.prog ops Q rest (a.put op.dst undef) (w.setCells b o (rowOf g))) : wpList Tryz.prog ops Q (op :: rest) a w :=
  wpList_store_mid hgd 44 x y ho b o (rowOf g).toArray hx hy (by simpa [rowOf_length] using ht) (by simpa [rowOf_length] using info32) (all_oneCell_toArray (rowOf_one _)) h
theorem fill_yes (w : World) (bp bf : Nat) (f g : Int) (s : Pl) (h : PoolAt w bp bf s) (hg : s.used g = true) (hf : s.used f = true) (hr : s.refs f.toNat ≤ 1) :
    Calls Tryz.prog 201 #[.pointer (some ⟨bp, 0, none⟩), .int .i64 f, .int .i64 g] w fun e w' => e = .returned .nilIface ∧ w' = w.setCells bf (f.toNat * 17 + 1) (rowOf (s.byt g.toNat)) := by
  obtain ⟨f0, f1, _⟩ := (s.used_iff f).1 hf
  obtain ⟨g0, g1, _⟩ := (s.used_iff g).1 hg
  have hrg := h.range (f := g.toNat) (by omega)
  have ht := h.there (f := f.toNat) (by omega)
  go_enter Tryz.func201, Tryz.ntmps201
  go_wp2_with (first | (go_at_call 142; refine (used_some _ _ _ _ _ h hg).mono ?_; rintro e w' ⟨rfl, rfl⟩) | (go_at_call 195; refine (alone_yes _ _ _ _ _ h hf hr).mono ?_; rintro e w' ⟨rfl, rfl⟩) | (refine wpList_load_mid (by rfl) 44 _ (by rfl) bf (g.toNat * 17 + 1) (by rfl) (rowOf (s.byt g.toNat)) _ hrg Tryz.underlying44 (by rfl) (by rw [rowOf_length]; exact info32) ?_) | (refine wpList_storeRow (by rfl) _ _ (by rfl) bf (f.toNat * 17 + 1) (s.byt g.toNat) (by rfl) (by rfl) ht ?_))
  go_ret
  exact ⟨rfl, rfl⟩
theorem fill_any (w : World) (bp bf : Nat) (f g : Int) (s : Pl) (h : PoolAt w bp bf s) :
    Calls Tryz.prog 201 #[.pointer (some ⟨bp, 0, none⟩), .int .i64 f, .int .i64 g] w fun e w' => e = .returned (errV (s.fill f g).1) ∧ PoolAt w' bp bf (s.fill f g).2 ∧ Upd (fun k => k = bf) w w' := by
  cases hg : s.used g with
  | false =>
    refine (fill_from w bp bf f g s h hg).mono ?_
    rintro e w' ⟨rfl, rfl⟩
    simp only [Pl.fill, hg, Bool.and_false, Bool.false_eq_true, if_false]
    exact ⟨by rw [errV2], h, Upd.refl _ _⟩
  | true =>
    cases hf : s.used f with
    | false =>
      refine (fill_none w bp bf f g s h hg hf).mono ?_
      rintro e w' ⟨rfl, rfl⟩
      simp only [Pl.fill, hf, Bool.false_and, Bool.false_eq_true, if_false]
      exact ⟨by rw [errV2], h, Upd.refl _ _⟩
    | true =>
      obtain ⟨f0, f1, _⟩ := (s.used_iff f).1 hf
      by_cases hr : 1 < s.refs f.toNat
      · refine (fill_held w bp bf f g s h hg hf hr).mono ?_
        rintro e w' ⟨rfl, rfl⟩
        simp only [Pl.fill, hf, hg, Bool.and_true, if_true, hr]
        exact ⟨by rw [errV4], h, Upd.refl _ _⟩
      · refine (fill_yes w bp bf f g s h hg hf (by omega)).mono ?_
        rintro e w' ⟨rfl, rfl⟩
        simp only [Pl.fill, hf, hg, Bool.and_true, if_true, hr, if_false]
        exact ⟨by rw [errV_zero], h.setRow (by omega) _, Upd.row _ _ _ _⟩
end Go.Proofs.YtadpibcgjgcjhabGreatDoor
/- '==' on two frames' bytes: as the bytes are. -/
namespace Go.Proofs.YtadpibcgjgcjhabGreatDoor
open Go.ChangeShapes Go.WideShapes Go.ChangeAt Go.RowKit
set_option maxRecDepth 100000
theorem size5 (w : World) : (sizeOf 5).run Tryz.prog w = .ok 1 w := by kernel_rfl
theorem isAgg5 (w : World) : (isAgg 5).run Tryz.prog w = .ok false w := by kernel_rfl
theorem part_row (g : Nat → Int) (i : Nat) (hi : i < 16) (w : World) : (part 5 (rowOf g).toArray (i * 1)).run Tryz.prog w = .ok (.int .u8 (g i)) w := by
  unfold part
  rw [Sem.run_bind, isAgg5]
  simp [rowOf_get g i hi]
theorem eq_loop (d : Nat) (g h : Nat → Int) (w : World) : ∀ l : List Nat, (∀ i ∈ l, i < 16) →
    (forIn l ((none, ()) : Option Bool × Unit) fun i (_ : Option Bool × Unit) => do
            let a ← part 5 (rowOf g).toArray (i * 1)
            let b ← part 5 (rowOf h).toArray (i * 1)
            let r ← Op.equalIn (d + 1) 5 a b
            if (!r) = true then pure (ForInStep.done (some false, ())) else pure (ForInStep.yield (none, ()))).run Tryz.prog w =
      .ok (if l.all (fun i => g i == h i) then (none, ()) else (some false, ())) w
  | [], _ => by simp
  | i :: l, hl => by
    have hi := hl i (by simp)
    rw [List.forIn_cons]
    simp only [Sem.run_bind, part_row g i hi, part_row h i hi, Result.andThen_ok, run_equalIn_int w d 5 .u8 .u8 _ _ Tryz.underlying5]
    cases he : (g i == h i) with
    | false => simp [he]
    | true =>
      have := eq_loop d g h w l (fun j hj => hl j (by simp [hj]))
      simp only [Bool.not_true, Bool.false_eq_true, if_false, Sem.run_pure, Result.andThen_ok]
      rw [this]
      simp [he]
theorem equalIn_rows (d : Nat) (g h : Nat → Int) (w : World) : (Op.equalIn (d + 2) 44 (.agg (rowOf g).toArray) (.agg (rowOf h).toArray)).run Tryz.prog w = .ok (sameTo g h 16) w := by
  rw [Op.equalIn, Sem.run_bind, run_underlying Tryz.underlying44 w]
  simp only [Result.andThen_ok, Sem.run_bind, size5, Std.Legacy.Range.forIn_eq_forIn_range']
  rw [eq_loop d g h w _ (by intro i hi; simp [Std.Legacy.Range.size] at hi; omega)]
  have e : (List.range' (0 : Nat) 16).all (fun i => g i == h i) = sameTo g h 16 := by simp [sameTo, List.range_eq_range']
  have e2 : (List.range' 0 ([:16] : Std.Legacy.Range).size 1) = List.range' 0 16 := by simp [Std.Legacy.Range.size]
  simp only [e2, e]
  cases sameTo g h 16 <;> simp
theorem eql_rows (g h : Nat → Int) (w : World) : (binOp .eql 44 (.agg (rowOf g).toArray) (.agg (rowOf h).toArray)).run Tryz.prog w = .ok (.bool (sameTo g h 16)) w := by
  simp only [binOp]
  simp [Op.equal, Op.maxDepth, equalIn_rows 9998 g h w]
end Go.Proofs.YtadpibcgjgcjhabGreatDoor
/- Same of package frames. -/
namespace Go.Proofs.YtadpibcgjgcjhabGreatDoor
open Go.ChangeShapes Go.WideShapes Go.ChangeAt Go.RowKit
set_option maxRecDepth 100000
attribute [local go_sem ↓] Go.wp_at_zero Go.wp_at_succ

/-- A whole row is read in a region that draws its order, the quiet walk's step. -/
theorem wpQuiet_loadRow {ops : Array Oper} {C : World → Prop} {Q : Act → Prop} {a : Act} {o : Oper} {rest : List Oper} (hw : Region.wanted o (yielded ops a.tmps) = true) (x : Operand) (ho : o.op = .load 44 x)
    (b off : Nat) (hx : a.eval x = .pointer (some ⟨b, off, none⟩)) (cs : List Value) (hc : ∀ w, C w → w.rangeAt b off cs) (hi : (Tryz.prog.info? 44).map (·.size) = some cs.length)
    (h : wpQuiet Tryz.prog ops C Q rest (a.put o.dst (.agg cs.toArray))) : wpQuiet Tryz.prog ops C Q (o :: rest) a := by
  unfold wpQuiet
  rw [if_pos hw]
  refine ⟨.agg cs.toArray, fun w hC => ?_, h⟩
  unfold Oper.quietAt execOp
  simp only [ho, hx, Instr.loadAt, Instr.sureAddr, Sem.run_bind, Sem.run_pure, Result.andThen_ok, run_loadVar_mid w b off 44 cs _ (hc w hC) Tryz.underlying44 rfl hi]
  exact ⟨rfl, rfl⟩
theorem same_no (w : World) (bp bf : Nat) (f g : Int) (s : Pl) (h : PoolAt w bp bf s) (hu : (s.used f && s.used g) = false) :
    Calls Tryz.prog 113 #[.pointer (some ⟨bp, 0, none⟩), .int .i64 f, .int .i64 g] w fun e w' => e = .returned (.bool false) ∧ ∃ m, w' = w.drewN m := by
  cases hf : s.used f with
  | false =>
    go_enter Tryz.func113, Tryz.ntmps113
    go_wp2_with fail
    refine (used_none _ _ _ _ _ h hf).mono ?_
    rintro e w' ⟨rfl, rfl⟩
    go_wp2_with fail
    refine (used_any _ _ _ _ _ h).mono ?_
    rintro e w' ⟨rfl, rfl⟩
    generalize (if s.used g then some (⟨bf, g.toNat * 17, none⟩ : Addr) else none) = pg
    go_wp2_with fail
    go_quiet (fail)
    go_wp2_with fail
    go_ret
    exact ⟨rfl, _, rfl⟩
  | true =>
    have hg : s.used g = false := by simpa [hf] using hu
    go_enter Tryz.func113, Tryz.ntmps113
    go_wp2_with fail
    refine (used_some _ _ _ _ _ h hf).mono ?_
    rintro e w' ⟨rfl, rfl⟩
    go_wp2_with fail
    refine (used_none _ _ _ _ _ h hg).mono ?_
    rintro e w' ⟨rfl, rfl⟩
    go_wp2_with fail
    go_quiet (fail)
    go_wp2_with fail
    go_ret
    exact ⟨rfl, _, rfl⟩
theorem same_yes (w : World) (bp bf : Nat) (f g : Int) (s : Pl) (h : PoolAt w bp bf s) (hf : s.used f = true) (hg : s.used g = true) :
    Calls Tryz.prog 113 #[.pointer (some ⟨bp, 0, none⟩), .int .i64 f, .int .i64 g] w fun e w' => e = .returned (.bool (sameTo (s.byt f.toNat) (s.byt g.toNat) 16)) ∧ ∃ m, w' = w.drewN m := by
  obtain ⟨f0, f1, _⟩ := (s.used_iff f).1 hf
  obtain ⟨g0, g1, _⟩ := (s.used_iff g).1 hg
  have hrf := h.range (f := f.toNat) (by omega)
  have hrg := h.range (f := g.toNat) (by omega)
  have e1 := rowOf_length (s.byt f.toNat)
  have e2 := rowOf_length (s.byt g.toNat)
  have he := eql_rows (s.byt f.toNat) (s.byt g.toNat)
  revert hrf hrg e1 e2 he
  generalize rowOf (s.byt f.toNat) = c1
  generalize rowOf (s.byt g.toNat) = c2
  generalize sameTo (s.byt f.toNat) (s.byt g.toNat) 16 = r
  intro hrf hrg e1 e2 he
  have i1 : (Tryz.prog.info? 44).map (·.size) = some c1.length := by rw [e1]; exact info32
  have i2 : (Tryz.prog.info? 44).map (·.size) = some c2.length := by rw [e2]; exact info32
  go_enter Tryz.func113, Tryz.ntmps113
  go_wp2_with fail
  refine (used_some _ _ _ _ _ h hf).mono ?_
  rintro e w' ⟨rfl, rfl⟩
  go_wp2_with fail
  refine (used_some _ _ _ _ _ h hg).mono ?_
  rintro e w' ⟨rfl, rfl⟩
  go_wp2_with fail
  refine wp_region_quiet_lit (by kernel_rfl) (by kernel_rfl) ?_
  repeat (first
    | (refine wpQuiet_loadRow (by rfl) _ (by rfl) bf (f.toNat * 17 + 1) (by rfl) c1 (by rintro _ ⟨n, rfl⟩; exact hrf) i1 ?_; simp only [Act.put, List.setIfInBounds_toArray, List.set_cons_zero, List.set_cons_succ])
    | (refine wpQuiet_loadRow (by rfl) _ (by rfl) bf (g.toNat * 17 + 1) (by rfl) c2 (by rintro _ ⟨n, rfl⟩; exact hrg) i2 ?_; simp only [Act.put, List.setIfInBounds_toArray, List.set_cons_zero, List.set_cons_succ])
    | go_big_quiet_step (fail))
  refine wpQuiet_nil ?_
  intro _ hw'
  obtain ⟨nq, hw''⟩ := hw'
  subst hw''
  go_wp2_with fail
  go_ret
  exact ⟨rfl, _, rfl⟩
theorem same_any (w : World) (bp bf : Nat) (f g : Int) (s : Pl) (h : PoolAt w bp bf s) :
    Calls Tryz.prog 113 #[.pointer (some ⟨bp, 0, none⟩), .int .i64 f, .int .i64 g] w fun e w' => e = .returned (.bool (s.same f g)) ∧ ∃ m, w' = w.drewN m := by
  cases hu : (s.used f && s.used g) with
  | false =>
    have e : s.same f g = false := by simp only [Pl.same, hu, Bool.false_and]
    rw [e]
    exact same_no w bp bf f g s h hu
  | true =>
    have e : s.same f g = sameTo (s.byt f.toNat) (s.byt g.toNat) 16 := by simp only [Pl.same, hu, Bool.true_and, sameTo]
    rw [e]
    simp only [Bool.and_eq_true] at hu
    exact same_yes w bp bf f g s h hu.1 hu.2
end Go.Proofs.YtadpibcgjgcjhabGreatDoor
/- Copy of package frames, with slices.Clone beneath it. -/
namespace Go.Proofs.YtadpibcgjgcjhabGreatDoor
open Go.ChangeShapes Go.WideShapes Go.ChangeAt Go.RowKit
set_option maxRecDepth 100000

/-- Cell number i of the frames' block. -/
def poolCell (s : Pl) (i : Nat) : Value := if i % 17 = 0 then .int .i64 (s.refs (i / 17)) else .int .u8 (s.byt (i / 17) (i % 17 - 1))
def poolCells (s : Pl) : List Value := (List.range (s.n * 17)).map (poolCell s)
end Go.Proofs.YtadpibcgjgcjhabGreatDoor
/- The law's own helpers: same. -/
namespace Go.Proofs.YtadpibcgjgcjhabGreatDoor
open Go.ChangeShapes Go.WideShapes Go.ChangeAt Go.RowKit
set_option maxRecDepth 100000

theorem assert61 (w : World) (v : Value) : (Instr.typeAssert (.iface 37 v) 25 37 true).run Tryz.prog w = .ok (.tuple #[v, .bool true]) w := by kernel_rfl
theorem sameE (k : Int) (w : World) (hk : 0 ≤ k) :
    Calls Tryz.prog 6 #[errV k, .int .i64 k] w fun e w' => e = .returned (.bool true) ∧ w' = w := by
  by_cases h0 : k = 0
  · subst h0
    rw [errV_zero]
    go_enter Tryz.func6, Tryz.ntmps6
    go_wp2
    go_ret
    exact ⟨rfl, rfl⟩
  · have e : errV k = .iface 37 (.int .i64 k) := by simp [errV, h0]
    rw [e]
    have h1 : 0 < k := by omega
    have h' : (k == k) = true := by simp
    have h2 := assert61 w (.int .i64 k)
    clear h0 e hk
    go_enter Tryz.func6, Tryz.ntmps6
    go_wp2
    go_ret
    exact ⟨rfl, rfl⟩
theorem PoolAt.drewN {w : World} {bp bf : Nat} {s : Pl} (h : PoolAt w bp bf s) (n : Nat) : PoolAt (w.drewN n) bp bf s := ⟨h.hd, h.refs, h.byt, h.fz, h.ne, h.le, h.nn⟩
theorem RefAt.drewN {w : World} {bm : Nat} {s : Pl} (h : RefAt w bm s) (n : Nat) : RefAt (w.drewN n) bm s := ⟨h.num, h.byt, h.refs, h.fz, h.le, h.nn⟩
theorem same0 (w : World) : Calls Tryz.prog 6 #[.nilIface, .int .i64 0] w fun e w' => e = .returned (.bool true) ∧ w' = w := by
  have := sameE 0 w (by omega)
  rwa [errV_zero] at this
end Go.Proofs.YtadpibcgjgcjhabGreatDoor
/- The law's asPool: a pool has what its model has. -/
namespace Go.Proofs.YtadpibcgjgcjhabGreatDoor
open Go.ChangeShapes Go.WideShapes Go.ChangeAt Go.RowKit
set_option maxRecDepth 100000

/-- The box of a frame's description. -/
structure FrAt (w : World) (q : Nat) (c r : Int) : Prop where
  c0 : w.cell? ⟨q, 0, none⟩ = some (.int .i64 c)
  c1 : w.cell? ⟨q, 1, none⟩ = some (.int .i64 r)
theorem FrAt.new (w : World) (c r : Int) : FrAt (w.alloc (.cells #[.int .i64 c, .int .i64 r] 67)) w.heap.size c r := ⟨by rw [World.cell?_alloc_new]; rfl, by rw [World.cell?_alloc_new]; rfl⟩

end Go.Proofs.YtadpibcgjgcjhabGreatDoor
/- The model's pool as it is made: a literal of 1,089 cells, by a law. -/
namespace Go.Proofs.YtadpibcgjgcjhabGreatDoor
open Go.ChangeShapes Go.WideShapes Go.ChangeAt Go.RowKit
set_option maxRecDepth 100000

def refTail (a b : Nat) : List Value := List.replicate a (.int .u8 0) ++ List.replicate b (.int .i64 0)
theorem refTail_byt (a b i : Nat) (h : i < a) : (refTail a b)[i]? = some (.int .u8 0) := by
  unfold refTail
  rw [List.getElem?_append_left (by rw [List.length_replicate]; exact h), List.getElem?_replicate, if_pos h]
theorem refTail_refs (a b i : Nat) (h : i < b) : (refTail a b)[a + i]? = some (.int .i64 0) := by
  unfold refTail
  rw [List.getElem?_append_right (by rw [List.length_replicate]; omega), List.length_replicate, List.getElem?_replicate, if_pos (by omega)]
def refZero (n : Int) : Array Value := (.int .i64 n :: refTail 1024 64).toArray
theorem refZero_num (n : Int) : (refZero n)[0]? = some (.int .i64 n) := by
  unfold refZero
  simp
theorem refZero_byt (n : Int) (i : Nat) (h : i < 1024) : (refZero n)[1 + i]? = some (.int .u8 0) := by
  unfold refZero
  rw [Nat.add_comm, List.getElem?_toArray, List.getElem?_cons_succ]
  exact refTail_byt 1024 64 i h
theorem refZero_refs (n : Int) (i : Nat) (h : i < 64) : (refZero n)[1025 + i]? = some (.int .i64 0) := by
  unfold refZero
  rw [show 1025 + i = (1024 + i) + 1 by omega, List.getElem?_toArray, List.getElem?_cons_succ]
  exact refTail_refs 1024 64 i h
theorem RefAt.new (w : World) (n : Nat) (hn : n ≤ 64) : RefAt (w.alloc (.cells (refZero n) 48)) w.heap.size (pl0 n) where
  num := by rw [World.cell?_alloc_new, refZero_num]; rfl
  byt := fun f i hf hi => by
    have hf : f < n := hf
    rw [World.cell?_alloc_new, show 1 + f * 16 + i = 1 + (f * 16 + i) by omega, refZero_byt _ _ (by omega)]; rfl
  refs := fun f hf => by
    have hf : f < n := hf
    rw [World.cell?_alloc_new, refZero_refs _ _ (by omega)]; rfl
  fz := fun o => World.frozen?_alloc_new _ _ _ _
  le := hn
  nn := fun f _ => Int.le_refl _
end Go.Proofs.YtadpibcgjgcjhabGreatDoor
/- The walk of undercrofttop.TopPool. -/
namespace Go.Proofs.YtadpibcgjgcjhabGreatDoor
open Go.ChangeShapes Go.WideShapes Go.ChangeAt Go.RowKit
set_option maxRecDepth 100000

def zeroB : Array Value := Array.replicate 1024 (.int .u8 0)
def zeroR : Array Value := Array.replicate 64 (.int .i64 0)
/-- An act of a statement's input, and where it lies. -/
structure Ac where
  kind : ByteArray
  n : Int
  a : Int
  b : Int
  v : Int
  on : Bool
structure ActAt (w : World) (b o : Nat) (x : Ac) : Prop where
  c0 : w.cell? ⟨b, o, none⟩ = some (.string x.kind)
  c1 : w.cell? ⟨b, o + 1, none⟩ = some (.int .i64 x.n)
  c2 : w.cell? ⟨b, o + 2, none⟩ = some (.int .i64 x.a)
  c3 : w.cell? ⟨b, o + 3, none⟩ = some (.int .i64 x.b)
  c4 : w.cell? ⟨b, o + 4, none⟩ = some (.int .u8 x.v)
  c5 : w.cell? ⟨b, o + 5, none⟩ = some (.bool x.on)
def ActsAt (w : World) (a : Option Addr) (len : Nat) (acts : Nat → Ac) : Prop := ∀ k, k < len → ∃ b o, a = some ⟨b, o, none⟩ ∧ ActAt w b (o + k * 6) (acts k)
/-- What holds in each round of TopPool: the pool is s, the law's own arrays say t. -/
structure TopI (W w : World) (n B : Nat) (s t : Pl) : Prop where
  pool : PoolAt w (W.heap.size + 1) W.heap.size s
  sn : s.n = n
  refs : ∀ f, f < n → w.cell? ⟨W.heap.size + 2 + 1, f, none⟩ = some (.int .i64 (t.refs f))
  byt : ∀ f i, f < n → i < 16 → w.cell? ⟨W.heap.size + 2, f * 16 + i, none⟩ = some (.int .u8 (t.byt f i))
  fz7 : ∀ o, w.frozen? ⟨W.heap.size + 2, o, none⟩ = false
  fz8 : ∀ o, w.frozen? ⟨W.heap.size + 2 + 1, o, none⟩ = false
  bd : ∀ f, f < n → s.refs f ≤ 1 + B
  upd : Upd (fun _ => False) W w
  sz : W.heap.size + 4 ≤ w.heap.size

/-- The box of an act. -/
structure BoxAt (w : World) (q : Nat) (x : Ac) : Prop where
  c0 : w.cell? ⟨q, 0, none⟩ = some (.string x.kind)
  c1 : w.cell? ⟨q, 1, none⟩ = some (.int .i64 x.n)
  c2 : w.cell? ⟨q, 2, none⟩ = some (.int .i64 x.a)
  c3 : w.cell? ⟨q, 3, none⟩ = some (.int .i64 x.b)
  c4 : w.cell? ⟨q, 4, none⟩ = some (.int .u8 x.v)
  c5 : w.cell? ⟨q, 5, none⟩ = some (.bool x.on)
end Go.Proofs.YtadpibcgjgcjhabGreatDoor
/- What holds in each round of undercroftlaw.PoolSays. -/
namespace Go.Proofs.YtadpibcgjgcjhabGreatDoor
open Go.ChangeShapes Go.WideShapes Go.ChangeAt Go.RowKit
set_option maxRecDepth 100000

theorem PoolAt.drew {w : World} {bp bf : Nat} {s : Pl} (h : PoolAt w bp bf s) : PoolAt w.drew bp bf s := ⟨h.hd, h.refs, h.byt, h.fz, h.ne, h.le, h.nn⟩
theorem RefAt.drew {w : World} {bm : Nat} {s : Pl} (h : RefAt w bm s) : RefAt w.drew bm s := ⟨h.num, h.byt, h.refs, h.fz, h.le, h.nn⟩
theorem PoolAt.lt {w : World} {bp bf : Nat} {s : Pl} (h : PoolAt w bp bf s) (hn : 0 < s.n) : bf < w.heap.size := World.block_lt_of_cell? w _ (h.refs 0 hn)
theorem PoolAt.ltp {w : World} {bp bf : Nat} {s : Pl} (h : PoolAt w bp bf s) : bp < w.heap.size := by
  obtain ⟨cap, hc⟩ := h.hd
  exact World.block_lt_of_cell? w _ hc

/-- The pool and its model have one state. -/
structure PI (W w : World) (bp bf bm n B : Nat) (s : Pl) : Prop where
  pool : PoolAt w bp bf s
  ref : RefAt w bm s
  sn : s.n = n
  bd : ∀ f, f < n → s.refs f ≤ 1 + B
  upd : Upd (fun _ => False) W w
  gp : W.heap.size ≤ bp
  gf : W.heap.size ≤ bf
  gm : W.heap.size ≤ bm
  mp : bm ≠ bp
  mf : bm ≠ bf
theorem share_n (s : Pl) (f d : Int) : (s.share f d).2.n = s.n := by unfold Pl.share; split <;> rfl
theorem set_n (s : Pl) (f i v : Int) : (s.set f i v).2.n = s.n := by
  unfold Pl.set
  split
  · rfl
  · split
    · split <;> rfl
    · rfl
theorem take_n (s : Pl) : s.take.2.2.n = s.n := by unfold Pl.take; split <;> rfl
theorem setAt_le {refs : Nat → Int} {j : Nat} {v : Int} {n : Nat} {B : Int} (h : ∀ f, f < n → refs f ≤ B) (hv : v ≤ B) : ∀ f, f < n → setAt refs j v f ≤ B := by
  intro f hf
  by_cases e : f = j
  · subst e; simpa [setAt] using hv
  · simpa [setAt, e] using h f hf
theorem share_bd {s : Pl} {f d : Int} {n B : Nat} (hn : s.n = n) (h : ∀ f, f < n → s.refs f ≤ 1 + B) (hd : d ≤ 1) : ∀ k, k < n → (s.share f d).2.refs k ≤ 1 + ((B + 1 : Nat) : Int) := by
  unfold Pl.share
  split
  · rename_i hu
    obtain ⟨h0, h1, _⟩ := (s.used_iff f).1 hu
    exact setAt_le (fun k hk => by have := h k hk; omega) (by have := h f.toNat (by omega); omega)
  · intro k hk; have := h k hk; simp only; omega
end Go.Proofs.YtadpibcgjgcjhabGreatDoor
/- What a map of pages is, plainly, and the document's answer for chapter 2 in memory. -/
namespace Go.Proofs.YtadpibcgjgcjhabGreatDoor
open Go.ChangeShapes Go.WideShapes Go.ChangeAt Go.RowKit
set_option maxRecDepth 100000

/-- Where a page is. -/
structure Lf where
  there : Bool
  wr : Bool
  fr : Int
def lf0 : Lf := ⟨false, false, 0⟩
/-- The pages of a guest: their states, their leaves. -/
structure Mp where
  st : Nat → Int
  lf : Nat → Lf
  /-- What lies behind a map's own cells, where it is part of something greater. -/
  rest : Nat → Option Value := fun _ => none
def mp0 : Mp := { st := fun _ => 0, lf := fun _ => lf0 }
def onB (n : Int) : Bool := decide (0 ≤ n) && decide (n < 16)
theorem onB_iff (n : Int) : onB n = true ↔ 0 ≤ n ∧ n < 16 := by simp [onB]
theorem onB_no (n : Int) : onB n = false ↔ n < 0 ∨ 16 ≤ n := by simp [onB]; omega
/-- A page turns to another state: where it is Plain no more its frame is dropped. -/
def turnP (s : Pl) (m : Mp) (n : Nat) (z : Int) : Pl := if (m.lf n).there && !(z == 1) then (s.share (m.lf n).fr (-1)).2 else s
def turnM (m : Mp) (n : Nat) (z : Int) : Mp := { m with st := setAt m.st n z, lf := if (m.lf n).there && !(z == 1) then setAt m.lf n lf0 else m.lf }
def plugR (s : Pl) (m : Mp) (n : Int) : Int × Pl × Mp := if onB n then (if m.st n.toNat = 0 then (0, turnP s m n.toNat 1, turnM m n.toNat 1) else (4, s, m)) else (1, s, m)
def unplugR (s : Pl) (m : Mp) (n : Int) : Int × Pl × Mp := if onB n then (if m.st n.toNat = 0 then (2, s, m) else (0, turnP s m n.toNat 0, turnM m n.toNat 0)) else (1, s, m)
def giveR (s : Pl) (m : Mp) (n : Int) (back : Bool) : Int × Pl × Mp :=
  if onB n then
    (if back then (if m.st n.toNat = 2 then (0, turnP s m n.toNat 1, turnM m n.toNat 1) else (8, s, m))
     else (if m.st n.toNat = 1 then (0, turnP s m n.toNat 2, turnM m n.toNat 2) else (8, s, m)))
  else (1, s, m)
def sealR (m : Mp) (n : Int) : Int × Mp := if onB n then (if (m.lf n.toNat).there then (0, { m with lf := setAt m.lf n.toNat { m.lf n.toNat with wr := false } }) else (8, m)) else (1, m)
/-- What Touch answers: the frame, whether it moved, the error; the pool, the pages. -/
def touchR (s : Pl) (m : Mp) (n : Int) (write : Bool) : (Int × Bool × Int) × Pl × Mp :=
  if onB n then
    if m.st n.toNat = 0 then ((0, false, 2), s, m)
    else if m.st n.toNat = 2 then ((0, false, 6), s, m)
    else if (m.lf n.toNat).there && (!write || (m.lf n.toNat).wr) then (((m.lf n.toNat).fr, false, 0), s, m)
    else if (m.lf n.toNat).there && (s.refs (m.lf n.toNat).fr.toNat == 1) then (((m.lf n.toNat).fr, false, 0), s, { m with lf := setAt m.lf n.toNat { m.lf n.toNat with wr := true } })
    else if s.take.2.1 = 0 then
      ((s.take.1, (m.lf n.toNat).there, 0),
        (if (m.lf n.toNat).there then (({ s.take.2.2 with byt := setAt s.take.2.2.byt s.take.1.toNat (s.take.2.2.byt (m.lf n.toNat).fr.toNat) } : Pl).share (m.lf n.toNat).fr (-1)).2 else s.take.2.2),
        { m with lf := setAt m.lf n.toNat ⟨true, true, s.take.1⟩ })
    else ((0, false, s.take.2.1), s, m)
  else ((0, false, 1), s, m)
def joinR (s : Pl) (m : Mp) (n f : Int) : Int × Pl × Mp :=
  if onB n then
    if (m.lf n.toNat).there && !((m.lf n.toNat).fr == f) && s.same (m.lf n.toNat).fr f then
      (0, ((s.share f 1).2.share (m.lf n.toNat).fr (-1)).2, { m with lf := setAt m.lf n.toNat ⟨true, false, f⟩ })
    else (8, s, m)
  else (1, s, m)

/-- The model's map in memory: its block bx, its pool's block bm. -/
structure RMap (w : World) (bx bm : Nat) (m : Mp) : Prop where
  pool : w.cell? ⟨bx, 0, none⟩ = some (.pointer (some ⟨bm, 0, none⟩))
  st : ∀ n, n < 16 → w.cell? ⟨bx, 1 + n, none⟩ = some (.int .i64 (m.st n))
  th : ∀ n, n < 16 → w.cell? ⟨bx, 17 + n * 3, none⟩ = some (.bool (m.lf n).there)
  wr : ∀ n, n < 16 → w.cell? ⟨bx, 17 + n * 3 + 1, none⟩ = some (.bool (m.lf n).wr)
  fr : ∀ n, n < 16 → w.cell? ⟨bx, 17 + n * 3 + 2, none⟩ = some (.int .i64 (m.lf n).fr)
  fz : ∀ o, w.frozen? ⟨bx, o, none⟩ = false
  rs : ∀ o v, 65 ≤ o → m.rest o = some v → w.cell? ⟨bx, o, none⟩ = some v
theorem RMap.lt {w : World} {bx bm : Nat} {m : Mp} (h : RMap w bx bm m) : bx < w.heap.size := World.block_lt_of_cell? w _ h.pool
theorem RMap.upd {S : Nat → Prop} {w w' : World} {bx bm : Nat} {m : Mp} (h : RMap w bx bm m) (u : Upd S w w') (hx : ¬ S bx) : RMap w' bx bm m where
  pool := u.cell h.pool hx
  st := fun n hn => u.cell (h.st n hn) hx
  th := fun n hn => u.cell (h.th n hn) hx
  wr := fun n hn => u.cell (h.wr n hn) hx
  fr := fun n hn => u.cell (h.fr n hn) hx
  fz := fun o => by rw [World.frozen?_of_block (w := w) (u.block bx h.lt hx)]; exact h.fz o
  rs := fun o v ho hv => u.cell (h.rs o v ho hv) hx
theorem RMap.drew {w : World} {bx bm : Nat} {m : Mp} (h : RMap w bx bm m) : RMap w.drew bx bm m := ⟨h.pool, h.st, h.th, h.wr, h.fr, h.fz, h.rs⟩
theorem RMap.drewN {w : World} {bx bm : Nat} {m : Mp} (h : RMap w bx bm m) (n : Nat) : RMap (w.drewN n) bx bm m := ⟨h.pool, h.st, h.th, h.wr, h.fr, h.fz, h.rs⟩
theorem RMap.setSt {w : World} {bx bm : Nat} {m : Mp} (h : RMap w bx bm m) {n : Nat} (hn : n < 16) (v : Int) : RMap (w.setCell ⟨bx, 1 + n, none⟩ (.int .i64 v)) bx bm { m with st := setAt m.st n v } where
  pool := by rw [World.cell?_setCell_other _ _ _ _ (addr_ne (Or.inr (by omega)))]; exact h.pool
  st := fun k hk => by
    by_cases e : k = n
    · subst e; rw [World.cell?_setCell_same _ _ _ (h.st k hk)]; simp [setAt]
    · rw [World.cell?_setCell_other _ _ _ _ (addr_ne (Or.inr (by omega))), h.st k hk]; simp [setAt, e]
  th := fun k hk => by rw [World.cell?_setCell_other _ _ _ _ (addr_ne (Or.inr (by omega)))]; exact h.th k hk
  wr := fun k hk => by rw [World.cell?_setCell_other _ _ _ _ (addr_ne (Or.inr (by omega)))]; exact h.wr k hk
  fr := fun k hk => by rw [World.cell?_setCell_other _ _ _ _ (addr_ne (Or.inr (by omega)))]; exact h.fr k hk
  fz := fun o => by rw [World.frozen?_setCell]; exact h.fz o
  rs := fun o v ho hv => by rw [World.cell?_setCell_other _ _ _ _ (addr_ne (Or.inr (by omega)))]; exact h.rs o v ho hv
theorem RMap.setWr {w : World} {bx bm : Nat} {m : Mp} (h : RMap w bx bm m) {n : Nat} (hn : n < 16) (v : Bool) : RMap (w.setCell ⟨bx, 17 + n * 3 + 1, none⟩ (.bool v)) bx bm { m with lf := setAt m.lf n { m.lf n with wr := v } } where
  pool := by rw [World.cell?_setCell_other _ _ _ _ (addr_ne (Or.inr (by omega)))]; exact h.pool
  st := fun k hk => by rw [World.cell?_setCell_other _ _ _ _ (addr_ne (Or.inr (by omega)))]; exact h.st k hk
  th := fun k hk => by
    rw [World.cell?_setCell_other _ _ _ _ (addr_ne (Or.inr (by omega))), h.th k hk]
    by_cases e : k = n
    · subst e; simp [setAt]
    · simp [setAt, e]
  wr := fun k hk => by
    by_cases e : k = n
    · subst e; rw [World.cell?_setCell_same _ _ _ (h.wr k hk)]; simp [setAt]
    · rw [World.cell?_setCell_other _ _ _ _ (addr_ne (Or.inr (by omega))), h.wr k hk]; simp [setAt, e]
  fr := fun k hk => by
    rw [World.cell?_setCell_other _ _ _ _ (addr_ne (Or.inr (by omega))), h.fr k hk]
    by_cases e : k = n
    · subst e; simp [setAt]
    · simp [setAt, e]
  fz := fun o => by rw [World.frozen?_setCell]; exact h.fz o
  rs := fun o v ho hv => by rw [World.cell?_setCell_other _ _ _ _ (addr_ne (Or.inr (by omega)))]; exact h.rs o v ho hv
theorem RMap.setLf {w : World} {bx bm : Nat} {m : Mp} (h : RMap w bx bm m) {n : Nat} (hn : n < 16) (l : Lf) :
    RMap (((w.setCell ⟨bx, 17 + n * 3, none⟩ (.bool l.there)).setCell ⟨bx, 17 + n * 3 + 1, none⟩ (.bool l.wr)).setCell ⟨bx, 17 + n * 3 + 2, none⟩ (.int .i64 l.fr)) bx bm { m with lf := setAt m.lf n l } := by
  have hne : ∀ (o : Nat), o ≠ 17 + n * 3 → o ≠ 17 + n * 3 + 1 → o ≠ 17 + n * 3 + 2 →
      (((w.setCell ⟨bx, 17 + n * 3, none⟩ (.bool l.there)).setCell ⟨bx, 17 + n * 3 + 1, none⟩ (.bool l.wr)).setCell ⟨bx, 17 + n * 3 + 2, none⟩ (.int .i64 l.fr)).cell? ⟨bx, o, none⟩ = w.cell? ⟨bx, o, none⟩ := by
    intro o h1 h2 h3
    rw [World.cell?_setCell_other _ _ _ _ (addr_ne (Or.inr (Ne.symm h3))), World.cell?_setCell_other _ _ _ _ (addr_ne (Or.inr (Ne.symm h2))), World.cell?_setCell_other _ _ _ _ (addr_ne (Or.inr (Ne.symm h1)))]
  have e1 : (w.setCell ⟨bx, 17 + n * 3, none⟩ (.bool l.there)).cell? ⟨bx, 17 + n * 3 + 1, none⟩ = some (.bool (m.lf n).wr) := by
    rw [World.cell?_setCell_other _ _ _ _ (addr_ne (Or.inr (by omega)))]; exact h.wr n hn
  have e2 : ((w.setCell ⟨bx, 17 + n * 3, none⟩ (.bool l.there)).setCell ⟨bx, 17 + n * 3 + 1, none⟩ (.bool l.wr)).cell? ⟨bx, 17 + n * 3 + 2, none⟩ = some (.int .i64 (m.lf n).fr) := by
    rw [World.cell?_setCell_other _ _ _ _ (addr_ne (Or.inr (by omega))), World.cell?_setCell_other _ _ _ _ (addr_ne (Or.inr (by omega)))]; exact h.fr n hn
  refine ⟨by rw [hne 0 (by omega) (by omega) (by omega)]; exact h.pool, fun k hk => by rw [hne _ (by omega) (by omega) (by omega)]; exact h.st k hk, ?_, ?_, ?_, fun o => by simp only [World.frozen?_setCell]; exact h.fz o, fun o v ho hv => by rw [hne _ (by omega) (by omega) (by omega)]; exact h.rs o v ho hv⟩
  · intro k hk
    by_cases e : k = n
    · subst e
      rw [World.cell?_setCell_other _ _ _ _ (addr_ne (Or.inr (by omega))), World.cell?_setCell_other _ _ _ _ (addr_ne (Or.inr (by omega))), World.cell?_setCell_same _ _ _ (h.th k hk)]
      simp [setAt]
    · rw [hne _ (by omega) (by omega) (by omega), h.th k hk]; simp [setAt, e]
  · intro k hk
    by_cases e : k = n
    · subst e
      rw [World.cell?_setCell_other _ _ _ _ (addr_ne (Or.inr (by omega))), World.cell?_setCell_same _ _ _ e1]
      simp [setAt]
    · rw [hne _ (by omega) (by omega) (by omega), h.wr k hk]; simp [setAt, e]
  · intro k hk
    by_cases e : k = n
    · subst e
      rw [World.cell?_setCell_same _ _ _ e2]
      simp [setAt]
    · rw [hne _ (by omega) (by omega) (by omega), h.fr k hk]; simp [setAt, e]
theorem Upd.three (w : World) (b o1 o2 o3 : Nat) (v1 v2 v3 : Value) : Upd (fun k => k = b) w (((w.setCell ⟨b, o1, none⟩ v1).setCell ⟨b, o2, none⟩ v2).setCell ⟨b, o3, none⟩ v3) :=
  ((Upd.one w b o1 v1).trans (Upd.one _ b o2 v2) (fun _ _ e => e)).trans (Upd.one _ b o3 v3) (fun _ _ e => e)
theorem Upd.wide {S T : Nat → Prop} {w w' : World} (h : Upd S w w') (hT : ∀ k, S k → T k) : Upd T w w' := ⟨h.os, h.tape, h.output, h.size, fun k hk hn => h.block k hk (fun s => hn (hT k s))⟩
end Go.Proofs.YtadpibcgjgcjhabGreatDoor
/- The document's answer for chapter 2: what its functions answer, and what they turn: On, turn, Plug, Unplug, Give, Seal. -/
namespace Go.Proofs.YtadpibcgjgcjhabGreatDoor
open Go.ChangeShapes Go.WideShapes Go.ChangeAt Go.RowKit
set_option maxRecDepth 100000
attribute [local go_sem ↓] Go.wp_at_zero Go.wp_at_succ

theorem on_any (w : World) (n : Int) : Calls Tryz.prog 39 #[.int .i64 n] w fun e w' => e = .returned (.bool (onB n)) ∧ w' = w := by
  by_cases h : onB n = true
  · obtain ⟨h0, h1⟩ := (onB_iff n).1 h
    rw [h]
    clear h
    go_enter Tryz.func39, Tryz.ntmps39
    go_wp2
    go_ret
    exact ⟨rfl, rfl⟩
  · have h' : onB n = false := by simpa using h
    rw [h']
    rcases (onB_no n).1 h' with h0 | h0
    · have hd : decide (0 ≤ n) = false := by simp; omega
      clear h h'
      go_enter Tryz.func39, Tryz.ntmps39
      go_wp2
      go_ret
      exact ⟨rfl, rfl⟩
    · have hd : decide (n < 16) = false := by simp; omega
      have h1 : 0 ≤ n := by omega
      clear h h'
      go_enter Tryz.func39, Tryz.ntmps39
      go_wp2
      go_ret
      exact ⟨rfl, rfl⟩
theorem on_is (w : World) (n : Int) {u : Bool} (h : onB n = u) : Calls Tryz.prog 39 #[.int .i64 n] w fun e w' => e = .returned (.bool u) ∧ w' = w := by
  subst h; exact on_any w n

/-- No leaf to give up: the state alone turns. -/
theorem turn_plain (w : World) (bx bm n : Nat) (z : Int) (m : Mp) (h : RMap w bx bm m) (hn : n < 16) (ht : ((m.lf n).there && !(z == 1)) = false) :
    Calls Tryz.prog 65 #[.pointer (some ⟨bx, 0, none⟩), .int .i64 n, .int .i64 z] w fun e w' => e = .returned (.tuple #[]) ∧ w' = w.setCell ⟨bx, 1 + n, none⟩ (.int .i64 z) := by
  have c1 := h.th n hn
  have c2 := h.st n hn
  have c3 := h.fz (1 + n)
  have n1 : (n : Int) < 16 := by omega
  cases hth : (m.lf n).there with
  | false =>
    rw [hth] at c1
    clear hth ht
    go_enter Tryz.func65, Tryz.ntmps65
    go_wp2
    go_end0
    exact ⟨rfl, rfl⟩
  | true =>
    rw [hth] at c1 ht
    have hz : z = 1 := by simpa using ht
    subst hz
    clear hth ht
    go_enter Tryz.func65, Tryz.ntmps65
    go_wp2
    go_end0
    exact ⟨rfl, rfl⟩
theorem turn_drop (w : World) (bx bm n : Nat) (z : Int) (m : Mp) (s : Pl) (h : RMap w bx bm m) (hr : RefAt w bm s) (hne : bx ≠ bm) (hn : n < 16) (hm : ∀ k, k < s.n → s.refs k ≤ 1000000) (ht : (m.lf n).there = true) (hz : (z != 1) = true) :
    Calls Tryz.prog 65 #[.pointer (some ⟨bx, 0, none⟩), .int .i64 n, .int .i64 z] w fun e w' => e = .returned (.tuple #[]) ∧ RefAt w' bm (s.share (m.lf n).fr (-1)).2 ∧ RMap w' bx bm { m with st := setAt m.st n z, lf := setAt m.lf n lf0 } ∧ Upd (fun k => k = bm ∨ k = bx) w w' := by
  have c0 := h.pool
  have c1 := h.th n hn
  rw [ht] at c1
  have c2 := h.fr n hn
  have n0 : (0 : Int) ≤ (n : Int) := by omega
  have n1 : (n : Int) < 16 := by omega
  have HNE : Hid _ := hne
  clear ht hne
  go_enter Tryz.func65, Tryz.ntmps65
  go_wp2_with fail
  go_region_held3 (fun w' => w'.cell? ⟨bx, 0, none⟩ = some (.pointer (some ⟨bm, 0, none⟩)) ∧ w'.cell? ⟨bx, 17 + n * 3 + 2, none⟩ = some (.int .i64 (m.lf n).fr)) (first | exact ⟨c0, c2⟩ | exact h1c)
    ((go_at_call 67; refine (rShare_any _ _ _ _ s (by first | exact hr | exact hr.drew) hm (by omega) (by omega)).mono ?_; rintro e w1 ⟨rfl, hr1, hu1⟩; have h1c : w1.cell? ⟨bx, 0, none⟩ = some (.pointer (some ⟨bm, 0, none⟩)) ∧ w1.cell? ⟨bx, 17 + n * 3 + 2, none⟩ = some (.int .i64 (m.lf n).fr) := ⟨hu1.cell (by exact c0) HNE.out, hu1.cell (by exact c2) HNE.out⟩))
  have hu1' : Upd (fun k => k = bm) w w1 := (Upd.refl (fun k => k = bm) w).drew.trans hu1 (fun _ _ e => e)
  have h1 := h.upd hu1' HNE.out
  have d1 := h1.th n hn
  have d2 := h1.wr n hn
  have d3 := h1.fr n hn
  have d4 := h1.fz
  have h2 := h1.setLf hn lf0
  have d5 := h2.st n hn
  have d6 := h2.fz (1 + n)
  have h3 := h2.setSt hn z
  have hr2 := (hr1.upd (Upd.three w1 bx (17 + n * 3) (17 + n * 3 + 1) (17 + n * 3 + 2) (.bool lf0.there) (.bool lf0.wr) (.int .i64 lf0.fr)) (Ne.symm HNE.out)).upd (Upd.one _ bx (1 + n) (.int .i64 z)) (Ne.symm HNE.out)
  have H3 : Hid _ := h3
  have HR2 : Hid _ := hr2
  have hu3 := (hu1'.wide (T := fun k => k = bm ∨ k = bx) (fun _ e => Or.inl e)).trans ((Upd.three w1 bx (17 + n * 3) (17 + n * 3 + 1) (17 + n * 3 + 2) (.bool lf0.there) (.bool lf0.wr) (.int .i64 lf0.fr)).trans (Upd.one _ bx (1 + n) (.int .i64 z)) (fun _ _ e => e)) (fun _ _ e => Or.inr e)
  have HU3 : Hid _ := hu3
  have d7 := d4 (17 + n * 3)
  have d8 := d4 (17 + n * 3 + 1)
  have d9 := d4 (17 + n * 3 + 2)
  have H1 : Hid _ := h1
  clear h3 hr2 hu3 d4 h2 h1 hu1 hu1' hr1 h1c c0 c1 c2
  simp only [lf0] at d5 d6
  go_wp2_with fail
  go_end0
  exact ⟨rfl, HR2.out, H3.out, HU3.out⟩

theorem turn_any (w : World) (bx bm n : Nat) (z : Int) (m : Mp) (s : Pl) (h : RMap w bx bm m) (hr : RefAt w bm s) (hne : bx ≠ bm) (hn : n < 16) (hm : ∀ k, k < s.n → s.refs k ≤ 1000000) :
    Calls Tryz.prog 65 #[.pointer (some ⟨bx, 0, none⟩), .int .i64 n, .int .i64 z] w fun e w' => e = .returned (.tuple #[]) ∧ RefAt w' bm (turnP s m n z) ∧ RMap w' bx bm (turnM m n z) ∧ Upd (fun k => k = bm ∨ k = bx) w w' := by
  cases ht : ((m.lf n).there && !(z == 1)) with
  | false =>
    refine (turn_plain w bx bm n z m h hn ht).mono ?_
    rintro e w' ⟨rfl, rfl⟩
    simp only [turnP, turnM, ht, Bool.false_eq_true, if_false]
    exact ⟨trivial, hr.upd (Upd.one _ _ _ _) (Ne.symm hne), h.setSt hn z, (Upd.one _ _ _ _).wide (fun _ e => Or.inr e)⟩
  | true =>
    have ht' := ht
    simp only [Bool.and_eq_true, Bool.not_eq_true', beq_eq_false_iff_ne, ne_eq] at ht'
    refine (turn_drop w bx bm n z m s h hr hne hn hm ht'.1 (by simp [ht'.2])).mono ?_
    rintro e w' ⟨rfl, h1, h2, h3⟩
    simp only [turnP, turnM, ht, if_true]
    exact ⟨trivial, h1, h2, h3⟩

theorem rPlug_any (w : World) (bx bm : Nat) (n : Int) (m : Mp) (s : Pl) (h : RMap w bx bm m) (hr : RefAt w bm s) (hne : bx ≠ bm) (hm : ∀ k, k < s.n → s.refs k ≤ 1000000) :
    Calls Tryz.prog 38 #[.pointer (some ⟨bx, 0, none⟩), .int .i64 n] w fun e w' => e = .returned (.int .i64 (plugR s m n).1) ∧ RefAt w' bm (plugR s m n).2.1 ∧ RMap w' bx bm (plugR s m n).2.2 ∧ Upd (fun k => k = bm ∨ k = bx) w w' := by
  cases ho : onB n with
  | false =>
    simp only [plugR, ho, Bool.false_eq_true, if_false]
    go_enter Tryz.func38, Tryz.ntmps38
    go_wp2_with (go_at_call 39; refine (on_is _ _ ho).mono ?_; rintro e w' ⟨rfl, rfl⟩)
    go_ret
    exact ⟨rfl, hr, h, Upd.refl _ _⟩
  | true =>
    obtain ⟨h0, h1⟩ := (onB_iff n).1 ho
    obtain ⟨k, rfl⟩ := Int.eq_ofNat_of_zero_le h0
    have hk : k < 16 := by omega
    have c1 := h.st k hk
    by_cases hs : m.st k = 0
    · simp only [plugR, ho, if_true, Int.toNat_natCast, hs]
      have b1 : (m.st k != 0) = false := by simp [hs]
      clear hs
      go_enter Tryz.func38, Tryz.ntmps38
      go_wp2_with (go_at_call 39; refine (on_is _ _ ho).mono ?_; rintro e w' ⟨rfl, rfl⟩)
      refine (turn_any _ _ _ k _ _ s h hr hne hk hm).mono ?_
      rintro e w1 ⟨rfl, a1, a2, a3⟩
      go_wp2_with fail
      go_ret
      exact ⟨rfl, a1, a2, a3⟩
    · simp only [plugR, ho, if_true, Int.toNat_natCast, hs, if_false]
      have b1 : (m.st k != 0) = true := by simp [hs]
      clear hs
      go_enter Tryz.func38, Tryz.ntmps38
      go_wp2_with (go_at_call 39; refine (on_is _ _ ho).mono ?_; rintro e w' ⟨rfl, rfl⟩)
      go_ret
      exact ⟨rfl, hr, h, Upd.refl _ _⟩
end Go.Proofs.YtadpibcgjgcjhabGreatDoor
