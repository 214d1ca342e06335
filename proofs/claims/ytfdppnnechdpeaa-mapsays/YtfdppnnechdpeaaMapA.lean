/- The law's asMap: a map has what its model has. -/
import Derived.Test.YtfdppnnechdpeaaMapd
namespace Go.Proofs.Ytfdppnnechdpeaa
open Go.ChangeShapes Go.WideShapes Go.ChangeAt Go.RowKit
set_option maxRecDepth 100000

theorem same1 (w : World) : Calls Try.prog 10 #[errV 1, .int .i64 1] w fun e w' => e = .returned (.bool true) ∧ w' = w := sameE 1 w (by omega)
theorem stR_on {m : Mp} {k : Nat} (hk : k < 16) : stR m (k : Int) = (m.st k, 0) := by
  have : onB (k : Int) = true := by simp [onB]; omega
  simp [stR, this]
theorem stR_off {m : Mp} {n : Int} (h : n < 0 ∨ 15 < n) : stR m n = (0, 1) := by
  have : onB n = false := (onB_no n).2 (by omega)
  simp [stR, this]
theorem lfR_on {m : Mp} {k : Nat} (hk : k < 16) : lfR m (k : Int) = (m.lf k, 0) := by
  have : onB (k : Int) = true := by simp [onB]; omega
  simp [lfR, this]
theorem lfR_off {m : Mp} {n : Int} (h : n < 0 ∨ 15 < n) : lfR m n = (lf0, 1) := by
  have : onB n = false := (onB_no n).2 (by omega)
  simp [lfR, this]
theorem lvState_on (w : World) (bl bp k : Nat) (m : Mp) (h : LvAt w bl bp m) (hk : k < 16) :
    Calls Try.prog 65 #[.pointer (some ⟨bl, 0, none⟩), .int .i64 k] w fun e w' => e = .returned (.tuple #[.int .i64 (m.st k), .nilIface]) ∧ Upd (fun _ => False) w w' := by
  have := lvState w bl bp k m h
  rwa [stR_on hk, errV_zero] at this
theorem lvLeaf_on (w : World) (bl bp k : Nat) (m : Mp) (h : LvAt w bl bp m) (hk : k < 16) :
    Calls Try.prog 36 #[.pointer (some ⟨bl, 0, none⟩), .int .i64 k] w fun e w' => e = .returned (.tuple #[.agg #[.bool (m.lf k).there, .bool (m.lf k).wr, .int .i64 (m.lf k).fr], .nilIface]) ∧ Upd (fun _ => False) w w' := by
  have := lvLeaf w bl bp k m h
  rwa [lfR_on hk, errV_zero] at this
theorem lvState_off (w : World) (bl bp : Nat) (n : Int) (m : Mp) (h : LvAt w bl bp m) (hn : n < 0 ∨ 15 < n) :
    Calls Try.prog 65 #[.pointer (some ⟨bl, 0, none⟩), .int .i64 n] w fun e w' => e = .returned (.tuple #[.int .i64 0, errV 1]) ∧ Upd (fun _ => False) w w' := by
  have := lvState w bl bp n m h
  rwa [stR_off hn] at this
theorem lvLeaf_off (w : World) (bl bp : Nat) (n : Int) (m : Mp) (h : LvAt w bl bp m) (hn : n < 0 ∨ 15 < n) :
    Calls Try.prog 36 #[.pointer (some ⟨bl, 0, none⟩), .int .i64 n] w fun e w' => e = .returned (.tuple #[.agg #[.bool false, .bool false, .int .i64 0], errV 1]) ∧ Upd (fun _ => False) w w' := by
  have := lvLeaf w bl bp n m h
  rwa [lfR_off hn] at this

set_option maxHeartbeats 1000000 in
theorem asMap_any (W : World) (bl bp bx bm : Nat) (m : Mp) (hL : LvAt W bl bp m) (hX : RMap W bx bm m) :
    Calls Try.prog 34 #[.pointer (some ⟨bl, 0, none⟩), .pointer (some ⟨bx, 0, none⟩)] W fun e w' => e = .returned (.bool true) ∧ Upd (fun _ => False) W w' := by
  go_enter Try.func34, Try.ntmps34
  go_wp2_with fail
  go_loopg [5] 18 (fun g i wr => ∃ n : Int, n + g = 17 ∧ -1 ≤ n ∧ i = .int .i64 n ∧ Upd (fun _ => False) W wr)
  case atStart => exact ⟨-1, by omega, by omega, rfl, Upd.refl _ _⟩
  case round =>
    obtain ⟨n, hn, hn1, rfl, hU⟩ := hrel
    have HN : Hid _ := hn
    clear hn
    have hL1 := hL.upd hU (fun f => f)
    by_cases hle : n ≤ 16
    · by_cases hoff : n < 0 ∨ 15 < n
      · have hcase : n = -1 ∨ n = 16 := by omega
        rcases hcase with rfl | rfl
        all_goals
          clear hoff hle hn1
          go_wp2_with fail
          refine (lvState_off _ _ _ _ m hL1 (by omega)).mono ?_
          rintro e w2 ⟨rfl, hu2⟩
          have hU2 := hU.trans hu2 (fun _ _ f => f)
          have hL2 := hL.upd hU2 (fun f => f)
          clear hL1 hu2 hU
          go_wp2_with fail
          refine (lvLeaf_off _ _ _ _ m hL2 (by omega)).mono ?_
          rintro e w3 ⟨rfl, hu3⟩
          have hU3 := hU2.trans hu3 (fun _ _ f => f)
          clear hL2 hu3 hU2
          go_wp2_with fail
          refine (same1 _).mono ?_
          rintro e w4 ⟨rfl, rfl⟩
          go_wp2_with fail
          refine (same1 _).mono ?_
          rintro e w4 ⟨rfl, rfl⟩
          go_wp2_with fail
        · go_roundg 17
          case rel => exact ⟨0, by omega, by omega, by go_num, hU3.alloc _⟩
          case measure => have := HN.out; omega
        · go_roundg 0
          case rel => exact ⟨17, by omega, by omega, by go_num, hU3.alloc _⟩
          case measure => have := HN.out; omega
      · obtain ⟨k, rfl⟩ := Int.eq_ofNat_of_zero_le (show 0 ≤ n by omega)
        have hk : k < 16 := by omega
        have k0 : (0 : Int) ≤ (k : Int) := by omega
        have k1 : (k : Int) < 16 := by omega
        have hd1 : decide ((k : Int) < 0) = false := by simp
        have hd2 : decide (15 < (k : Int)) = false := by simp; omega
        clear hoff hle hn1
        go_wp2_with fail
        refine (lvState_on _ _ _ k m hL1 hk).mono ?_
        rintro e w2 ⟨rfl, hu2⟩
        have hU2 := hU.trans hu2 (fun _ _ f => f)
        have hL2 := hL.upd hU2 (fun f => f)
        clear hL1 hu2 hU
        go_wp2_with fail
        refine (lvLeaf_on _ _ _ k m hL2 hk).mono ?_
        rintro e w3 ⟨rfl, hu3⟩
        have hU3 := hU2.trans hu3 (fun _ _ f => f)
        clear hL2 hu3 hU2
        go_wp2_with fail
        have q3 := LfAt.new w3 69 (m.lf k)
        have hU4 := hU3.alloc (.cells #[.bool (m.lf k).there, .bool (m.lf k).wr, .int .i64 (m.lf k).fr] 69)
        revert q3 hU4
        generalize w3.alloc (.cells #[.bool (m.lf k).there, .bool (m.lf k).wr, .int .i64 (m.lf k).fr] 69) = w4
        generalize w3.heap.size = q
        intro q3 hU4
        have hX4 := hX.upd hU4 (fun f => f)
        have c1 := hX4.st k hk
        have c2 := hX4.th k hk
        have c3 := hX4.wr k hk
        have c4 := hX4.fr k hk
        obtain ⟨y0, y1, y2⟩ := q3
        have b1 : (m.st k != m.st k) = false := by simp
        go_quiet (fail)
        go_wp2_with fail
        go_roundg (17 - (k + 1))
        case rel => exact ⟨k + 1, by omega, by omega, by go_num, hU4.drewN nq⟩
        case measure => have := HN.out; omega
    · go_wp2_with fail
      go_ret
      exact ⟨rfl, hU⟩
end Go.Proofs.Ytfdppnnechdpeaa
