/- The law's asPool: a pool has what its model has. -/
import Derived.Test.YtehdddmpjimfhaaAs
namespace Go.Proofs.Ytehdddmpjimfhaa
open Go.ChangeShapes Go.WideShapes Go.ChangeAt Go.RowKit
set_option maxRecDepth 100000

/-- The box of a frame's description. -/
structure FrAt (w : World) (q : Nat) (c r : Int) : Prop where
  c0 : w.cell? ⟨q, 0, none⟩ = some (.int .i64 c)
  c1 : w.cell? ⟨q, 1, none⟩ = some (.int .i64 r)
theorem FrAt.upd {S : Nat → Prop} {w w' : World} {q : Nat} {c r : Int} (h : FrAt w q c r) (u : Upd S w w') (hq : ¬ S q) : FrAt w' q c r := ⟨u.cell h.c0 hq, u.cell h.c1 hq⟩
theorem FrAt.new (w : World) (c r : Int) : FrAt (w.alloc (.cells #[.int .i64 c, .int .i64 r] 58)) w.heap.size c r := ⟨by rw [World.cell?_alloc_new]; rfl, by rw [World.cell?_alloc_new]; rfl⟩

set_option maxRecDepth 100000 in
set_option maxHeartbeats 1000000 in
theorem asPool_any (W : World) (bp bf bm : Nat) (s : Pl) (hP : PoolAt W bp bf s) (hR : RefAt W bm s) (hn : 0 < s.n) :
    Calls Try.prog 27 #[.pointer (some ⟨bp, 0, none⟩), .pointer (some ⟨bm, 0, none⟩)] W fun e w' => e = .returned (.bool true) ∧ Upd (fun _ => False) W w' := by
  have hbf : bf < W.heap.size := World.block_lt_of_cell? W _ (hP.refs 0 hn)
  have c0 := hR.num
  have hl := hP.le
  have b1 : ((s.n : Int) != (s.n : Int)) = false := by simp
  have b2 : ((s.left : Int) != (s.left : Int)) = false := by simp
  go_enter Try.func27, Try.ntmps27
  go_wp2_with fail
  go_quiet (first | (go_at_call 57; exact Calls.quiet_of_same (size_any _ _ _ _ (hP.drewN _))) | (go_at_call 28; exact Calls.quiet_of_same (left_any _ _ _ _ (hP.drewN _))) | (go_at_call 63; exact Calls.quiet_of_same (rLeft_any _ _ _ (hR.drewN _))))
  have hU0 : Upd (fun _ => False) W (W.drewN nq) := (Upd.refl _ _).drewN nq
  revert hU0
  generalize W.drewN nq = W1
  intro hU0
  clear c0 b1 b2
  go_wp2_with fail
  go_loopg [5] (s.n + 2) (fun g i wr => ∃ f : Int, f + g = s.n + 1 ∧ -1 ≤ f ∧ i = .int .i64 f ∧ Upd (fun _ => False) W wr)
  case atStart => exact ⟨-1, by omega, by omega, rfl, hU0⟩
  case round =>
    obtain ⟨f, hf, hf1, rfl, hU⟩ := hrel
    have HF : Hid _ := hf
    clear hf hU0
    have hP1 := hP.upd hU (fun f => f) (fun f => f) hbf
    have hR1 := hR.upd hU (fun f => f)
    have c0 := hR1.num
    by_cases hfn : f ≤ s.n
    · have o1 := of_code s f
      have s1 := sum_code s f
      go_wp2_with fail
      refine (of_any _ _ _ _ s hP1 hn).mono ?_
      rintro e w2 ⟨rfl, hu2⟩
      revert o1
      generalize hc : (s.of f).1 = c
      generalize hr : (s.of f).2.1 = r
      generalize hk : (s.of f).2.2 = oe
      intro o1
      have HC : Hid ((s.of f).1 = c ∧ (s.of f).2.1 = r ∧ (s.of f).2.2 = oe) := ⟨hc, hr, hk⟩
      clear hc hr hk
      go_wp2_with fail
      have q1 := FrAt.new w2 c r
      have hU3 := (hU.trans hu2 (fun _ _ f => f)).alloc (.cells #[.int .i64 c, .int .i64 r] 58)
      revert q1 hU3
      generalize w2.alloc (.cells #[.int .i64 c, .int .i64 r] 58) = w3
      generalize w2.heap.size = a1
      intro q1 hU3
      clear hu2 hP1 hR1 c0 hU
      refine (rOf_any _ _ _ s (hR.upd hU3 (fun f => f))).mono ?_
      rintro e w4 ⟨rfl, hu4⟩
      rw [HC.out.1, HC.out.2.1, HC.out.2.2]
      go_wp2_with fail
      have q2 := FrAt.new w4 c r
      have hU5 := (hU3.trans hu4 (fun _ _ f => f)).alloc (.cells #[.int .i64 c, .int .i64 r] 58)
      have q1' := q1.upd (hu4.alloc (.cells #[.int .i64 c, .int .i64 r] 58)) (fun f => f)
      revert q1' q2 hU5
      generalize w4.alloc (.cells #[.int .i64 c, .int .i64 r] 58) = w5
      generalize w4.heap.size = a2
      intro q2 hU5 q1'
      clear q1 hU3 hu4
      have hP5 := hP.upd hU5 (fun f => f) (fun f => f) hbf
      have hR5 := hR.upd hU5 (fun f => f)
      obtain ⟨x0, x1⟩ := q1'
      obtain ⟨y0, y1⟩ := q2
      refine (sum_any _ _ _ _ s hP5).mono ?_
      rintro e w6 ⟨rfl, rfl⟩
      go_wp2_with fail
      refine (rSum_any _ _ _ s hR5).mono ?_
      rintro e w6 ⟨rfl, rfl⟩
      revert s1
      generalize (s.sum f).1 = sm
      generalize (s.sum f).2 = se
      intro s1
      have bs : (sm != sm) = false := by simp
      go_wp2_with fail
      refine (sameE oe _ o1).mono ?_
      rintro e w7 ⟨rfl, rfl⟩
      go_wp2_with fail
      refine (sameE se _ s1).mono ?_
      rintro e w7 ⟨rfl, rfl⟩
      clear x0 x1 y0 y1 bs
      go_wp2_with fail
      go_loopg [14] 16 (fun g i wi => ∃ k : Nat, k + g = 16 ∧ i = .int .i64 k ∧ wi = w7)
      case atStart => exact ⟨0, by omega, rfl, rfl⟩
      case round =>
        obtain ⟨k, hk, rfl, rfl⟩ := hrel
        have HK : Hid _ := hk
        clear hk
        by_cases hlt : k < 16
        · have g1 := get_code s f k
          have bg : ((s.get f k).1 != (s.get f k).1) = false := by simp
          go_wp2_with fail
          refine (get_any _ _ _ _ _ s hP5).mono ?_
          rintro e w8 ⟨rfl, rfl⟩
          go_wp2_with fail
          refine (rGet_any _ _ _ _ s hR5).mono ?_
          rintro e w8 ⟨rfl, rfl⟩
          go_wp2_with fail
          refine (sameE _ _ g1).mono ?_
          rintro e w8 ⟨rfl, rfl⟩
          go_wp2_with fail
          go_roundg (16 - (k + 1))
          case rel => exact ⟨k + 1, by omega, by go_num, rfl⟩
          case measure => have := HK.out; omega
        · go_wp2_with fail
          go_roundg (s.n + 1 - (f + 1)).toNat
          case rel => exact ⟨f + 1, by omega, by omega, by go_num, hU5⟩
          case measure => have := HF.out; omega
    · go_wp2_with fail
      go_ret
      exact ⟨rfl, hU⟩
end Go.Proofs.Ytehdddmpjimfhaa
