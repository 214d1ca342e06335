/- The walk of undercroftlaw.PoolSays. -/
import Derived.Test.YtadpibcgjgcjhaaPart02
import Derived.Test.YtadpibcgjgcjhaaPart03
import Derived.Deep.Slices
import Derived.ShutString
import Derived.ChangeOld
import Derived.Below
namespace Go.Proofs.Ytadpibcgjgcjhaa
open Go.ChangeShapes Go.WideShapes Go.ChangeAt Go.RowKit
set_option maxRecDepth 100000
attribute [local go_sem ↓] Go.wp_at_zero Go.wp_at_succ

set_option maxRecDepth 100000 in
set_option maxHeartbeats 2000000 in
theorem pool_walk (W : World) (n : Nat) (a : Option Addr) (len cap : Nat) (acts : Nat → Ac) (hn : 1 ≤ n) (hn2 : n ≤ 64) (hl : len ≤ 80) (hacts : ActsAt W a len acts) :
    Calls Try.prog 3 #[.int .i64 n, .slice a len cap] W fun e w' => e = .returned (.bool true) ∧ Upd (fun _ => False) W w' := by
  have HA : Hid _ := hacts
  clear hacts
  have d1 : decide ((n : Int) < 1) = false := by simp; omega
  have d2 : decide (64 < (n : Int)) = false := by simp; omega
  have z1 := zero36
  have z2 := refZero_ne
  have z3 := refZero_set
  go_enter Try.func3, Try.ntmps3
  go_wp2_with fail
  refine (takes_any _).mono ?_
  rintro e w0 ⟨rfl, hu0⟩
  go_wp2_with fail
  refine (light_yes _ _ _ _ hl).mono ?_
  rintro e w1 ⟨rfl, rfl⟩
  go_wp2_with fail
  refine (new_any _ n hn hn2).mono ?_
  rintro e w2 ⟨rfl, hp, hu, hz⟩
  have hr0 := RefAt.new w2 n hn2
  have hz0 := hu0.size
  have hI0 : PI W (w2.alloc (.cells (refZero n) 36)) (w1.heap.size + 1) w1.heap.size w2.heap.size n 0 (pl0 n) :=
    ⟨hp.upd ((Upd.refl (fun _ => False) w2).alloc _) (fun f => f) (fun f => f) (by omega), hr0, rfl, fun f _ => by simp [pl0], (hu0.trans hu (fun _ _ f => f)).alloc _, by omega, by omega, by omega, by omega, by omega⟩
  have HI0 : Hid _ := hI0
  clear hI0 hr0 hz0 hp hu hu0 hz
  go_wp2_with fail
  clear z1 z2 z3
  revert HI0
  generalize w2.alloc (.cells (refZero n) 36) = w3
  generalize w2.heap.size = bm
  intro HI0
  go_loopg [6, 9] len (fun g p i w => ∃ (k bp bf : Nat) (s : Pl), k + g = len ∧ i = .int .i64 k ∧ p = .pointer (some ⟨bp, 0, none⟩) ∧ PI W w bp bf bm n k s)
  case atStart => exact ⟨0, _, _, pl0 n, by omega, rfl, rfl, HI0.out⟩
  case round =>
    obtain ⟨k, bp, bf, s, hk, rfl, rfl, hI⟩ := hrel
    have HK : Hid _ := hk
    clear hk HI0
    by_cases hlt : k < len
    · obtain ⟨b, o, rfl, hx⟩ := HA.out k hlt
      clear HA
      generalize acts k = x at hx
      have hx' := hx.upd hI.upd (fun f => f)
      obtain ⟨x1, x2, x3, x4, x5, x6⟩ := hx'
      clear hx
      go_upto_block 2 with fail
      clear x1 x2 x3 x4 x5 x6
      have hB := BoxAt.new wr x
      have hJ := hI.keep hn ((Upd.refl _ _).alloc (.cells #[.string x.kind, .int .i64 x.n, .int .i64 x.a, .int .i64 x.b, .int .u8 x.v, .bool x.on] 38))
      have qp := hI.pool.ltp
      have qf := hI.pool.lt (by rw [hI.sn]; exact hn)
      have qm : bm < wr.heap.size := World.block_lt_of_cell? _ _ hI.ref.num
      revert hB hJ qp qf qm
      generalize wr.alloc (.cells #[.string x.kind, .int .i64 x.n, .int .i64 x.a, .int .i64 x.b, .int .u8 x.v, .bool x.on] 38) = W1
      generalize wr.heap.size = q
      intro hB hJ qp qf qm
      clear hI
      have hm : ∀ f, f < s.n → s.refs f ≤ 1000000 := fun f hf => by have := hJ.bd f (by rw [← hJ.sn]; exact hf); omega
      have np : q ≠ bp := by omega
      have nf : ¬ q = bf := by omega
      have nm : ¬ q = bm := by omega
      have mf := hJ.mf
      have mp := hJ.mp
      have MF : Hid _ := mf
      have MP : Hid _ := mp
      clear mf mp
      go_cut [6, 11] (fun p ok wc => ok = .bool true ∧ ∃ (bp' bf' : Nat) (s' : Pl), p = .pointer (some ⟨bp', 0, none⟩) ∧ PI W wc bp' bf' bm n (k + 1) s')
      case first =>
        by_cases k1 : (x.kind.toList == [116, 97, 107, 101]) = true
        · have te := take_code s
          have tb : (s.take.1 == s.take.1) = true := by simp
          go_wp2_with fail
          refine (take_any _ _ _ s hJ.pool).mono ?_
          rintro e w4 ⟨rfl, hp4, hu4⟩
          go_wp2_with fail
          have hr4 := hJ.ref.upd hu4 MF.out
          refine (rTake_any _ _ s hr4).mono ?_
          rintro e w5 ⟨rfl, hr5, hu5⟩
          go_wp2_with fail
          refine (sameE _ _ te).mono ?_
          rintro e w6 ⟨rfl, rfl⟩
          go_wp2_with fail
          go_meet
          case rel => exact ⟨rfl, bp, bf, _, rfl, hJ.two hn hp4 hu4 hr5 hu5 (by rw [take_n]; exact hJ.sn) (take_bd hJ.bd)⟩
        · have k1' : (x.kind.toList == [116, 97, 107, 101]) = false := by simpa using k1
          clear k1
          by_cases k2 : (x.kind.toList == [115, 104, 97, 114, 101]) = true
          · have c2 := hB.c2
            have te := share_code s x.a 1
            go_wp2_with fail
            go_region_held3 (fun w' => w'.cell? ⟨q, 2, none⟩ = some (.int .i64 x.a)) (first | exact c2 | exact c3 | exact c4)
              (first
                | (go_at_call 16; refine (share_any _ _ _ _ s (by first | exact hJ.pool | exact hJ.pool.drew) hm).mono ?_; rintro e w4 ⟨rfl, hp4, hu4⟩; have c3 : w4.cell? ⟨q, 2, none⟩ = some (.int .i64 x.a) := hu4.cell (by exact c2) nf; have hr4 := RefAt.upd (by first | exact hJ.ref | exact hJ.ref.drew) hu4 MF.out)
                | (go_at_call 17; refine (rShare_any _ _ _ _ s hr4 hm (by omega) (by omega)).mono ?_; rintro e w5 ⟨rfl, hr5, hu5⟩; have c4 : w5.cell? ⟨q, 2, none⟩ = some (.int .i64 x.a) := hu5.cell (by exact c3) nm)
                | (go_at_call 13; refine (sameE _ _ te).mono ?_; rintro e w6 ⟨rfl, rfl⟩))
            go_wp2_with fail
            go_meet
            case rel => exact ⟨rfl, bp, bf, _, rfl, hJ.drew.two hn hp4 hu4 hr5 hu5 (by rw [share_n]; exact hJ.sn) (share_bd hJ.sn hJ.bd (by omega))⟩
          · have k2' : (x.kind.toList == [115, 104, 97, 114, 101]) = false := by simpa using k2
            clear k2
            by_cases k3 : (x.kind.toList == [100, 114, 111, 112]) = true
            · have c2 := hB.c2
              have te := share_code s x.a (-1)
              go_wp2_with fail
              go_region_held3 (fun w' => w'.cell? ⟨q, 2, none⟩ = some (.int .i64 x.a)) (first | exact c2 | exact c3 | exact c4)
                (first
                  | (go_at_call 18; refine (drop_any _ _ _ _ s (by first | exact hJ.pool | exact hJ.pool.drew) hm).mono ?_; rintro e w4 ⟨rfl, hp4, hu4⟩; have c3 : w4.cell? ⟨q, 2, none⟩ = some (.int .i64 x.a) := hu4.cell (by exact c2) nf; have hr4 := RefAt.upd (by first | exact hJ.ref | exact hJ.ref.drew) hu4 MF.out)
                  | (go_at_call 17; refine (rShare_any _ _ _ _ s hr4 hm (by omega) (by omega)).mono ?_; rintro e w5 ⟨rfl, hr5, hu5⟩; have c4 : w5.cell? ⟨q, 2, none⟩ = some (.int .i64 x.a) := hu5.cell (by exact c3) nm)
                  | (go_at_call 13; refine (sameE _ _ te).mono ?_; rintro e w6 ⟨rfl, rfl⟩))
              go_wp2_with fail
              go_meet
              case rel => exact ⟨rfl, bp, bf, _, rfl, hJ.drew.two hn hp4 hu4 hr5 hu5 (by rw [share_n]; exact hJ.sn) (share_bd hJ.sn hJ.bd (by omega))⟩
            · have k3' : (x.kind.toList == [100, 114, 111, 112]) = false := by simpa using k3
              clear k3
              by_cases k4 : (x.kind.toList == [103, 101, 116]) = true
              · have c2 := hB.c2
                have c3 := hB.c3
                have te := get_code s x.a x.b
                have tb : ((s.get x.a x.b).1 == (s.get x.a x.b).1) = true := by simp
                go_wp2_with fail
                refine (get_any _ _ _ _ _ s hJ.pool).mono ?_
                rintro e w4 ⟨rfl, rfl⟩
                go_wp2_with fail
                refine (rGet_any _ _ _ _ s hJ.ref).mono ?_
                rintro e w4 ⟨rfl, rfl⟩
                go_wp2_with fail
                refine (sameE _ _ te).mono ?_
                rintro e w4 ⟨rfl, rfl⟩
                go_wp2_with fail
                go_meet
                case rel => exact ⟨rfl, bp, bf, _, rfl, hJ.more (by omega)⟩
              · have k4' : (x.kind.toList == [103, 101, 116]) = false := by simpa using k4
                clear k4
                by_cases k5 : (x.kind.toList == [115, 101, 116]) = true
                · have c2 := hB.c2
                  have c3 := hB.c3
                  have c4 := hB.c4
                  have te := set_code s x.a x.b x.v
                  go_wp2_with fail
                  go_region_held3 (fun w' => w'.cell? ⟨q, 2, none⟩ = some (.int .i64 x.a) ∧ w'.cell? ⟨q, 3, none⟩ = some (.int .i64 x.b) ∧ w'.cell? ⟨q, 4, none⟩ = some (.int .u8 x.v)) (first | exact ⟨c2, c3, c4⟩ | exact h4c | exact h5c)
                    (first
                      | (go_at_call 21; refine (set_any _ _ _ _ _ _ s (by first | exact hJ.pool | exact hJ.pool.drew)).mono ?_; rintro e w4 ⟨rfl, hp4, hu4⟩; have h4c : w4.cell? ⟨q, 2, none⟩ = some (.int .i64 x.a) ∧ w4.cell? ⟨q, 3, none⟩ = some (.int .i64 x.b) ∧ w4.cell? ⟨q, 4, none⟩ = some (.int .u8 x.v) := ⟨hu4.cell (by exact c2) nf, hu4.cell (by exact c3) nf, hu4.cell (by exact c4) nf⟩; have hr4 := RefAt.upd (by first | exact hJ.ref | exact hJ.ref.drew) hu4 MF.out)
                      | (go_at_call 22; refine (rSet_any _ _ _ _ _ s hr4).mono ?_; rintro e w5 ⟨rfl, hr5, hu5⟩; have h5c : w5.cell? ⟨q, 2, none⟩ = some (.int .i64 x.a) ∧ w5.cell? ⟨q, 3, none⟩ = some (.int .i64 x.b) ∧ w5.cell? ⟨q, 4, none⟩ = some (.int .u8 x.v) := ⟨hu5.cell h4c.1 nm, hu5.cell h4c.2.1 nm, hu5.cell h4c.2.2 nm⟩)
                      | (go_at_call 13; refine (sameE _ _ te).mono ?_; rintro e w6 ⟨rfl, rfl⟩))
                  go_wp2_with fail
                  go_meet
                  case rel => exact ⟨rfl, bp, bf, _, rfl, hJ.drew.two hn hp4 hu4 hr5 hu5 (by rw [set_n]; exact hJ.sn) (set_bd hJ.bd)⟩
                · have k5' : (x.kind.toList == [115, 101, 116]) = false := by simpa using k5
                  clear k5
                  by_cases k6 : (x.kind.toList == [102, 105, 108, 108]) = true
                  · have c2 := hB.c2
                    have c3 := hB.c3
                    have te := fill_code s x.a x.b
                    go_wp2_with fail
                    go_region_held3 (fun w' => w'.cell? ⟨q, 2, none⟩ = some (.int .i64 x.a) ∧ w'.cell? ⟨q, 3, none⟩ = some (.int .i64 x.b)) (first | exact ⟨c2, c3⟩ | exact h4c | exact h5c)
                      (first
                        | (go_at_call 23; refine (fill_any _ _ _ _ _ s (by first | exact hJ.pool | exact hJ.pool.drew)).mono ?_; rintro e w4 ⟨rfl, hp4, hu4⟩; have h4c : w4.cell? ⟨q, 2, none⟩ = some (.int .i64 x.a) ∧ w4.cell? ⟨q, 3, none⟩ = some (.int .i64 x.b) := ⟨hu4.cell (by exact c2) nf, hu4.cell (by exact c3) nf⟩; have hr4 := RefAt.upd (by first | exact hJ.ref | exact hJ.ref.drew) hu4 MF.out)
                        | (go_at_call 24; refine (rFill_any _ _ _ _ s hr4).mono ?_; rintro e w5 ⟨rfl, hr5, hu5⟩; have h5c : w5.cell? ⟨q, 2, none⟩ = some (.int .i64 x.a) ∧ w5.cell? ⟨q, 3, none⟩ = some (.int .i64 x.b) := ⟨hu5.cell h4c.1 nm, hu5.cell h4c.2 nm⟩)
                        | (go_at_call 13; refine (sameE _ _ te).mono ?_; rintro e w6 ⟨rfl, rfl⟩))
                    go_wp2_with fail
                    go_meet
                    case rel => exact ⟨rfl, bp, bf, _, rfl, hJ.drew.two hn hp4 hu4 hr5 hu5 (by rw [fill_n]; exact hJ.sn) (fill_bd hJ.bd)⟩
                  · have k6' : (x.kind.toList == [102, 105, 108, 108]) = false := by simpa using k6
                    clear k6
                    by_cases k7 : (x.kind.toList == [115, 97, 109, 101]) = true
                    · have c2 := hB.c2
                      have c3 := hB.c3
                      have tb : (s.same x.a x.b == s.same x.a x.b) = true := by simp
                      go_wp2_with fail
                      go_quiet (first | (go_at_call 25; exact Calls.quiet_of (same_any _ _ _ _ _ s (hJ.pool.drewN _))) | (go_at_call 26; exact Calls.quiet_of (rSame_any _ _ _ _ s (hJ.ref.drewN _))))
                      go_wp2_with fail
                      go_meet
                      case rel => exact ⟨rfl, bp, bf, _, rfl, (hJ.drewN nq).more (by omega)⟩
                    · have k7' : (x.kind.toList == [115, 97, 109, 101]) = false := by simpa using k7
                      clear k7
                      have hn1 : 0 < s.n := by rw [hJ.sn]; exact hn
                      go_wp2_with fail
                      refine (copy_any _ _ _ s hJ.pool hn1).mono ?_
                      rintro e w4 ⟨cp, cf, rfl, hpc, gcp, gcf, lcp, lcf, hu4⟩
                      go_wp2_with fail
                      have hp4 := hJ.pool.upd hu4 (fun f => f) (fun f => f) (hJ.pool.lt hn1)
                      refine (take_any _ _ _ s hp4).mono ?_
                      rintro e w5 ⟨rfl, hp5, hu5⟩
                      go_wp2_with fail
                      refine (set_any _ _ _ _ _ _ _ hp5).mono ?_
                      rintro e w6 ⟨rfl, hp6, hu6⟩
                      go_wp2_with fail
                      refine (drop_any _ _ _ _ _ hp6 (fun f hf => by have := set_bd (f := 0) (i := 0) (v := 77) (take_bd hJ.bd) f (by rw [← hJ.sn, ← take_n s, ← set_n s.take.2.2 0 0 77]; exact hf); omega)).mono ?_
                      rintro e w7 ⟨rfl, hp7, hu7⟩
                      go_wp2_with fail
                      go_meet
                      case rel => exact ⟨rfl, cp, cf, s, rfl, hJ.moved hn hpc hu4 gcp gcf lcf ((hu5.trans hu6 (fun _ _ e => e)).trans hu7 (fun _ _ e => e))⟩
      case rest =>
        obtain ⟨rfl, bp', bf', s', rfl, hE⟩ := hcut
        clear hB hJ qp qf qm hm np nf nm MF MP
        go_wp2_with fail
        go_roundg (len - (k + 1))
        case rel => exact ⟨k + 1, bp', bf', s', by omega, by go_num, rfl, hE⟩
        case measure => have := HK.out; omega
    · go_wp2_with fail
      refine (asPool_any _ _ _ _ s hI.pool hI.ref (by rw [hI.sn]; exact hn)).mono ?_
      rintro e w4 ⟨rfl, hu4⟩
      go_wp2_with fail
      go_ret
      exact ⟨rfl, hI.upd.trans hu4 (fun _ _ f => f)⟩
end Go.Proofs.Ytadpibcgjgcjhaa
/- How a list of acts that came in lies in memory: what each statement over acts is told of its argument. -/
namespace Go.Proofs.Ytadpibcgjgcjhaa
open Go.ChangeShapes Go.WideShapes Go.ChangeAt Go.RowKit Go.Deep
set_option maxRecDepth 100000

theorem cells38 : Try.prog.cellsOf 38 = 6 := by kernel_rfl
theorem cells3 : Try.prog.cellsOf 3 = 1 := by kernel_rfl
theorem cells4 : Try.prog.cellsOf 4 = 1 := by kernel_rfl
theorem cells5 : Try.prog.cellsOf 5 = 1 := by kernel_rfl
theorem cells9 : Try.prog.cellsOf 9 = 1 := by kernel_rfl

theorem act_of {H : Type} {enc : TypeId × Value → H} {W : World} {base n : Nat} {sp : Nat → Bool} {held : Bool} {cs : List Value} {y : DataW H × List MemPlace}
    (h : DataW.trod enc Try.prog W base sp held n 38 cs = some y) :
    ∃ x : Ac, cs = [.string x.kind, .int .i64 x.n, .int .i64 x.a, .int .i64 x.b, .int .u8 x.v, .bool x.on] ∧ (Lit.int .u8 x.v).wf = true := by
  obtain ⟨xs, m, _, _, hl, hlen, hf⟩ := DataW.trod_struct Try.underlying38 h
  rw [cells38] at hl
  have hx : xs.length = 6 := hlen
  match cs, hl, xs, hx with
  | [c0, c1, c2, c3, c4, c5], _, [y0, y1, y2, y3, y4, y5], _ =>
    have g0 := hf 0 _ rfl
    have g1 := hf 1 _ rfl
    have g2 := hf 2 _ rfl
    have g3 := hf 3 _ rfl
    have g4 := hf 4 _ rfl
    have g5 := hf 5 _ rfl
    simp [cells3, cells4, cells5, cells9] at g0 g1 g2 g3 g4 g5
    obtain ⟨s, e0, _, _⟩ := DataW.trod_string Try.underlying9 g0
    obtain ⟨i1, e1, _, _⟩ := DataW.trod_int Try.underlying3 g1
    obtain ⟨i2, e2, _, _⟩ := DataW.trod_int Try.underlying3 g2
    obtain ⟨i3, e3, _, _⟩ := DataW.trod_int Try.underlying3 g3
    obtain ⟨i4, e4, _, w4⟩ := DataW.trod_int Try.underlying5 g4
    obtain ⟨b5, e5, _⟩ := DataW.trod_bool Try.underlying4 g5
    simp at e0 e1 e2 e3 e4 e5
    subst e0 e1 e2 e3 e4 e5
    exact ⟨⟨s, i1, i2, i3, i4, b5⟩, rfl, w4⟩

theorem acts_of {H : Type} {enc : TypeId × Value → H} {W : World} {a : Option Addr} {len cap : Nat} {d : DataW H} {ps : List MemPlace}
    (h : DataW.Trod enc Try.prog W 0 (fun _ => true) true 22 (.slice a len cap) d ps) : ∃ acts, ActsAt W a len acts ∧ (∀ k, k < len → (Lit.int .u8 (acts k).v).wf = true) ∧ len ≤ maxLen := by
  obtain ⟨fuel, hf⟩ := h
  rcases open_slice Try.underlying22 hf with ⟨hcs, _⟩ | ⟨x, l, c, m, n, D, Pl, hcs, _, hl, hm, hmm, _, hx⟩
  · simp [Value.cells] at hcs
    obtain ⟨rfl, rfl, rfl⟩ := hcs
    exact ⟨fun _ => ⟨⟨#[]⟩, 0, 0, 0, 0, false⟩, fun k hk => absurd hk (by omega), fun k hk => absurd hk (by omega), by omega⟩
  · simp [Value.cells] at hcs
    obtain ⟨rfl, rfl, rfl⟩ := hcs
    simp at hmm
    subst hmm
    rw [cells38] at hx
    obtain ⟨b, off, spot⟩ := x
    have hspot : 0 < len → spot = none := by
      intro h
      obtain ⟨cs', h1, h2⟩ := hx 0 (by omega)
      obtain ⟨y, rfl, hw⟩ := act_of h2
      obtain ⟨_, _, h3⟩ := World.cells?_some h1
      have h30 := h3 0 (by omega)
      simpa [Addr.add] using World.cell?_spot h30
    have each : ∀ i, i < len → ∃ y : Ac, ActAt W b (off + i * 6) y ∧ (Lit.int .u8 y.v).wf = true ∧ spot = none := by
      intro i hi
      obtain ⟨cs', h1, h2⟩ := hx i (by omega)
      obtain ⟨y, rfl, hw⟩ := act_of h2
      obtain ⟨_, _, h3⟩ := World.cells?_some h1
      obtain rfl := hspot (by omega)
      have e : ∀ j, (((⟨b, off, none⟩ : Addr).add (i * 6)).add j) = ⟨b, off + i * 6 + j, none⟩ := fun j => by rw [Addr.add_mid, Addr.add_mid]
      simp only [e] at h3
      exact ⟨y, ⟨by simpa using h3 0 (by omega), by simpa using h3 1 (by omega), by simpa using h3 2 (by omega), by simpa using h3 3 (by omega), by simpa using h3 4 (by omega), by simpa using h3 5 (by omega)⟩, hw, rfl⟩
    let acts : Nat → Ac := fun i => if h : i < len then (each i h).choose else ⟨⟨#[]⟩, 0, 0, 0, 0, false⟩
    have ha : ∀ i (h : i < len), acts i = (each i h).choose := fun i h => by simp [acts, h]
    refine ⟨acts, fun i hi => ?_, fun i hi => ?_, by omega⟩
    · obtain ⟨g1, g2, g3⟩ := (each i hi).choose_spec
      subst g3
      exact ⟨b, off, rfl, by rw [ha i hi]; exact g1⟩
    · rw [ha i hi]; exact (each i hi).choose_spec.2.1
end Go.Proofs.Ytadpibcgjgcjhaa
