/- undercrofttop.held: it says true where each page has its bytes, and what may be written is alone. -/
import Derived.Test.YtfdppnnechdpeaaTmB
namespace Go.Proofs.Ytfdppnnechdpeaa
open Go.ChangeShapes Go.WideShapes Go.ChangeAt Go.RowKit
set_option maxRecDepth 100000
attribute [local go_sem ↓] Go.wp_at_zero Go.wp_at_succ

/-- The law's own bytes, as cells. -/
def tCells (t : Nat → Nat → Int) : List Value := (List.range 512).map fun i => .int .u8 (t (i / 16) (i % 16))
theorem tCells_length (t : Nat → Nat → Int) : (tCells t).length = 512 := by simp [tCells]
theorem tCells_get (t : Nat → Nat → Int) (k i : Nat) (hk : k < 32) (hi : i < 16) : (tCells t)[k * 16 + i]? = some (.int .u8 (t k i)) := by
  unfold tCells
  rw [List.getElem?_map, List.getElem?_range (by omega)]
  simp only [Option.map_some]
  rw [show (k * 16 + i) / 16 = k by omega, show (k * 16 + i) % 16 = i by omega]

theorem eq_zero (g : Nat → Int) (h : ∀ i, i < 16 → g i = 0) (w : World) : (Op.equalIn 10000 32 (.agg (rowOf g).toArray) (.agg #[.int .u8 0, .int .u8 0, .int .u8 0, .int .u8 0, .int .u8 0, .int .u8 0, .int .u8 0, .int .u8 0, .int .u8 0, .int .u8 0, .int .u8 0, .int .u8 0, .int .u8 0, .int .u8 0, .int .u8 0, .int .u8 0])).run Try.prog w = .ok true w := by
  have e : sameTo g (fun _ => 0) 16 = true := by
    unfold sameTo
    simp only [List.all_eq_true, List.mem_range, beq_iff_eq]
    exact fun i hi => h i hi
  have := equalIn_rows 9998 g (fun _ => 0) w
  rw [e] at this
  exact this
theorem get_at (w : World) (bp bf i : Nat) (f : Int) (s : Pl) (h : PoolAt w bp bf s) (hu : s.used f = true) (h1 : i < 16) :
    Calls Try.prog 16 #[.pointer (some ⟨bp, 0, none⟩), .int .i64 f, .int .i64 i] w fun e w' => e = .returned (.tuple #[.int .u8 (s.byt f.toNat i), .nilIface]) ∧ w' = w := by
  have g := get_any w bp bf f i s h
  have e : s.get f i = (s.byt f.toNat i, 0) := by
    unfold Pl.get
    rw [if_neg (by omega), if_pos hu, Int.toNat_natCast]
  rw [e] at g
  simpa only [errV_zero] using g

/-- What holds in held's rounds: W the world at its call. -/
structure He (W w : World) (bp bf bl0 bl1 : Nat) (s : Pl) (a b : Mp) (t : Nat → Nat → Int) (k : Nat) : Prop where
  two : Two w bp bf bl0 bl1 s a b t
  m0 : w.cell? ⟨W.heap.size, 0, none⟩ = some (.pointer (some ⟨bl0, 0, none⟩))
  m1 : w.cell? ⟨W.heap.size, 1, none⟩ = some (.pointer (some ⟨bl1, 0, none⟩))
  row : ∀ p i, p < 32 → i < 16 → w.cell? ⟨W.heap.size + 1, p * 16 + i, none⟩ = some (.int .u8 (t p i))
  rf : ∀ f : Nat, f < 64 → w.cell? ⟨W.heap.size + 1 + 1, f, none⟩ = some (.int .i64 (cntTo (both a b) (f : Int) k))
  fz : ∀ o, w.frozen? ⟨W.heap.size + 1 + 1, o, none⟩ = false
  upd : Upd (fun _ => False) W w
  sz : W.heap.size + 3 ≤ w.heap.size
  lt : bp < W.heap.size ∧ bf < W.heap.size ∧ bl0 < W.heap.size ∧ bl1 < W.heap.size
theorem He.start {W : World} {bp bf bl0 bl1 : Nat} {s : Pl} {a b : Mp} {t : Nat → Nat → Int} (h : Two W bp bf bl0 bl1 s a b t) (hn : 0 < s.n) :
    He W (((W.alloc (.cells #[.pointer (some ⟨bl0, 0, none⟩), .pointer (some ⟨bl1, 0, none⟩)] 64)).alloc (.cells (tCells t).toArray 78)).alloc (.cells zeroR 34)) bp bf bl0 bl1 s a b t 0 := by
  have u : Upd (fun _ => False) W (((W.alloc (.cells #[.pointer (some ⟨bl0, 0, none⟩), .pointer (some ⟨bl1, 0, none⟩)] 64)).alloc (.cells (tCells t).toArray 78)).alloc (.cells zeroR 34)) := (((Upd.refl _ _).alloc _).alloc _).alloc _
  have z1 : (W.alloc (.cells #[.pointer (some ⟨bl0, 0, none⟩), .pointer (some ⟨bl1, 0, none⟩)] 64)).heap.size = W.heap.size + 1 := by simp
  have z2 : ((W.alloc (.cells #[.pointer (some ⟨bl0, 0, none⟩), .pointer (some ⟨bl1, 0, none⟩)] 64)).alloc (.cells (tCells t).toArray 78)).heap.size = W.heap.size + 1 + 1 := by simp
  refine ⟨h.keep hn u, ?_, ?_, ?_, ?_, ?_, u, by simp, h.pool.ltp, World.block_lt_of_cell? W _ (h.pool.refs 0 hn), h.lv0.lt, h.lv1.lt⟩
  · refine Upd.cell (((Upd.refl (fun _ => False) _).alloc _).alloc _) (w := W.alloc _) ?_ (fun f => f)
    rw [World.cell?_alloc_new]; rfl
  · refine Upd.cell (((Upd.refl (fun _ => False) _).alloc _).alloc _) (w := W.alloc _) ?_ (fun f => f)
    rw [World.cell?_alloc_new]; rfl
  · intro p i hp hi
    refine Upd.cell ((Upd.refl (fun _ => False) _).alloc _) (w := (W.alloc _).alloc _) ?_ (fun f => f)
    have := World.cell?_alloc_new (W.alloc (.cells #[.pointer (some ⟨bl0, 0, none⟩), .pointer (some ⟨bl1, 0, none⟩)] 64)) (tCells t).toArray 78 (p * 16 + i)
    rw [z1] at this
    rw [this]
    simpa using tCells_get t p i hp hi
  · intro f hf
    have := World.cell?_alloc_new ((W.alloc (.cells #[.pointer (some ⟨bl0, 0, none⟩), .pointer (some ⟨bl1, 0, none⟩)] 64)).alloc (.cells (tCells t).toArray 78)) zeroR 34 f
    rw [z2] at this
    rw [this, zeroR_get f hf]
    rfl
  · intro o
    have := World.frozen?_alloc_new ((W.alloc (.cells #[.pointer (some ⟨bl0, 0, none⟩), .pointer (some ⟨bl1, 0, none⟩)] 64)).alloc (.cells (tCells t).toArray 78)) zeroR 34 o
    rw [z2] at this
    exact this
theorem He.keep {W w w' : World} {bp bf bl0 bl1 k : Nat} {s : Pl} {a b : Mp} {t : Nat → Nat → Int} (h : He W w bp bf bl0 bl1 s a b t k) (hn : 0 < s.n) (u : Upd (fun _ => False) w w') : He W w' bp bf bl0 bl1 s a b t k where
  two := h.two.keep hn u
  m0 := u.cell h.m0 (fun f => f)
  m1 := u.cell h.m1 (fun f => f)
  row := fun p i hp hi => u.cell (h.row p i hp hi) (fun f => f)
  rf := fun f hf => u.cell (h.rf f hf) (fun f => f)
  fz := fun o => by rw [World.frozen?_of_block (w := w) (u.block (W.heap.size + 1 + 1) (by have := h.sz; omega) (fun f => f))]; exact h.fz o
  upd := h.upd.trans u (fun _ _ f => f)
  sz := by have := h.sz; have := u.size; omega
  lt := h.lt
theorem He.skip {W w : World} {bp bf bl0 bl1 k : Nat} {s : Pl} {a b : Mp} {t : Nat → Nat → Int} (h : He W w bp bf bl0 bl1 s a b t k) (ht : (both a b k).there = false) : He W w bp bf bl0 bl1 s a b t (k + 1) :=
  { h with rf := fun f hf => by rw [h.rf f hf, cntTo_succ, inIn_no ht]; rfl }
theorem He.inc {W w : World} {bp bf bl0 bl1 k : Nat} {s : Pl} {a b : Mp} {t : Nat → Nat → Int} (h : He W w bp bf bl0 bl1 s a b t k) (hn : 0 < s.n) (ht : (both a b k).there = true) (f0 : 0 ≤ (both a b k).fr) :
    He W (w.setCell ⟨W.heap.size + 1 + 1, (both a b k).fr.toNat, none⟩ (.int .i64 ((cntTo (both a b) (both a b k).fr k : Int) + 1))) bp bf bl0 bl1 s a b t (k + 1) := by
  have u := Upd.one w (W.heap.size + 1 + 1) (both a b k).fr.toNat (.int .i64 ((cntTo (both a b) (both a b k).fr k : Int) + 1))
  have s0 := h.sz
  have l := h.lt
  have e0 : ((((both a b k).fr.toNat : Nat)) : Int) = (both a b k).fr := Int.toNat_of_nonneg f0
  refine ⟨h.two.far hn u (by omega) (by omega) (by omega) (by omega), u.cell h.m0 (by show ¬ (W.heap.size = W.heap.size + 1 + 1); omega), u.cell h.m1 (by show ¬ (W.heap.size = W.heap.size + 1 + 1); omega), fun p i hp hi => u.cell (h.row p i hp hi) (by show ¬ (W.heap.size + 1 = W.heap.size + 1 + 1); omega), ?_, fun o => by rw [World.frozen?_setCell]; exact h.fz o, h.upd.trans u (fun i hi e => by omega), by simpa using s0, l⟩
  intro f hf
  by_cases e : f = (both a b k).fr.toNat
  · subst e
    rw [World.cell?_setCell_same _ _ _ (h.rf _ hf), cntTo_succ, e0]
    simp only [inIn, ht, and_self, if_true]
    rfl
  · rw [World.cell?_setCell_other _ _ _ _ (addr_ne (Or.inr (Ne.symm e))), h.rf f hf, cntTo_succ]
    have : inIn (both a b k) (f : Int) = 0 := by
      unfold inIn
      rw [if_neg (fun c => e (by omega))]
    rw [this]; rfl
set_option maxHeartbeats 4000000 in
theorem held_any (W : World) (bp bf bl0 bl1 : Nat) (s : Pl) (a b : Mp) (t : Nat → Nat → Int) (h : Two W bp bf bl0 bl1 s a b t) (hn : 0 < s.n) :
    Calls Try.prog 40 #[.pointer (some ⟨bp, 0, none⟩), .agg #[.pointer (some ⟨bl0, 0, none⟩), .pointer (some ⟨bl1, 0, none⟩)], .agg (tCells t).toArray] W fun e w' => e = .returned (.bool true) ∧ Upd (fun _ => False) W w' := by
  have z2 := zero34
  have h0 := He.start h hn
  have cn := h.inv.cn
  have rr := h.r
  have hle := h.pool.le
  have HLE : Hid _ := hle
  have HC : Hid _ := cn
  have HR : Hid _ := rr
  have H0 : Hid _ := h0
  clear h h0 cn rr hle
  generalize hcs : (tCells t).toArray = cs at H0
  clear hcs
  go_enter Try.func40, Try.ntmps40
  go_wp2_with fail
  revert H0
  generalize (((W.alloc (.cells #[.pointer (some ⟨bl0, 0, none⟩), .pointer (some ⟨bl1, 0, none⟩)] 64)).alloc (.cells cs 78)).alloc (.cells zeroR 34)) = w0
  intro H0
  clear z2
  go_loopg [8] 32 (fun g i wi => ∃ k : Nat, k + g = 32 ∧ i = .int .i64 k ∧ He W wi bp bf bl0 bl1 s a b t k)
  case atStart => exact ⟨0, by omega, rfl, H0.out⟩
  case round =>
    obtain ⟨k, hk, rfl, hI⟩ := hrel
    clear H0
    have HK : Hid _ := hk
    by_cases hlt : k < 32
    · have c0 := cell_blk hI.m0 hI.m1 hlt
      have e1 : (k : Int) / 16 < 2 := by omega
      have e2 : 0 ≤ (k : Int) / 16 := by omega
      clear hk
      go_wp2_with fail
      refine (hI.two.leafAt hlt (Upd.refl _ _)).mono ?_
      rintro e w1 ⟨rfl, hu1⟩
      have h1 := hI.keep hn hu1
      clear hI c0 hu1
      cases ht : (both a b k).there with
      | false =>
        have h2 := h1.keep hn ((Upd.refl (fun _ => False) w1).alloc (.cells #[.bool false, .bool (both a b k).wr, .int .i64 (both a b k).fr] 69))
        have hz := eq_zero (t k) (HR.out.out k hlt ht)
        have hr : (w1.alloc (.cells #[.bool false, .bool (both a b k).wr, .int .i64 (both a b k).fr] 69)).rangeAt (W.heap.size + 1) (k * 16) (rowOf (t k)) := by
          intro j v hv
          have hj : j < 16 := by have := (List.getElem?_eq_some_iff.1 hv).1; rw [rowOf_length] at this; exact this
          rw [rowOf_get _ _ hj] at hv
          rw [h2.row k j hlt hj]; exact hv
        have hlen := rowOf_length (t k)
        have H3 : Hid _ := h2.skip ht
        clear ht h2 h1
        revert hr hlen hz
        generalize rowOf (t k) = c1
        intro hz hr hlen
        have i1 : (Try.prog.info? 32).map (·.size) = some c1.length := by rw [hlen]; exact info32
        go_wp2_with (refine wpList_load_mid (by rfl) 32 _ (by rfl) (W.heap.size + 1) (k * 16) (by rfl) c1 _ hr Try.underlying32 (by rfl) i1 ?_)
        go_roundg (32 - (k + 1))
        case rel => exact ⟨k + 1, by omega, by go_num, H3.out⟩
        case measure => have := HK.out; omega
      | true =>
        obtain ⟨f0, f1⟩ := HC.out.rng k hlt ht
        have hu := HC.out.used hlt ht
        have hB := HR.out.byt k hlt ht
        have f2 : (both a b k).fr < 64 := by have := HLE.out; omega
        have h2 := h1.keep hn ((Upd.refl (fun _ => False) w1).alloc (.cells #[.bool true, .bool (both a b k).wr, .int .i64 (both a b k).fr] 69))
        have q1 := LfAt.new w1 69 ⟨true, (both a b k).wr, (both a b k).fr⟩
        have sz := h1.sz
        have hcl := cntTo_le (both a b) (both a b k).fr k
        have H3 : Hid _ := h2.inc hn ht f0
        have HB : Hid _ := hB
        have HU : Hid _ := hu
        clear hB hu h1
        have c3 := h2.rf (both a b k).fr.toNat (by omega)
        rw [Int.toNat_of_nonneg f0] at c3
        have c4 := h2.fz (both a b k).fr.toNat
        have q2 := q1.upd (Upd.one _ (W.heap.size + 1 + 1) (both a b k).fr.toNat (.int .i64 ((cntTo (both a b) (both a b k).fr k : Int) + 1))) (by show ¬ (w1.heap.size = W.heap.size + 1 + 1); omega)
        have HQ2 : Hid _ := q2
        have d0 := q1.c0
        have d2 := q1.c2
        have g1 : decide ((both a b k).fr < 0) = false := by simp; omega
        have g2 : decide (63 < (both a b k).fr) = false := by simp; omega
        clear q1 q2 h2 ht
        go_wp2_with fail
        clear c3 c4 d0 d2
        revert H3 HQ2
        generalize (w1.alloc (.cells #[.bool true, .bool (both a b k).wr, .int .i64 (both a b k).fr] 69)).setCell ⟨W.heap.size + 1 + 1, (both a b k).fr.toNat, none⟩ (.int .i64 ((cntTo (both a b) (both a b k).fr k : Int) + 1)) = w2
        clear sz
        generalize w1.heap.size = qx
        intro H3 HQ2
        go_loopg [11] 16 (fun g i wi => ∃ j : Nat, j + g = 16 ∧ i = .int .i64 j ∧ He W wi bp bf bl0 bl1 s a b t (k + 1) ∧ LfAt wi qx ⟨true, (both a b k).wr, (both a b k).fr⟩)
        case atStart => exact ⟨0, by omega, rfl, H3.out, HQ2.out⟩
        case round =>
          obtain ⟨i, hi, rfl, hJ, hX⟩ := hrel
          clear H3 HQ2
          have HI : Hid _ := hi
          by_cases hlt2 : i < 16
          · have d2 := hX.c2
            have hv := HB.out i hlt2
            have c5 := hJ.row k i hlt hlt2
            have b5 : (t k i != t k i) = false := by simp
            have g3 := get_at wr bp bf i (both a b k).fr s hJ.two.pool HU.out hlt2
            rw [hv] at g3
            have HG : Hid _ := g3
            clear hi g3 hv
            go_wp2_with fail
            refine Calls.mono (HG.out) ?_
            rintro e w3 ⟨rfl, rfl⟩
            go_wp2_with fail
            go_roundg (16 - (i + 1))
            case rel => exact ⟨i + 1, by omega, by go_num, hJ, hX⟩
            case measure => have := HI.out; omega
          · clear hi
            go_wp2_with fail
            go_roundg (32 - (k + 1))
            case rel => exact ⟨k + 1, by omega, by go_num, hJ⟩
            case measure => have := HK.out; omega
    · have ek : k = 32 := by omega
      subst ek
      have H1 : Hid _ := hI
      clear hI hk HK
      go_wp2_with fail
      go_loopg [14] 32 (fun g i wi => ∃ k : Nat, k + g = 32 ∧ i = .int .i64 k ∧ He W wi bp bf bl0 bl1 s a b t 32)
      case atStart => exact ⟨0, by omega, rfl, H1.out⟩
      case round =>
        obtain ⟨k, hk, rfl, hI⟩ := hrel
        clear H1
        have HK : Hid _ := hk
        by_cases hlt : k < 32
        · have c0 := cell_blk hI.m0 hI.m1 hlt
          have e1 : (k : Int) / 16 < 2 := by omega
          have e2 : 0 ≤ (k : Int) / 16 := by omega
          clear hk
          go_wp2_with fail
          refine (hI.two.leafAt hlt (Upd.refl _ _)).mono ?_
          rintro e w1 ⟨rfl, hu1⟩
          have h1 := hI.keep hn hu1
          clear hI c0 hu1
          cases ht : (both a b k).there with
          | false =>
            have h2 := h1.keep hn ((Upd.refl (fun _ => False) w1).alloc (.cells #[.bool false, .bool (both a b k).wr, .int .i64 (both a b k).fr] 69))
            have H2 : Hid _ := h2
            clear ht h2 h1
            go_wp2_with fail
            go_roundg (32 - (k + 1))
            case rel => exact ⟨k + 1, by omega, by go_num, H2.out⟩
            case measure => have := HK.out; omega
          | true =>
            cases hw : (both a b k).wr with
            | false =>
              have h2 := h1.keep hn ((Upd.refl (fun _ => False) w1).alloc (.cells #[.bool true, .bool false, .int .i64 (both a b k).fr] 69))
              have H2 : Hid _ := h2
              clear ht hw h2 h1
              go_wp2_with fail
              go_roundg (32 - (k + 1))
              case rel => exact ⟨k + 1, by omega, by go_num, H2.out⟩
              case measure => have := HK.out; omega
            | true =>
              have h2 := h1.keep hn ((Upd.refl (fun _ => False) w1).alloc (.cells #[.bool true, .bool true, .int .i64 (both a b k).fr] 69))
              obtain ⟨f0, f1⟩ := HC.out.rng k hlt ht
              have hone := HR.out.one k hlt ht hw
              have hcnt := HC.out.cnt (both a b k).fr.toNat (by omega)
              have f2 : (both a b k).fr < 64 := by have := HLE.out; omega
              have c3 := h2.rf (both a b k).fr.toNat (by omega)
              rw [← hcnt, hone] at c3
              have H2 : Hid _ := h2
              clear ht hw h2 h1 hone hcnt
              go_wp2_with fail
              go_roundg (32 - (k + 1))
              case rel => exact ⟨k + 1, by omega, by go_num, H2.out⟩
              case measure => have := HK.out; omega
        · clear hk HK
          have H2 : Hid _ := hI
          clear hI
          go_wp2_with fail
          go_loopg [17] s.n (fun g i wi => ∃ f : Nat, f + g = s.n ∧ i = .int .i64 f ∧ He W wi bp bf bl0 bl1 s a b t 32)
          case atStart => exact ⟨0, by omega, rfl, H2.out⟩
          case round =>
            obtain ⟨f, hf, rfl, hI⟩ := hrel
            clear H2
            have HF : Hid _ := hf
            have hle := HLE.out
            by_cases hlt2 : f < s.n
            · have HCN : Hid _ := HC.out.cnt f hlt2
              clear hf
              go_wp2_with (go_at_call 41; refine (size_any _ _ _ _ hI.two.pool).mono ?_; rintro e w1 ⟨rfl, rfl⟩)
              refine (of_yes _ _ _ f s hI.two.pool hlt2).mono ?_
              rintro e w2 ⟨rfl, hu2⟩
              have h2 := hI.keep hn hu2
              clear hI hu2
              go_wp2_with fail
              have d1 : (w2.alloc (.cells #[.int .i64 (classOf (s.refs f)), .int .i64 (s.refs f)] 58)).cell? ⟨w2.heap.size, 1, none⟩ = some (.int .i64 (s.refs f)) := by rw [World.cell?_alloc_new]; rfl
              have h3 := h2.keep hn ((Upd.refl (fun _ => False) w2).alloc (.cells #[.int .i64 (classOf (s.refs f)), .int .i64 (s.refs f)] 58))
              clear h2
              revert d1 h3
              generalize w2.alloc (.cells #[.int .i64 (classOf (s.refs f)), .int .i64 (s.refs f)] 58) = w3
              generalize w2.heap.size = q3
              intro d1 h3
              have c1 := h3.rf f (by omega)
              rw [← HCN.out] at c1
              have b1 : (s.refs f != s.refs f) = false := by simp
              have fn : (f : Int) < 64 := by omega
              clear HCN
              go_quiet (fail)
              have h4 := h3.keep hn ((Upd.refl _ _).drewN nq)
              have H4 : Hid _ := h4
              clear h3 h4 d1 c1
              go_wp2_with fail
              go_roundg (s.n - (f + 1))
              case rel => exact ⟨f + 1, by omega, by go_num, H4.out⟩
              case measure => have := HF.out; omega
            · clear hf
              have nlt : ¬ (f : Int) < s.n := by omega
              go_wp2_with (go_at_call 41; refine (size_any _ _ _ _ hI.two.pool).mono ?_; rintro e w1 ⟨rfl, rfl⟩)
              go_ret
              exact ⟨rfl, hI.upd⟩
end Go.Proofs.Ytfdppnnechdpeaa
