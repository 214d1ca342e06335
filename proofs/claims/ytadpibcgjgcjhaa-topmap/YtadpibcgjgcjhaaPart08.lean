/- undercrofttop.held: it says true where each page has its bytes, and what may be written is alone. -/
import Derived.Test.YtadpibcgjgcjhaaPart07
namespace Go.Proofs.Ytadpibcgjgcjhaa
open Go.ChangeShapes Go.WideShapes Go.ChangeAt Go.RowKit
set_option maxRecDepth 100000
attribute [local go_sem ↓] Go.wp_at_zero Go.wp_at_succ

/-- The law's own bytes, as cells. -/
def tCells (t : Nat → Nat → Int) : List Value := (List.range 512).map fun i => .int .u8 (t (i / 16) (i % 16))
theorem tCells_length (t : Nat → Nat → Int) : (tCells t).length = 512 := by simp [tCells]
theorem tCells_get (t : Nat → Nat → Int) (k i : Nat) (hk : k < 32) (hi : i < 16) : (tCells t)[k * 16 + i]? = some (.int .u8 (t k i)) := by
  unfold tCells
  rw [List.getElem?_map, List.getElem?_range (by omega)]
  simp only [Option.map_some]
  rw [show (k * 16 + i) / 16 = k by omega, show (k * 16 + i) % 16 = i by omega]

theorem eq_zero (g : Nat → Int) (h : ∀ i, i < 16 → g i = 0) (w : World) : (Op.equalIn 10000 32 (.agg (rowOf g).toArray) (.agg #[.int .u8 0, .int .u8 0, .int .u8 0, .int .u8 0, .int .u8 0, .int .u8 0, .int .u8 0, .int .u8 0, .int .u8 0, .int .u8 0, .int .u8 0, .int .u8 0, .int .u8 0, .int .u8 0, .int .u8 0, .int .u8 0])).run Try.prog w = .ok true w := by
  have e : sameTo g (fun _ => 0) 16 = true := by
    unfold sameTo
    simp only [List.all_eq_true, List.mem_range, beq_iff_eq]
    exact fun i hi => h i hi
  have := equalIn_rows 9998 g (fun _ => 0) w
  rw [e] at this
  exact this
theorem get_at (w : World) (bp bf i : Nat) (f : Int) (s : Pl) (h : PoolAt w bp bf s) (hu : s.used f = true) (h1 : i < 16) :
    Calls Try.prog 19 #[.pointer (some ⟨bp, 0, none⟩), .int .i64 f, .int .i64 i] w fun e w' => e = .returned (.tuple #[.int .u8 (s.byt f.toNat i), .nilIface]) ∧ w' = w := by
  have g := get_any w bp bf f i s h
  have e : s.get f i = (s.byt f.toNat i, 0) := by
    unfold Pl.get
    rw [if_neg (by omega), if_pos hu, Int.toNat_natCast]
  rw [e] at g
  simpa only [errV_zero] using g

/-- What holds in held's rounds: W the world at its call. -/
structure He (W w : World) (bp bf bl0 bl1 : Nat) (s : Pl) (a b : Mp) (t : Nat → Nat → Int) (k : Nat) : Prop where
  two : Two w bp bf bl0 bl1 s a b t
  m0 : w.cell? ⟨W.heap.size, 0, none⟩ = some (.pointer (some ⟨bl0, 0, none⟩))
  m1 : w.cell? ⟨W.heap.size, 1, none⟩ = some (.pointer (some ⟨bl1, 0, none⟩))
  row : ∀ p i, p < 32 → i < 16 → w.cell? ⟨W.heap.size + 1, p * 16 + i, none⟩ = some (.int .u8 (t p i))
  rf : ∀ f : Nat, f < 64 → w.cell? ⟨W.heap.size + 1 + 1, f, none⟩ = some (.int .i64 (cntTo (both a b) (f : Int) k))
  fz : ∀ o, w.frozen? ⟨W.heap.size + 1 + 1, o, none⟩ = false
  upd : Upd (fun _ => False) W w
  sz : W.heap.size + 3 ≤ w.heap.size
  lt : bp < W.heap.size ∧ bf < W.heap.size ∧ bl0 < W.heap.size ∧ bl1 < W.heap.size
theorem He.start {W : World} {bp bf bl0 bl1 : Nat} {s : Pl} {a b : Mp} {t : Nat → Nat → Int} (h : Two W bp bf bl0 bl1 s a b t) (hn : 0 < s.n) :
    He W (((W.alloc (.cells #[.pointer (some ⟨bl0, 0, none⟩), .pointer (some ⟨bl1, 0, none⟩)] 64)).alloc (.cells (tCells t).toArray 78)).alloc (.cells zeroR 34)) bp bf bl0 bl1 s a b t 0 := by
  have u : Upd (fun _ => False) W (((W.alloc (.cells #[.pointer (some ⟨bl0, 0, none⟩), .pointer (some ⟨bl1, 0, none⟩)] 64)).alloc (.cells (tCells t).toArray 78)).alloc (.cells zeroR 34)) := (((Upd.refl _ _).alloc _).alloc _).alloc _
  have z1 : (W.alloc (.cells #[.pointer (some ⟨bl0, 0, none⟩), .pointer (some ⟨bl1, 0, none⟩)] 64)).heap.size = W.heap.size + 1 := by simp
  have z2 : ((W.alloc (.cells #[.pointer (some ⟨bl0, 0, none⟩), .pointer (some ⟨bl1, 0, none⟩)] 64)).alloc (.cells (tCells t).toArray 78)).heap.size = W.heap.size + 1 + 1 := by simp
  refine ⟨h.keep hn u, ?_, ?_, ?_, ?_, ?_, u, by simp, h.pool.ltp, World.block_lt_of_cell? W _ (h.pool.refs 0 hn), h.lv0.lt, h.lv1.lt⟩
  · refine Upd.cell (((Upd.refl (fun _ => False) _).alloc _).alloc _) (w := W.alloc _) ?_ (fun f => f)
    rw [World.cell?_alloc_new]; rfl
  · refine Upd.cell (((Upd.refl (fun _ => False) _).alloc _).alloc _) (w := W.alloc _) ?_ (fun f => f)
    rw [World.cell?_alloc_new]; rfl
  · intro p i hp hi
    refine Upd.cell ((Upd.refl (fun _ => False) _).alloc _) (w := (W.alloc _).alloc _) ?_ (fun f => f)
    have := World.cell?_alloc_new (W.alloc (.cells #[.pointer (some ⟨bl0, 0, none⟩), .pointer (some ⟨bl1, 0, none⟩)] 64)) (tCells t).toArray 78 (p * 16 + i)
    rw [z1] at this
    rw [this]
    simpa using tCells_get t p i hp hi
  · intro f hf
    have := World.cell?_alloc_new ((W.alloc (.cells #[.pointer (some ⟨bl0, 0, none⟩), .pointer (some ⟨bl1, 0, none⟩)] 64)).alloc (.cells (tCells t).toArray 78)) zeroR 34 f
    rw [z2] at this
    rw [this, zeroR_get f hf]
    rfl
  · intro o
    have := World.frozen?_alloc_new ((W.alloc (.cells #[.pointer (some ⟨bl0, 0, none⟩), .pointer (some ⟨bl1, 0, none⟩)] 64)).alloc (.cells (tCells t).toArray 78)) zeroR 34 o
    rw [z2] at this
    exact this
theorem He.keep {W w w' : World} {bp bf bl0 bl1 k : Nat} {s : Pl} {a b : Mp} {t : Nat → Nat → Int} (h : He W w bp bf bl0 bl1 s a b t k) (hn : 0 < s.n) (u : Upd (fun _ => False) w w') : He W w' bp bf bl0 bl1 s a b t k where
  two := h.two.keep hn u
  m0 := u.cell h.m0 (fun f => f)
  m1 := u.cell h.m1 (fun f => f)
  row := fun p i hp hi => u.cell (h.row p i hp hi) (fun f => f)
  rf := fun f hf => u.cell (h.rf f hf) (fun f => f)
  fz := fun o => by rw [World.frozen?_of_block (w := w) (u.block (W.heap.size + 1 + 1) (by have := h.sz; omega) (fun f => f))]; exact h.fz o
  upd := h.upd.trans u (fun _ _ f => f)
  sz := by have := h.sz; have := u.size; omega
  lt := h.lt
theorem He.skip {W w : World} {bp bf bl0 bl1 k : Nat} {s : Pl} {a b : Mp} {t : Nat → Nat → Int} (h : He W w bp bf bl0 bl1 s a b t k) (ht : (both a b k).there = false) : He W w bp bf bl0 bl1 s a b t (k + 1) :=
  { h with rf := fun f hf => by rw [h.rf f hf, cntTo_succ, inIn_no ht]; rfl }
theorem He.inc {W w : World} {bp bf bl0 bl1 k : Nat} {s : Pl} {a b : Mp} {t : Nat → Nat → Int} (h : He W w bp bf bl0 bl1 s a b t k) (hn : 0 < s.n) (ht : (both a b k).there = true) (f0 : 0 ≤ (both a b k).fr) :
    He W (w.setCell ⟨W.heap.size + 1 + 1, (both a b k).fr.toNat, none⟩ (.int .i64 ((cntTo (both a b) (both a b k).fr k : Int) + 1))) bp bf bl0 bl1 s a b t (k + 1) := by
  have u := Upd.one w (W.heap.size + 1 + 1) (both a b k).fr.toNat (.int .i64 ((cntTo (both a b) (both a b k).fr k : Int) + 1))
  have s0 := h.sz
  have l := h.lt
  have e0 : ((((both a b k).fr.toNat : Nat)) : Int) = (both a b k).fr := Int.toNat_of_nonneg f0
  refine ⟨h.two.far hn u (by omega) (by omega) (by omega) (by omega), u.cell h.m0 (by show ¬ (W.heap.size = W.heap.size + 1 + 1); omega), u.cell h.m1 (by show ¬ (W.heap.size = W.heap.size + 1 + 1); omega), fun p i hp hi => u.cell (h.row p i hp hi) (by show ¬ (W.heap.size + 1 = W.heap.size + 1 + 1); omega), ?_, fun o => by rw [World.frozen?_setCell]; exact h.fz o, h.upd.trans u (fun i hi e => by omega), by simpa using s0, l⟩
  intro f hf
  by_cases e : f = (both a b k).fr.toNat
  · subst e
    rw [World.cell?_setCell_same _ _ _ (h.rf _ hf), cntTo_succ, e0]
    simp only [inIn, ht, and_self, if_true]
    rfl
  · rw [World.cell?_setCell_other _ _ _ _ (addr_ne (Or.inr (Ne.symm e))), h.rf f hf, cntTo_succ]
    have : inIn (both a b k) (f : Int) = 0 := by
      unfold inIn
      rw [if_neg (fun c => e (by omega))]
    rw [this]; rfl
set_option maxHeartbeats 4000000 in
theorem held_any (W : World) (bp bf bl0 bl1 : Nat) (s : Pl) (a b : Mp) (t : Nat → Nat → Int) (h : Two W bp bf bl0 bl1 s a b t) (hn : 0 < s.n) :
    Calls Try.prog 43 #[.pointer (some ⟨bp, 0, none⟩), .agg #[.pointer (some ⟨bl0, 0, none⟩), .pointer (some ⟨bl1, 0, none⟩)], .agg (tCells t).toArray] W fun e w' => e = .returned (.bool true) ∧ Upd (fun _ => False) W w' := by
  have z2 := zero34
  have h0 := He.start h hn
  have cn := h.inv.cn
  have rr := h.r
  have hle := h.pool.le
  have HLE : Hid _ := hle
  have HC : Hid _ := cn
  have HR : Hid _ := rr
  have H0 : Hid _ := h0
  clear h h0 cn rr hle
  generalize hcs : (tCells t).toArray = cs at H0
  clear hcs
  go_enter Try.func43, Try.ntmps43
  go_wp2_with fail
  revert H0
  generalize (((W.alloc (.cells #[.pointer (some ⟨bl0, 0, none⟩), .pointer (some ⟨bl1, 0, none⟩)] 64)).alloc (.cells cs 78)).alloc (.cells zeroR 34)) = w0
  intro H0
  clear z2
  go_loopg [8] 32 (fun g i wi => ∃ k : Nat, k + g = 32 ∧ i = .int .i64 k ∧ He W wi bp bf bl0 bl1 s a b t k)
  case atStart => exact ⟨0, by omega, rfl, H0.out⟩
  case round =>
    obtain ⟨k, hk, rfl, hI⟩ := hrel
    clear H0
    have HK : Hid _ := hk
    by_cases hlt : k < 32
    · have c0 := cell_blk hI.m0 hI.m1 hlt
      have e1 : (k : Int) / 16 < 2 := by omega
      have e2 : 0 ≤ (k : Int) / 16 := by omega
      clear hk
      go_wp2_with fail
      refine (hI.two.leafAt hlt (Upd.refl _ _)).mono ?_
      rintro e w1 ⟨rfl, hu1⟩
      have h1 := hI.keep hn hu1
      clear hI c0 hu1
      cases ht : (both a b k).there with
      | false =>
        have h2 := h1.keep hn ((Upd.refl (fun _ => False) w1).alloc (.cells #[.bool false, .bool (both a b k).wr, .int .i64 (both a b k).fr] 69))
        have hz := eq_zero (t k) (HR.out.out k hlt ht)
        have hr : (w1.alloc (.cells #[.bool false, .bool (both a b k).wr, .int .i64 (both a b k).fr] 69)).rangeAt (W.heap.size + 1) (k * 16) (rowOf (t k)) := by
          intro j v hv
          have hj : j < 16 := by have := (List.getElem?_eq_some_iff.1 hv).1; rw [rowOf_length] at this; exact this
          rw [rowOf_get _ _ hj] at hv
          rw [h2.row k j hlt hj]; exact hv
        have hlen := rowOf_length (t k)
        have H3 : Hid _ := h2.skip ht
        clear ht h2 h1
        revert hr hlen hz
        generalize rowOf (t k) = c1
        intro hz hr hlen
        have i1 : (Try.prog.info? 32).map (·.size) = some c1.length := by rw [hlen]; exact info32
        go_wp2_with (refine wpList_load_mid (by rfl) 32 _ (by rfl) (W.heap.size + 1) (k * 16) (by rfl) c1 _ hr Try.underlying32 (by rfl) i1 ?_)
        go_roundg (32 - (k + 1))
        case rel => exact ⟨k + 1, by omega, by go_num, H3.out⟩
        case measure => have := HK.out; omega
      | true =>
        obtain ⟨f0, f1⟩ := HC.out.rng k hlt ht
        have hu := HC.out.used hlt ht
        have hB := HR.out.byt k hlt ht
        have f2 : (both a b k).fr < 64 := by have := HLE.out; omega
        have h2 := h1.keep hn ((Upd.refl (fun _ => False) w1).alloc (.cells #[.bool true, .bool (both a b k).wr, .int .i64 (both a b k).fr] 69))
        have q1 := LfAt.new w1 69 ⟨true, (both a b k).wr, (both a b k).fr⟩
        have sz := h1.sz
        have hcl := cntTo_le (both a b) (both a b k).fr k
        have H3 : Hid _ := h2.inc hn ht f0
        have HB : Hid _ := hB
        have HU : Hid _ := hu
        clear hB hu h1
        have c3 := h2.rf (both a b k).fr.toNat (by omega)
        rw [Int.toNat_of_nonneg f0] at c3
        have c4 := h2.fz (both a b k).fr.toNat
        have q2 := q1.upd (Upd.one _ (W.heap.size + 1 + 1) (both a b k).fr.toNat (.int .i64 ((cntTo (both a b) (both a b k).fr k : Int) + 1))) (by show ¬ (w1.heap.size = W.heap.size + 1 + 1); omega)
        have HQ2 : Hid _ := q2
        have d0 := q1.c0
        have d2 := q1.c2
        have g1 : decide ((both a b k).fr < 0) = false := by simp; omega
        have g2 : decide (63 < (both a b k).fr) = false := by simp; omega
        clear q1 q2 h2 ht
        go_wp2_with fail
        clear c3 c4 d0 d2
        revert H3 HQ2
        generalize (w1.alloc (.cells #[.bool true, .bool (both a b k).wr, .int .i64 (both a b k).fr] 69)).setCell ⟨W.heap.size + 1 + 1, (both a b k).fr.toNat, none⟩ (.int .i64 ((cntTo (both a b) (both a b k).fr k : Int) + 1)) = w2
        clear sz
        generalize w1.heap.size = qx
        intro H3 HQ2
        go_loopg [11] 16 (fun g i wi => ∃ j : Nat, j + g = 16 ∧ i = .int .i64 j ∧ He W wi bp bf bl0 bl1 s a b t (k + 1) ∧ LfAt wi qx ⟨true, (both a b k).wr, (both a b k).fr⟩)
        case atStart => exact ⟨0, by omega, rfl, H3.out, HQ2.out⟩
        case round =>
          obtain ⟨i, hi, rfl, hJ, hX⟩ := hrel
          clear H3 HQ2
          have HI : Hid _ := hi
          by_cases hlt2 : i < 16
          · have d2 := hX.c2
            have hv := HB.out i hlt2
            have c5 := hJ.row k i hlt hlt2
            have b5 : (t k i != t k i) = false := by simp
            have g3 := get_at wr bp bf i (both a b k).fr s hJ.two.pool HU.out hlt2
            rw [hv] at g3
            have HG : Hid _ := g3
            clear hi g3 hv
            go_wp2_with fail
            refine Calls.mono (HG.out) ?_
            rintro e w3 ⟨rfl, rfl⟩
            go_wp2_with fail
            go_roundg (16 - (i + 1))
            case rel => exact ⟨i + 1, by omega, by go_num, hJ, hX⟩
            case measure => have := HI.out; omega
          · clear hi
            go_wp2_with fail
            go_roundg (32 - (k + 1))
            case rel => exact ⟨k + 1, by omega, by go_num, hJ⟩
            case measure => have := HK.out; omega
    · have ek : k = 32 := by omega
      subst ek
      have H1 : Hid _ := hI
      clear hI hk HK
      go_wp2_with fail
      go_loopg [14] 32 (fun g i wi => ∃ k : Nat, k + g = 32 ∧ i = .int .i64 k ∧ He W wi bp bf bl0 bl1 s a b t 32)
      case atStart => exact ⟨0, by omega, rfl, H1.out⟩
      case round =>
        obtain ⟨k, hk, rfl, hI⟩ := hrel
        clear H1
        have HK : Hid _ := hk
        by_cases hlt : k < 32
        · have c0 := cell_blk hI.m0 hI.m1 hlt
          have e1 : (k : Int) / 16 < 2 := by omega
          have e2 : 0 ≤ (k : Int) / 16 := by omega
          clear hk
          go_wp2_with fail
          refine (hI.two.leafAt hlt (Upd.refl _ _)).mono ?_
          rintro e w1 ⟨rfl, hu1⟩
          have h1 := hI.keep hn hu1
          clear hI c0 hu1
          cases ht : (both a b k).there with
          | false =>
            have h2 := h1.keep hn ((Upd.refl (fun _ => False) w1).alloc (.cells #[.bool false, .bool (both a b k).wr, .int .i64 (both a b k).fr] 69))
            have H2 : Hid _ := h2
            clear ht h2 h1
            go_wp2_with fail
            go_roundg (32 - (k + 1))
            case rel => exact ⟨k + 1, by omega, by go_num, H2.out⟩
            case measure => have := HK.out; omega
          | true =>
            cases hw : (both a b k).wr with
            | false =>
              have h2 := h1.keep hn ((Upd.refl (fun _ => False) w1).alloc (.cells #[.bool true, .bool false, .int .i64 (both a b k).fr] 69))
              have H2 : Hid _ := h2
              clear ht hw h2 h1
              go_wp2_with fail
              go_roundg (32 - (k + 1))
              case rel => exact ⟨k + 1, by omega, by go_num, H2.out⟩
              case measure => have := HK.out; omega
            | true =>
              have h2 := h1.keep hn ((Upd.refl (fun _ => False) w1).alloc (.cells #[.bool true, .bool true, .int .i64 (both a b k).fr] 69))
              obtain ⟨f0, f1⟩ := HC.out.rng k hlt ht
              have hone := HR.out.one k hlt ht hw
              have hcnt := HC.out.cnt (both a b k).fr.toNat (by omega)
              have f2 : (both a b k).fr < 64 := by have := HLE.out; omega
              have c3 := h2.rf (both a b k).fr.toNat (by omega)
              rw [← hcnt, hone] at c3
              have H2 : Hid _ := h2
              clear ht hw h2 h1 hone hcnt
              go_wp2_with fail
              go_roundg (32 - (k + 1))
              case rel => exact ⟨k + 1, by omega, by go_num, H2.out⟩
              case measure => have := HK.out; omega
        · clear hk HK
          have H2 : Hid _ := hI
          clear hI
          go_wp2_with fail
          go_loopg [17] s.n (fun g i wi => ∃ f : Nat, f + g = s.n ∧ i = .int .i64 f ∧ He W wi bp bf bl0 bl1 s a b t 32)
          case atStart => exact ⟨0, by omega, rfl, H2.out⟩
          case round =>
            obtain ⟨f, hf, rfl, hI⟩ := hrel
            clear H2
            have HF : Hid _ := hf
            have hle := HLE.out
            by_cases hlt2 : f < s.n
            · have HCN : Hid _ := HC.out.cnt f hlt2
              clear hf
              go_wp2_with (go_at_call 60; refine (size_any _ _ _ _ hI.two.pool).mono ?_; rintro e w1 ⟨rfl, rfl⟩)
              refine (of_yes _ _ _ f s hI.two.pool hlt2).mono ?_
              rintro e w2 ⟨rfl, hu2⟩
              have h2 := hI.keep hn hu2
              clear hI hu2
              go_wp2_with fail
              have d1 : (w2.alloc (.cells #[.int .i64 (classOf (s.refs f)), .int .i64 (s.refs f)] 58)).cell? ⟨w2.heap.size, 1, none⟩ = some (.int .i64 (s.refs f)) := by rw [World.cell?_alloc_new]; rfl
              have h3 := h2.keep hn ((Upd.refl (fun _ => False) w2).alloc (.cells #[.int .i64 (classOf (s.refs f)), .int .i64 (s.refs f)] 58))
              clear h2
              revert d1 h3
              generalize w2.alloc (.cells #[.int .i64 (classOf (s.refs f)), .int .i64 (s.refs f)] 58) = w3
              generalize w2.heap.size = q3
              intro d1 h3
              have c1 := h3.rf f (by omega)
              rw [← HCN.out] at c1
              have b1 : (s.refs f != s.refs f) = false := by simp
              have fn : (f : Int) < 64 := by omega
              clear HCN
              go_quiet (fail)
              have h4 := h3.keep hn ((Upd.refl _ _).drewN nq)
              have H4 : Hid _ := h4
              clear h3 h4 d1 c1
              go_wp2_with fail
              go_roundg (s.n - (f + 1))
              case rel => exact ⟨f + 1, by omega, by go_num, H4.out⟩
              case measure => have := HF.out; omega
            · clear hf
              have nlt : ¬ (f : Int) < s.n := by omega
              go_wp2_with (go_at_call 60; refine (size_any _ _ _ _ hI.two.pool).mono ?_; rintro e w1 ⟨rfl, rfl⟩)
              go_ret
              exact ⟨rfl, hI.upd⟩
end Go.Proofs.Ytadpibcgjgcjhaa
/- What holds in each round of undercrofttop.TopMap, and how it sets its maps up. -/
namespace Go.Proofs.Ytadpibcgjgcjhaa
open Go.ChangeShapes Go.WideShapes Go.ChangeAt Go.RowKit
set_option maxRecDepth 100000
attribute [local go_sem ↓] Go.wp_at_zero Go.wp_at_succ

/-- A map whose first k pages are plugged. -/
def mpk (k : Nat) : Mp := { st := fun i => if i < k then 1 else 0, lf := fun _ => lf0 }
theorem mpk_zero : mpk 0 = mp0 := by
  unfold mpk mp0
  simp
theorem mpk_inv (n i j : Nat) : Inv (pl0 n) (mpk i) (mpk j) where
  pa := fun k _ => ⟨by unfold mpk; simp only; split <;> omega, fun _ => rfl⟩
  pb := fun k _ => ⟨by unfold mpk; simp only; split <;> omega, fun _ => rfl⟩
  cnt := fun f hf => (Inv.start n).cnt f hf
  ina := fun k _ ht => by simp [mpk, lf0] at ht
  inb := fun k _ ht => by simp [mpk, lf0] at ht
theorem mpk_turn (n i : Nat) (hi : i < 16) : plugR (pl0 n) (mpk i) i = (0, pl0 n, mpk (i + 1)) := by
  have ho : onB (i : Int) = true := (onB_iff _).2 ⟨by omega, by omega⟩
  have e : turnM (mpk i) i 1 = mpk (i + 1) := by
    unfold turnM mpk
    simp only [lf0, Bool.false_and, Bool.false_eq_true, if_false, Mp.mk.injEq, and_true]
    funext k
    unfold setAt
    by_cases e : k = i
    · subst e; simp
    · simp only [e, if_false]
      by_cases g : k < i
      · rw [if_pos g, if_pos (by omega)]
      · rw [if_neg g, if_neg (by omega)]
  unfold plugR
  simp only [ho, if_true, Int.toNat_natCast]
  rw [if_pos (by simp [mpk]), e]
  simp [turnP, mpk, lf0]
theorem lvPlug_at (w : World) (bl bp bf n i j : Nat) (h : LvAt w bl bp (mpk i)) (hp : PoolAt w bp bf (pl0 n)) (h1 : bl ≠ bp) (h2 : bl ≠ bf) (hn : 0 < n) (hi : i < 16) :
    Calls Try.prog 38 #[.pointer (some ⟨bl, 0, none⟩), .int .i64 i] w fun e w' => e = .returned .nilIface ∧ PoolAt w' bp bf (pl0 n) ∧ LvAt w' bl bp (mpk (i + 1)) ∧ Upd (fun k => k = bf ∨ k = bl) w w' := by
  have := lvPlug w bl bp bf i (mpk i) (mpk j) (pl0 n) h hp h1 h2 hn (mpk_inv n i j)
  rw [mpk_turn n i hi] at this
  simpa only [errV_zero] using this
theorem mpk_r (n : Nat) : RInv (pl0 n) (both (mpk 16) (mpk 16)) fun _ _ => 0 where
  one := fun k _ ht => by
    have e : both (mpk 16) (mpk 16) k = lf0 := by unfold both mpk; simp
    rw [e] at ht; simp [lf0] at ht
  out := fun _ _ _ _ _ => rfl
  byt := fun k _ ht => by
    have e : both (mpk 16) (mpk 16) k = lf0 := by unfold both mpk; simp
    rw [e] at ht; simp [lf0] at ht

/-- What holds in each round. -/
structure T2 (W w : World) (bl0 bl1 qb n : Nat) (s : Pl) (a b : Mp) (t : Nat → Nat → Int) : Prop where
  two : Two w (W.heap.size + 1) W.heap.size bl0 bl1 s a b t
  m0 : w.cell? ⟨W.heap.size + 2, 0, none⟩ = some (.pointer (some ⟨bl0, 0, none⟩))
  m1 : w.cell? ⟨W.heap.size + 2, 1, none⟩ = some (.pointer (some ⟨bl1, 0, none⟩))
  row : ∀ p i, p < 32 → i < 16 → w.cell? ⟨qb, p * 16 + i, none⟩ = some (.int .u8 (t p i))
  fz : ∀ o, w.frozen? ⟨qb, o, none⟩ = false
  sn : s.n = n
  upd : Upd (fun _ => False) W w
  ne : W.heap.size + 2 < bl0 ∧ bl0 < bl1 ∧ bl1 < qb
theorem frozen_any {S : Nat → Prop} {w w' : World} {b o : Nat} {v : Value} (u : Upd S w w') (hb : ¬ S b) (hv : w.cell? ⟨b, o, none⟩ = some v) (h : ∀ o, w.frozen? ⟨b, o, none⟩ = false) : ∀ o, w'.frozen? ⟨b, o, none⟩ = false := fun o => by
  rw [World.frozen?_of_block (w := w) (u.block b (World.block_lt_of_cell? w _ hv) hb)]; exact h o
theorem T2.ap {W w : World} {bl0 bl1 qb n : Nat} {s : Pl} {a b : Mp} {t : Nat → Nat → Int} (h : T2 W w bl0 bl1 qb n s a b t) : Ap (W.heap.size + 1) W.heap.size bl0 bl1 := by
  have := h.ne
  unfold Ap
  omega
theorem T2.keep {W w w' : World} {bl0 bl1 qb n : Nat} {s : Pl} {a b : Mp} {t : Nat → Nat → Int} (h : T2 W w bl0 bl1 qb n s a b t) (hn : 0 < n) (u : Upd (fun _ => False) w w') : T2 W w' bl0 bl1 qb n s a b t :=
  { two := h.two.keep (by rw [h.sn]; exact hn) u, m0 := u.cell h.m0 (fun f => f), m1 := u.cell h.m1 (fun f => f), row := fun p i hp hi => u.cell (h.row p i hp hi) (fun f => f), fz := frozen_any u (fun f => f) (h.row 0 0 (by omega) (by omega)) h.fz, sn := h.sn, upd := h.upd.trans u (fun _ _ f => f), ne := h.ne }
/-- An act of the maps. -/
theorem T2.act {W w w' : World} {bl0 bl1 qb n : Nat} {s s' : Pl} {a b a' b' : Mp} {t : Nat → Nat → Int} (h : T2 W w bl0 bl1 qb n s a b t) (h2 : Two w' (W.heap.size + 1) W.heap.size bl0 bl1 s' a' b' t) (hs : s'.n = s.n) (u : Upd (fun x => x = W.heap.size ∨ x = bl0 ∨ x = bl1) w w') : T2 W w' bl0 bl1 qb n s' a' b' t := by
  have ne := h.ne
  have n1 : ¬ (W.heap.size + 2 = W.heap.size ∨ W.heap.size + 2 = bl0 ∨ W.heap.size + 2 = bl1) := by omega
  have n2 : ¬ (qb = W.heap.size ∨ qb = bl0 ∨ qb = bl1) := by omega
  exact { two := h2, m0 := u.cell h.m0 n1, m1 := u.cell h.m1 n1, row := fun p i hp hi => u.cell (h.row p i hp hi) n2, fz := frozen_any u (by omega) (h.row 0 0 (by omega) (by omega)) h.fz, sn := hs.trans h.sn, upd := h.upd.trans u (fun i hi e => by omega), ne := ne }
/-- Ahead of the maps: the pool, and the array for them. -/
structure Sa (W w : World) (n : Nat) : Prop where
  pool : PoolAt w (W.heap.size + 1) W.heap.size (pl0 n)
  a0 : ∃ v, w.cell? ⟨W.heap.size + 2, 0, none⟩ = some v
  a1 : ∃ v, w.cell? ⟨W.heap.size + 2, 1, none⟩ = some v
  fz : ∀ o, w.frozen? ⟨W.heap.size + 2, o, none⟩ = false
  upd : Upd (fun _ => False) W w
  sz : W.heap.size + 3 ≤ w.heap.size
theorem Sa.start {W w : World} {n : Nat} (hp : PoolAt w (W.heap.size + 1) W.heap.size (pl0 n)) (hu : Upd (fun _ => False) W w) (hz : w.heap.size = W.heap.size + 2) : Sa W (w.alloc (.cells #[.pointer none, .pointer none] 64)) n where
  pool := hp.upd ((Upd.refl (fun _ => False) w).alloc _) (fun f => f) (fun f => f) (by omega)
  a0 := ⟨.pointer none, by have := World.cell?_alloc_new w #[.pointer none, .pointer none] 64 0; rw [hz] at this; rw [this]; rfl⟩
  a1 := ⟨.pointer none, by have := World.cell?_alloc_new w #[.pointer none, .pointer none] 64 1; rw [hz] at this; rw [this]; rfl⟩
  fz := fun o => by have := World.frozen?_alloc_new w #[.pointer none, .pointer none] 64 o; rw [hz] at this; exact this
  upd := hu.alloc _
  sz := by simp [hz]
def zeroT : Array Value := Array.replicate 512 (.int .u8 0)
theorem zero78 (w : World) : (zeroValue 78).run Try.prog w = .ok (.agg zeroT) w := by kernel_rfl
theorem zeroT_get (i : Nat) (h : i < 512) : zeroT[i]? = some (.int .u8 0) := by simp [zeroT, h]
/-- Behind the maps: the first round's state. -/
theorem T2.start {W w : World} {bl0 bl1 n : Nat} (hn : 0 < n) (hp : PoolAt w (W.heap.size + 1) W.heap.size (pl0 n)) (h0 : LvAt w bl0 (W.heap.size + 1) (mpk 16)) (h1 : LvAt w bl1 (W.heap.size + 1) (mpk 16)) (c0 : w.cell? ⟨W.heap.size + 2, 0, none⟩ = some (.pointer (some ⟨bl0, 0, none⟩))) (c1 : w.cell? ⟨W.heap.size + 2, 1, none⟩ = some (.pointer (some ⟨bl1, 0, none⟩)))
    (hu : Upd (fun _ => False) W w) (g : W.heap.size + 2 < bl0 ∧ bl0 < bl1) : T2 W (w.alloc (.cells zeroT 78)) bl0 bl1 w.heap.size n (pl0 n) (mpk 16) (mpk 16) (fun _ _ => 0) := by
  have u := (Upd.refl (fun _ => False) w).alloc (.cells zeroT 78)
  have l1 := h1.lt
  exact { two := ⟨hp.upd u (fun f => f) (fun f => f) (World.block_lt_of_cell? w _ (hp.refs 0 hn)), h0.upd u (fun f => f), h1.upd u (fun f => f), mpk_inv n 16 16, fun k hk => by simp [mpk, hk], fun k hk => by simp [mpk, hk], mpk_r n⟩,
          m0 := u.cell c0 (fun f => f), m1 := u.cell c1 (fun f => f), row := fun p i hp hi => by rw [World.cell?_alloc_new, zeroT_get _ (by omega)], fz := fun o => World.frozen?_alloc_new _ _ _ _, sn := rfl, upd := hu.alloc _, ne := by omega }
end Go.Proofs.Ytadpibcgjgcjhaa
/- The acts of undercrofttop.TopMap on its two maps. -/
namespace Go.Proofs.Ytadpibcgjgcjhaa
open Go.ChangeShapes Go.WideShapes Go.ChangeAt Go.RowKit
set_option maxRecDepth 100000

theorem set_at (w : World) (bp bf : Nat) (f i v : Int) (s : Pl) (h : PoolAt w bp bf s) (i0 : 0 ≤ i) (i1 : i < 16) (hu : s.used f = true) (hr : s.refs f.toNat ≤ 1) :
    Calls Try.prog 21 #[.pointer (some ⟨bp, 0, none⟩), .int .i64 f, .int .i64 i, .int .u8 v] w fun e w' => e = .returned .nilIface ∧ PoolAt w' bp bf { s with byt := setAt s.byt f.toNat (setAt (s.byt f.toNat) i.toNat v) } ∧ Upd (fun k => k = bf) w w' := by
  have g := set_any w bp bf f i v s h
  have n1 : ¬ (i < 0 ∨ 15 < i) := by omega
  have n2 : ¬ 1 < s.refs f.toNat := by omega
  simpa only [Pl.set, hu, n1, n2, if_true, if_false, errV_zero] using g
theorem errV_ne {c : Int} (h : c ≠ 0) : errV c = .iface 110 (.int .i64 c) := by unfold errV; rw [if_neg h]

theorem Two.touch0 {w : World} {bp bf bl0 bl1 : Nat} {s : Pl} {a b : Mp} {t : Nat → Nat → Int} (h : Two w bp bf bl0 bl1 s a b t) (hn : 0 < s.n) (d : Ap bp bf bl0 bl1) (n : Int) (wt : Bool) :
    Calls Try.prog 35 #[.pointer (some ⟨bl0, 0, none⟩), .int .i64 n, .bool wt] w fun e w' => ∃ fr mv er, e = .returned (.tuple #[.int .i64 fr, .bool mv, errV er]) ∧ ∃ s' a' b', Two w' bp bf bl0 bl1 s' a' b' t ∧ s'.n = s.n ∧ Upd (fun x => x = bf ∨ x = bl0 ∨ x = bl1) w w' ∧
      (er = 0 → onB n = true ∧ (wt = true → (both a' b' n.toNat).there = true ∧ (both a' b' n.toNat).wr = true ∧ (both a' b' n.toNat).fr = fr)) := by
  unfold Ap at d
  refine (lvTouch w bl0 bp bf n wt a b s h.lv0 h.pool (by omega) (by omega) hn h.inv).mono ?_
  rintro e w' ⟨rfl, hp, hl, hu⟩
  refine ⟨_, _, _, rfl, ?_⟩
  cases ho : onB n with
  | false =>
    have e1 : touchR s a n wt = ((0, false, 1), s, a) := by simp [touchR, ho]
    rw [e1] at hp hl ⊢
    exact ⟨s, a, b, { h with pool := hp, lv0 := hl, lv1 := h.lv1.upd hu (by omega) }, rfl, hu.wide (fun _ e => by omega), fun e => by simp at e⟩
  | true =>
    obtain ⟨n0, n1⟩ := (onB_iff n).1 ho
    obtain ⟨k, rfl⟩ := Int.eq_ofNat_of_zero_le n0
    have hk : k < 16 := by omega
    obtain ⟨l, e2, r2, c2⟩ := touch_keeps h.r h.inv.cn wt hk (show k < 32 by omega) (both_lo a b hk) (h.st0 k hk)
    have hi := h.inv.touch k wt
    rw [e2] at hl hi
    have eb := both_set0 a b hk a.st l
    refine ⟨_, { a with st := a.st, lf := setAt a.lf k l }, b, ⟨hp, hl, h.lv1.upd hu (by omega), hi, h.st0, h.st1, by rw [eb]; exact r2⟩, touch_n _ _ _ _, hu.wide (fun _ e => by omega), fun e => ⟨rfl, fun ew => ?_⟩⟩
    obtain ⟨c3, c4, c5⟩ := c2 e
    rw [Int.toNat_natCast, eb, setAt_same]
    exact ⟨c3, c5 ew, c4⟩
theorem Two.sealn0 {w : World} {bp bf bl0 bl1 : Nat} {s : Pl} {a b : Mp} {t : Nat → Nat → Int} (h : Two w bp bf bl0 bl1 s a b t) (hn : 0 < s.n) (d : Ap bp bf bl0 bl1) (n : Int) :
    Calls Try.prog 42 #[.pointer (some ⟨bl0, 0, none⟩), .int .i64 n] w fun e w' => ∃ er, e = .returned (errV er) ∧ ∃ a' b', Two w' bp bf bl0 bl1 s a' b' t ∧ Upd (fun x => x = bf ∨ x = bl0 ∨ x = bl1) w w' := by
  have d' := d
  unfold Ap at d'
  refine (lvSeal w bl0 bp bf n a b s h.lv0 h.pool (by omega) (by omega) hn h.inv).mono ?_
  rintro e w' ⟨rfl, hp, hl, hu⟩
  refine ⟨_, rfl, ?_⟩
  cases ho : onB n with
  | false =>
    have e1 : sealR a n = (1, a) := by simp [sealR, ho]
    rw [e1] at hl
    exact ⟨a, b, { h with pool := hp, lv0 := hl, lv1 := h.lv1.upd hu (by omega) }, hu.wide (fun _ e => by omega)⟩
  | true =>
    obtain ⟨n0, n1⟩ := (onB_iff n).1 ho
    obtain ⟨k, rfl⟩ := Int.eq_ofNat_of_zero_le n0
    obtain ⟨x2, l, h2, _⟩ := h.seal0 d (show k < 16 by omega) hp hl hu
    exact ⟨x2, b, h2, hu.wide (fun _ e => by omega)⟩
/-- A page joins a frame in which none may be written. -/
theorem Two.join0 {w : World} {bp bf bl0 bl1 : Nat} {s : Pl} {a b : Mp} {t : Nat → Nat → Int} (h : Two w bp bf bl0 bl1 s a b t) (hn : 0 < s.n) (d : Ap bp bf bl0 bl1) {k : Nat} (hk : k < 16) {f : Int} (ht : (both a b k).there = true) (hne : (both a b k).fr ≠ f) (hs : s.same (both a b k).fr f = true)
    (hw : ∀ p, p < 32 → (both a b p).there = true → (both a b p).fr = f → (both a b p).wr = false) :
    Calls Try.prog 41 #[.pointer (some ⟨bl0, 0, none⟩), .int .i64 k, .int .i64 f] w fun e w' => e = .returned .nilIface ∧ ∃ s' a' b', Two w' bp bf bl0 bl1 s' a' b' t ∧ s'.n = s.n ∧ Upd (fun x => x = bf ∨ x = bl0 ∨ x = bl1) w w' := by
  unfold Ap at d
  have ho : onB (k : Int) = true := (onB_iff _).2 ⟨by omega, by omega⟩
  have r2 := h.r.join h.inv.cn (show k < 32 by omega) ht hne hs hw
  have eL : both a b k = a.lf k := both_lo a b hk
  rw [eL] at ht hne hs r2
  have e1 : joinR s a k f = (0, ((s.share f 1).2.share (a.lf k).fr (-1)).2, { a with st := a.st, lf := setAt a.lf k ⟨true, false, f⟩ }) := by
    have hne' : ((a.lf k).fr == f) = false := by simp [hne]
    simp [joinR, ho, ht, hne', hs]
  have hi := h.inv.join k f
  have hnn := join_n s a k f
  refine (lvJoin w bl0 bp bf k f a b s h.lv0 h.pool (by omega) (by omega) hn h.inv).mono ?_
  rintro e w' ⟨rfl, hp, hl, hu⟩
  rw [e1] at hp hl hi hnn
  rw [e1]
  have eb := both_set0 a b hk a.st (⟨true, false, f⟩ : Lf)
  exact ⟨by simp only [errV_zero], _, { a with st := a.st, lf := setAt a.lf k ⟨true, false, f⟩ }, b, ⟨hp, hl, h.lv1.upd hu (by omega), hi, h.st0, h.st1, by rw [eb]; exact r2⟩, hnn, hu.wide (fun _ e => by omega)⟩
theorem Two.leafn0 {w : World} {bp bf bl0 bl1 : Nat} {s : Pl} {a b : Mp} {t : Nat → Nat → Int} (h : Two w bp bf bl0 bl1 s a b t) (n : Int) :
    Calls Try.prog 39 #[.pointer (some ⟨bl0, 0, none⟩), .int .i64 n] w fun e w' => ∃ l er, e = .returned (.tuple #[.agg #[.bool l.there, .bool l.wr, .int .i64 l.fr], errV er]) ∧ (l.there = true → onB n = true ∧ both a b n.toNat = l) ∧ Upd (fun _ => False) w w' := by
  refine (lvLeaf w bl0 bp n a h.lv0).mono ?_
  rintro e w' ⟨rfl, hu⟩
  refine ⟨_, _, rfl, ?_, hu⟩
  cases ho : onB n with
  | false => simp [lfR, ho, lf0]
  | true =>
    obtain ⟨n0, n1⟩ := (onB_iff n).1 ho
    obtain ⟨k, rfl⟩ := Int.eq_ofNat_of_zero_le n0
    have hk : k < 16 := by omega
    simp only [lfR, ho, if_true, Int.toNat_natCast]
    exact fun _ => ⟨trivial, both_lo a b hk⟩

theorem Two.touch1 {w : World} {bp bf bl0 bl1 : Nat} {s : Pl} {a b : Mp} {t : Nat → Nat → Int} (h : Two w bp bf bl0 bl1 s a b t) (hn : 0 < s.n) (d : Ap bp bf bl0 bl1) (n : Int) (wt : Bool) :
    Calls Try.prog 35 #[.pointer (some ⟨bl1, 0, none⟩), .int .i64 n, .bool wt] w fun e w' => ∃ fr mv er, e = .returned (.tuple #[.int .i64 fr, .bool mv, errV er]) ∧ ∃ s' a' b', Two w' bp bf bl0 bl1 s' a' b' t ∧ s'.n = s.n ∧ Upd (fun x => x = bf ∨ x = bl0 ∨ x = bl1) w w' ∧
      (er = 0 → onB n = true ∧ (wt = true → (both a' b' (16 + n.toNat)).there = true ∧ (both a' b' (16 + n.toNat)).wr = true ∧ (both a' b' (16 + n.toNat)).fr = fr)) := by
  unfold Ap at d
  refine (lvTouch w bl1 bp bf n wt b a s h.lv1 h.pool (by omega) (by omega) hn h.inv.swap).mono ?_
  rintro e w' ⟨rfl, hp, hl, hu⟩
  refine ⟨_, _, _, rfl, ?_⟩
  cases ho : onB n with
  | false =>
    have e1 : touchR s b n wt = ((0, false, 1), s, b) := by simp [touchR, ho]
    rw [e1] at hp hl ⊢
    exact ⟨s, a, b, { h with pool := hp, lv1 := hl, lv0 := h.lv0.upd hu (by omega) }, rfl, hu.wide (fun _ e => by omega), fun e => by simp at e⟩
  | true =>
    obtain ⟨n0, n1⟩ := (onB_iff n).1 ho
    obtain ⟨k, rfl⟩ := Int.eq_ofNat_of_zero_le n0
    have hk : k < 16 := by omega
    obtain ⟨l, e2, r2, c2⟩ := touch_keeps h.r h.inv.cn wt hk (show (16 + k) < 32 by omega) (both_hi a b) (h.st1 k hk)
    have hi := h.inv.swap.touch k wt
    rw [e2] at hl hi
    have eb := both_set1 a b (k := k) b.st l
    refine ⟨_, a, { b with st := b.st, lf := setAt b.lf k l }, ⟨hp, h.lv0.upd hu (by omega), hl, hi.swap, h.st0, h.st1, by rw [eb]; exact r2⟩, touch_n _ _ _ _, hu.wide (fun _ e => by omega), fun e => ⟨rfl, fun ew => ?_⟩⟩
    obtain ⟨c3, c4, c5⟩ := c2 e
    rw [Int.toNat_natCast, eb, setAt_same]
    exact ⟨c3, c5 ew, c4⟩
theorem Two.sealn1 {w : World} {bp bf bl0 bl1 : Nat} {s : Pl} {a b : Mp} {t : Nat → Nat → Int} (h : Two w bp bf bl0 bl1 s a b t) (hn : 0 < s.n) (d : Ap bp bf bl0 bl1) (n : Int) :
    Calls Try.prog 42 #[.pointer (some ⟨bl1, 0, none⟩), .int .i64 n] w fun e w' => ∃ er, e = .returned (errV er) ∧ ∃ a' b', Two w' bp bf bl0 bl1 s a' b' t ∧ Upd (fun x => x = bf ∨ x = bl0 ∨ x = bl1) w w' := by
  have d' := d
  unfold Ap at d'
  refine (lvSeal w bl1 bp bf n b a s h.lv1 h.pool (by omega) (by omega) hn h.inv.swap).mono ?_
  rintro e w' ⟨rfl, hp, hl, hu⟩
  refine ⟨_, rfl, ?_⟩
  cases ho : onB n with
  | false =>
    have e1 : sealR b n = (1, b) := by simp [sealR, ho]
    rw [e1] at hl
    exact ⟨a, b, { h with pool := hp, lv1 := hl, lv0 := h.lv0.upd hu (by omega) }, hu.wide (fun _ e => by omega)⟩
  | true =>
    obtain ⟨n0, n1⟩ := (onB_iff n).1 ho
    obtain ⟨k, rfl⟩ := Int.eq_ofNat_of_zero_le n0
    obtain ⟨x2, l, h2, _⟩ := h.seal1 d (show k < 16 by omega) hp hl hu
    exact ⟨a, x2, h2, hu.wide (fun _ e => by omega)⟩
/-- A page joins a frame in which none may be written. -/
theorem Two.join1 {w : World} {bp bf bl0 bl1 : Nat} {s : Pl} {a b : Mp} {t : Nat → Nat → Int} (h : Two w bp bf bl0 bl1 s a b t) (hn : 0 < s.n) (d : Ap bp bf bl0 bl1) {k : Nat} (hk : k < 16) {f : Int} (ht : (both a b (16 + k)).there = true) (hne : (both a b (16 + k)).fr ≠ f) (hs : s.same (both a b (16 + k)).fr f = true)
    (hw : ∀ p, p < 32 → (both a b p).there = true → (both a b p).fr = f → (both a b p).wr = false) :
    Calls Try.prog 41 #[.pointer (some ⟨bl1, 0, none⟩), .int .i64 k, .int .i64 f] w fun e w' => e = .returned .nilIface ∧ ∃ s' a' b', Two w' bp bf bl0 bl1 s' a' b' t ∧ s'.n = s.n ∧ Upd (fun x => x = bf ∨ x = bl0 ∨ x = bl1) w w' := by
  unfold Ap at d
  have ho : onB (k : Int) = true := (onB_iff _).2 ⟨by omega, by omega⟩
  have r2 := h.r.join h.inv.cn (show (16 + k) < 32 by omega) ht hne hs hw
  have eL : both a b (16 + k) = b.lf k := both_hi a b
  rw [eL] at ht hne hs r2
  have e1 : joinR s b k f = (0, ((s.share f 1).2.share (b.lf k).fr (-1)).2, { b with st := b.st, lf := setAt b.lf k ⟨true, false, f⟩ }) := by
    have hne' : ((b.lf k).fr == f) = false := by simp [hne]
    simp [joinR, ho, ht, hne', hs]
  have hi := h.inv.swap.join k f
  have hnn := join_n s b k f
  refine (lvJoin w bl1 bp bf k f b a s h.lv1 h.pool (by omega) (by omega) hn h.inv.swap).mono ?_
  rintro e w' ⟨rfl, hp, hl, hu⟩
  rw [e1] at hp hl hi hnn
  rw [e1]
  have eb := both_set1 a b (k := k) b.st (⟨true, false, f⟩ : Lf)
  exact ⟨by simp only [errV_zero], _, a, { b with st := b.st, lf := setAt b.lf k ⟨true, false, f⟩ }, ⟨hp, h.lv0.upd hu (by omega), hl, hi.swap, h.st0, h.st1, by rw [eb]; exact r2⟩, hnn, hu.wide (fun _ e => by omega)⟩
theorem Two.leafn1 {w : World} {bp bf bl0 bl1 : Nat} {s : Pl} {a b : Mp} {t : Nat → Nat → Int} (h : Two w bp bf bl0 bl1 s a b t) (n : Int) :
    Calls Try.prog 39 #[.pointer (some ⟨bl1, 0, none⟩), .int .i64 n] w fun e w' => ∃ l er, e = .returned (.tuple #[.agg #[.bool l.there, .bool l.wr, .int .i64 l.fr], errV er]) ∧ (l.there = true → onB n = true ∧ both a b (16 + n.toNat) = l) ∧ Upd (fun _ => False) w w' := by
  refine (lvLeaf w bl1 bp n b h.lv1).mono ?_
  rintro e w' ⟨rfl, hu⟩
  refine ⟨_, _, rfl, ?_, hu⟩
  cases ho : onB n with
  | false => simp [lfR, ho, lf0]
  | true =>
    obtain ⟨n0, n1⟩ := (onB_iff n).1 ho
    obtain ⟨k, rfl⟩ := Int.eq_ofNat_of_zero_le n0
    have hk : k < 16 := by omega
    simp only [lfR, ho, if_true, Int.toNat_natCast]
    exact fun _ => ⟨trivial, both_hi a b⟩

/-- A byte is set where a page may be written. -/
theorem Two.byte {w w' : World} {bp bf bl0 bl1 : Nat} {s : Pl} {a b : Mp} {t : Nat → Nat → Int} (h : Two w bp bf bl0 bl1 s a b t) (d : Ap bp bf bl0 bl1) {p i : Nat} {v : Int} (hp : p < 32) (ht : (both a b p).there = true) (hw : (both a b p).wr = true)
    (hP : PoolAt w' bp bf { s with byt := setAt s.byt (both a b p).fr.toNat (setAt (s.byt (both a b p).fr.toNat) i v) }) (u : Upd (fun x => x = bf) w w') :
    Two w' bp bf bl0 bl1 { s with byt := setAt s.byt (both a b p).fr.toNat (setAt (s.byt (both a b p).fr.toNat) i v) } a b (setAt t p (setAt (t p) i v)) := by
  unfold Ap at d
  exact ⟨hP, h.lv0.upd u (by omega), h.lv1.upd u (by omega), h.inv.same _ a.st h.inv.pa, h.st0, h.st1, h.r.set h.inv.cn hp ht hw⟩
/-- The law's own row is written too. -/
theorem T2.byte {W w w' : World} {bl0 bl1 qb n p i : Nat} {s s' : Pl} {a b : Mp} {t : Nat → Nat → Int} {v : Int} (h : T2 W w bl0 bl1 qb n s a b t) (hn : 0 < n) (h2 : Two w' (W.heap.size + 1) W.heap.size bl0 bl1 s' a b (setAt t p (setAt (t p) i v))) (hs : s'.n = s.n) (u : Upd (fun x => x = W.heap.size) w w') (hp : p < 32) (hi : i < 16) :
    T2 W (w'.setCell ⟨qb, p * 16 + i, none⟩ (.int .u8 v)) bl0 bl1 qb n s' a b (setAt t p (setAt (t p) i v)) := by
  have ne := h.ne
  have n1 : ¬ (W.heap.size + 2 = W.heap.size) := by omega
  have n2 : ¬ (qb = W.heap.size) := by omega
  have u2 := Upd.one w' qb (p * 16 + i) (.int .u8 v)
  have n3 : ¬ (W.heap.size + 2 = qb) := by omega
  have row' : ∀ q j, q < 32 → j < 16 → w'.cell? ⟨qb, q * 16 + j, none⟩ = some (.int .u8 (t q j)) := fun q j hq hj => u.cell (h.row q j hq hj) n2
  refine { two := h2.far (by rw [hs, h.sn]; exact hn) u2 (by omega) (by omega) (by omega) (by omega), m0 := u2.cell (u.cell h.m0 n1) n3, m1 := u2.cell (u.cell h.m1 n1) n3, row := ?_, fz := fun o => by rw [World.frozen?_setCell]; exact frozen_any u n2 (h.row 0 0 (by omega) (by omega)) h.fz o, sn := hs.trans h.sn, upd := (h.upd.trans u (fun i hi e => by omega)).trans u2 (fun i hi e => by have := h.upd.size; omega), ne := ne }
  intro q j hq hj
  by_cases e : q = p
  · subst e
    rw [setAt_same]
    by_cases e2 : j = i
    · subst e2; rw [World.cell?_setCell_same _ _ _ (row' q j hq hj), setAt_same]
    · rw [World.cell?_setCell_other _ _ _ _ (addr_ne (Or.inr (by omega))), setAt_other _ _ _ _ e2]; exact row' q j hq hj
  · rw [World.cell?_setCell_other _ _ _ _ (addr_ne (Or.inr (by omega))), setAt_other _ _ _ _ e]; exact row' q j hq hj
theorem same_comm (s : Pl) (f g : Int) : s.same f g = s.same g f := by
  unfold Pl.same
  rw [Bool.and_comm (s.used f) (s.used g)]
  congr 1
  apply List.all_congr rfl
  intro i
  exact Bool.eq_iff_iff.2 (by simp only [beq_iff_eq]; exact ⟨Eq.symm, Eq.symm⟩)
/-- Behind the seal of a frame's pages: a page of another frame with the same bytes joins it. -/
theorem Sl.join0 {w : World} {bp bf bl0 bl1 : Nat} {s : Pl} {a b a' b' : Mp} {t : Nat → Nat → Int} {lx ly : Lf} {n : Int} (hS : Sl a b a' b' lx.fr 32) (hn : 0 < s.n) (d : Ap bp bf bl0 bl1) (ho : onB n = true) (he : both a b n.toNat = ly) (ht : ly.there = true) (hf : (lx.fr != ly.fr) = true) (hs : s.same lx.fr ly.fr = true)
    (h : Two w bp bf bl0 bl1 s a' b' t) :
    Calls Try.prog 41 #[.pointer (some ⟨bl0, 0, none⟩), .int .i64 n, .int .i64 lx.fr] w fun e w' => e = .returned .nilIface ∧ ∃ s' a2 b2, Two w' bp bf bl0 bl1 s' a2 b2 t ∧ s'.n = s.n ∧ Upd (fun x => x = bf ∨ x = bl0 ∨ x = bl1) w w' := by
  obtain ⟨n0, n1⟩ := (onB_iff n).1 ho
  obtain ⟨k, rfl⟩ := Int.eq_ofNat_of_zero_le n0
  rw [Int.toNat_natCast] at he
  have hk : k < 16 := by omega
  have hf' : lx.fr ≠ ly.fr := by simpa using hf
  have t1 := hS.th k (by omega)
  have f1 := hS.fr k (by omega)
  rw [he] at t1 f1
  exact h.join0 hn d hk (by rw [t1]; exact ht) (by rw [f1]; exact Ne.symm hf') (by rw [f1, same_comm]; exact hs) (fun p hp => hS.no p (by omega) hp)
theorem Sl.join1 {w : World} {bp bf bl0 bl1 : Nat} {s : Pl} {a b a' b' : Mp} {t : Nat → Nat → Int} {lx ly : Lf} {n : Int} (hS : Sl a b a' b' lx.fr 32) (hn : 0 < s.n) (d : Ap bp bf bl0 bl1) (ho : onB n = true) (he : both a b (16 + n.toNat) = ly) (ht : ly.there = true) (hf : (lx.fr != ly.fr) = true) (hs : s.same lx.fr ly.fr = true)
    (h : Two w bp bf bl0 bl1 s a' b' t) :
    Calls Try.prog 41 #[.pointer (some ⟨bl1, 0, none⟩), .int .i64 n, .int .i64 lx.fr] w fun e w' => e = .returned .nilIface ∧ ∃ s' a2 b2, Two w' bp bf bl0 bl1 s' a2 b2 t ∧ s'.n = s.n ∧ Upd (fun x => x = bf ∨ x = bl0 ∨ x = bl1) w w' := by
  obtain ⟨n0, n1⟩ := (onB_iff n).1 ho
  obtain ⟨k, rfl⟩ := Int.eq_ofNat_of_zero_le n0
  rw [Int.toNat_natCast] at he
  have hk : k < 16 := by omega
  have hf' : lx.fr ≠ ly.fr := by simpa using hf
  have t1 := hS.th (16 + k) (by omega)
  have f1 := hS.fr (16 + k) (by omega)
  rw [he] at t1 f1
  exact h.join1 hn d hk (by rw [t1]; exact ht) (by rw [f1]; exact Ne.symm hf') (by rw [f1, same_comm]; exact hs) (fun p hp => hS.no p (by omega) hp)
/-- A block of the law's own is written. -/
theorem T2.far {W w w' : World} {bl0 bl1 qb n Q : Nat} {s : Pl} {a b : Mp} {t : Nat → Nat → Int} (h : T2 W w bl0 bl1 qb n s a b t) (hn : 0 < n) (u : Upd (fun x => x = Q) w w') (hQ : qb < Q) : T2 W w' bl0 bl1 qb n s a b t := by
  have ne := h.ne
  have n1 : ¬ (W.heap.size + 2 = Q) := by omega
  have n2 : ¬ (qb = Q) := by omega
  exact { two := h.two.far (by rw [h.sn]; exact hn) u (by omega) (by omega) (by omega) (by omega), m0 := u.cell h.m0 n1, m1 := u.cell h.m1 n1, row := fun p i hp hi => u.cell (h.row p i hp hi) n2, fz := frozen_any u n2 (h.row 0 0 (by omega) (by omega)) h.fz, sn := h.sn, upd := h.upd.trans u (fun i hi e => by omega), ne := ne }
theorem LfAt.three {w : World} {Q : Nat} {v0 v1 v2 : Value} (c0 : w.cell? ⟨Q, 0, none⟩ = some v0) (c1 : w.cell? ⟨Q, 1, none⟩ = some v1) (c2 : w.cell? ⟨Q, 2, none⟩ = some v2) (l : Lf) :
    LfAt (((w.setCell ⟨Q, 0, none⟩ (.bool l.there)).setCell ⟨Q, 1, none⟩ (.bool l.wr)).setCell ⟨Q, 2, none⟩ (.int .i64 l.fr)) Q l := by
  have e1 : (w.setCell ⟨Q, 0, none⟩ (.bool l.there)).cell? ⟨Q, 1, none⟩ = some v1 := by rw [World.cell?_setCell_other _ _ _ _ (addr_ne (Or.inr (by omega)))]; exact c1
  have e2 : ((w.setCell ⟨Q, 0, none⟩ (.bool l.there)).setCell ⟨Q, 1, none⟩ (.bool l.wr)).cell? ⟨Q, 2, none⟩ = some v2 := by
    rw [World.cell?_setCell_other _ _ _ _ (addr_ne (Or.inr (by omega))), World.cell?_setCell_other _ _ _ _ (addr_ne (Or.inr (by omega)))]; exact c2
  refine ⟨?_, ?_, World.cell?_setCell_same _ _ _ e2⟩
  · rw [World.cell?_setCell_other _ _ _ _ (addr_ne (Or.inr (by omega))), World.cell?_setCell_other _ _ _ _ (addr_ne (Or.inr (by omega)))]
    exact World.cell?_setCell_same _ _ _ c0
  · rw [World.cell?_setCell_other _ _ _ _ (addr_ne (Or.inr (by omega)))]
    exact World.cell?_setCell_same _ _ _ e1
end Go.Proofs.Ytadpibcgjgcjhaa
