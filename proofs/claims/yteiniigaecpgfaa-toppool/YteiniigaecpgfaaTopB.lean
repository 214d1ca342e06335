/- The walk of undercrofttop.TopPool. -/
import Derived.Test.YteiniigaecpgfaaTopA
namespace Go.Proofs.Yteiniigaecpgfaa
open Go.ChangeShapes Go.WideShapes Go.ChangeAt Go.RowKit

theorem share_n (s : Pl) (f d : Int) : (s.share f d).2.n = s.n := by unfold Pl.share; split <;> rfl
theorem set_n (s : Pl) (f i v : Int) : (s.set f i v).2.n = s.n := by
  unfold Pl.set
  split
  · rfl
  · split
    · split <;> rfl
    · rfl
theorem get_ok (w : World) (bp bf : Nat) (f : Nat) (i : Int) (s : Pl) (h : PoolAt w bp bf s) (hu : s.used f = true) (h0 : 0 ≤ i) (h1 : i < 16) :
    Calls Try.prog 14 #[.pointer (some ⟨bp, 0, none⟩), .int .i64 f, .int .i64 i] w fun e w' => e = .returned (.tuple #[.int .u8 (s.byt f i.toNat), .nilIface]) ∧ w' = w := by
  have g := get_any w bp bf f i s h
  have e : s.get f i = (s.byt f i.toNat, 0) := by
    unfold Pl.get
    rw [if_neg (by omega), if_pos hu, Int.toNat_natCast]
  rw [e] at g
  simpa only [errV_zero] using g
theorem left_to (w : World) (bp bf m : Nat) (s : Pl) (h : PoolAt w bp bf s) (hm : s.n = m) :
    Calls Try.prog 24 #[.pointer (some ⟨bp, 0, none⟩)] w fun e w' => e = .returned (.int .i64 (freeTo s.refs m)) ∧ w' = w := by
  subst hm
  exact left_any w bp bf s h
theorem share_ok (w : World) (bp bf : Nat) (f : Int) (s : Pl) (h : PoolAt w bp bf s) (hm : ∀ k, k < s.n → s.refs k ≤ 1000000) (hu : s.used f = true) :
    Calls Try.prog 11 #[.pointer (some ⟨bp, 0, none⟩), .int .i64 f] w fun e w' => e = .returned .nilIface ∧ PoolAt w' bp bf { s with refs := setAt s.refs f.toNat (s.refs f.toNat + 1) } ∧ Upd (fun k => k = bf) w w' := by
  have g := share_any w bp bf f s h hm
  simpa only [Pl.share, hu, if_true, errV_zero] using g
theorem drop_ok (w : World) (bp bf : Nat) (f : Int) (s : Pl) (h : PoolAt w bp bf s) (hm : ∀ k, k < s.n → s.refs k ≤ 1000000) (hu : s.used f = true) :
    Calls Try.prog 13 #[.pointer (some ⟨bp, 0, none⟩), .int .i64 f] w fun e w' => e = .returned .nilIface ∧ PoolAt w' bp bf { s with refs := setAt s.refs f.toNat (s.refs f.toNat + -1) } ∧ Upd (fun k => k = bf) w w' := by
  have g := drop_any w bp bf f s h hm
  simpa only [Pl.share, hu, if_true, errV_zero] using g
theorem set_ok (w : World) (bp bf : Nat) (f i v : Int) (s : Pl) (h : PoolAt w bp bf s) (i0 : 0 ≤ i) (i1 : i ≤ 15) (hu : s.used f = true) (hr : s.refs f.toNat ≤ 1) :
    Calls Try.prog 16 #[.pointer (some ⟨bp, 0, none⟩), .int .i64 f, .int .i64 i, .int .u8 v] w fun e w' => e = .returned .nilIface ∧ PoolAt w' bp bf { s with byt := setAt s.byt f.toNat (setAt (s.byt f.toNat) i.toNat v) } ∧ Upd (fun k => k = bf) w w' := by
  have g := set_any w bp bf f i v s h
  have n1 : ¬ (i < 0 ∨ 15 < i) := by omega
  have n2 : ¬ 1 < s.refs f.toNat := by omega
  simpa only [Pl.set, hu, n1, n2, if_true, if_false, errV_zero] using g
theorem set_bad (w : World) (bp bf : Nat) (f i v : Int) (s : Pl) (h : PoolAt w bp bf s) (hb : ¬ (0 ≤ i ∧ i ≤ 15 ∧ s.used f = true ∧ s.refs f.toNat ≤ 1)) :
    Calls Try.prog 16 #[.pointer (some ⟨bp, 0, none⟩), .int .i64 f, .int .i64 i, .int .u8 v] w fun e w' => (∃ c, e = .returned (.iface 61 (.int .i64 c))) ∧ w' = w := by
  by_cases hi : i < 0 ∨ 15 < i
  · refine (set_bound w bp f i v hi).mono ?_
    rintro e w' ⟨rfl, rfl⟩
    exact ⟨⟨_, rfl⟩, rfl⟩
  · have i0 : 0 ≤ i := by omega
    have i1 : i ≤ 15 := by omega
    cases hu : s.used f with
    | false =>
      refine (set_none w bp bf f i v s h i0 i1 hu).mono ?_
      rintro e w' ⟨rfl, rfl⟩
      exact ⟨⟨_, rfl⟩, rfl⟩
    | true =>
      refine (set_held w bp bf f i v s h i0 i1 hu ?_).mono ?_
      · by_cases hr : s.refs f.toNat ≤ 1
        · exact absurd ⟨i0, i1, hu, hr⟩ hb
        · omega
      · rintro e w' ⟨rfl, rfl⟩
        exact ⟨⟨_, rfl⟩, rfl⟩
theorem take_ok (w : World) (bp bf j : Nat) (s : Pl) (h : PoolAt w bp bf s) (hj : j < s.n) (h0 : s.refs j = 0) (hr : ∀ i, i < j → s.refs i ≠ 0) :
    Calls Try.prog 9 #[.pointer (some ⟨bp, 0, none⟩)] w fun e w' => e = .returned (.tuple #[.int .i64 j, .nilIface]) ∧ PoolAt w' bp bf { s with refs := setAt s.refs j 1, byt := setAt s.byt j fun _ => 0 } ∧ Upd (fun k => k = bf) w w' := by
  refine (take_at w bp bf j s h hj h0 hr).mono ?_
  rintro e w' ⟨rfl, rfl⟩
  refine ⟨rfl, ?_, (Upd.row _ _ _ _).trans (Upd.one _ _ _ _) (fun _ _ e => e)⟩
  exact (h.setRow (f := j) hj (fun _ => 0)).setRef (f := j) hj (by omega)
theorem freeTo_zero (refs : Nat → Int) : ∀ m, (∀ i, i < m → refs i ≠ 0) → freeTo refs m = 0
  | 0, _ => rfl
  | m + 1, h => by
    simp only [freeTo]
    rw [freeTo_zero refs m (fun i hi => h i (by omega)), if_neg (h m (by omega))]
theorem setAt_le {refs : Nat → Int} {j : Nat} {v : Int} {n : Nat} {B : Int} (h : ∀ f, f < n → refs f ≤ B) (hv : v ≤ B) : ∀ f, f < n → setAt refs j v f ≤ B := by
  intro f hf
  by_cases e : f = j
  · subst e; simpa [setAt] using hv
  · simpa [setAt, e] using h f hf
theorem left_none (w : World) (bp bf : Nat) (s : Pl) (h : PoolAt w bp bf s) (hr : ∀ i, i < s.n → s.refs i ≠ 0) :
    Calls Try.prog 24 #[.pointer (some ⟨bp, 0, none⟩)] w fun e w' => e = .returned (.int .i64 0) ∧ w' = w := by
  have g := left_any w bp bf s h
  unfold Pl.left at g
  rw [freeTo_zero _ _ hr] at g
  exact g
theorem zeroRow_eq : (rowOf fun _ => 0).toArray = #[.int .u8 0, .int .u8 0, .int .u8 0, .int .u8 0, .int .u8 0, .int .u8 0, .int .u8 0, .int .u8 0, .int .u8 0, .int .u8 0, .int .u8 0, .int .u8 0, .int .u8 0, .int .u8 0, .int .u8 0, .int .u8 0] := rfl
theorem info32 : (Try.prog.info? 32).map (·.size) = some 16 := by kernel_rfl
theorem wpList_zeroRow {ops : Array Oper} {rest : List Oper} {op : Oper} {a : Act} {w : World} {Q : Exit → Act → World → Prop} (hgd : op.guard = none) (x y : Operand) (ho : op.op = .store 32 x y)
    (b o : Nat) (hx : a.eval x = .pointer (some ⟨b, o, none⟩)) (hy : a.eval y = .agg #[.int .u8 0, .int .u8 0, .int .u8 0, .int .u8 0, .int .u8 0, .int .u8 0, .int .u8 0, .int .u8 0, .int .u8 0, .int .u8 0, .int .u8 0, .int .u8 0, .int .u8 0, .int .u8 0, .int .u8 0, .int .u8 0])
    (ht : w.there b o 16) (h : wpList Try.prog ops Q rest (a.put op.dst undef) (w.setCells b o (rowOf fun _ => 0))) : wpList Try.prog ops Q (op :: rest) a w :=
  wpList_store_mid hgd 32 x y ho b o (rowOf fun _ => 0).toArray hx (by rw [zeroRow_eq]; exact hy) ht info32 (all_oneCell_toArray (rowOf_one _)) h
theorem take_n (s : Pl) : s.take.2.2.n = s.n := by unfold Pl.take; split <;> rfl

set_option maxRecDepth 100000 in
set_option maxHeartbeats 2000000 in
theorem top_walk (W : World) (n : Nat) (a : Option Addr) (len cap : Nat) (acts : Nat → Ac) (hn : 1 ≤ n) (hn2 : n ≤ 64) (hl : len ≤ 80) (hacts : ActsAt W a len acts) :
    Calls Try.prog 4 #[.int .i64 n, .slice a len cap] W fun e w' => e = .returned (.bool true) ∧ Upd (fun _ => False) W w' := by
  have z1 := zero33
  have z2 := zero34
  have HA : Hid _ := hacts
  clear hacts
  go_enter Try.func4, Try.ntmps4
  go_wp2_with fail
  refine (new_any _ n hn hn2).mono ?_
  rintro e w1 ⟨rfl, hp, hu, hz⟩
  go_wp2_with fail
  refine (light_yes _ _ _ _ hl).mono ?_
  rintro e w2 ⟨rfl, rfl⟩
  go_wp2_with fail
  go_loopg [9] len (fun g i w => ∃ k s, k + g = len ∧ i = .int .i64 (k : Nat) ∧ TopI W w n k s s)
  case atStart => exact ⟨0, pl0 n, by omega, rfl, TopI.start W w2 n hn2 hp hu hz⟩
  case round =>
    obtain ⟨k, s, hk, rfl, hI⟩ := hrel
    clear hp hu hz z1 z2
    have HK : Hid _ := hk
    by_cases hlt : k < len
    · clear hk
      obtain ⟨b, o, rfl, hx⟩ := HA.out k hlt
      clear HA
      generalize acts k = x at hx
      have hx' := hx.upd hI.upd (fun f => f)
      obtain ⟨x1, x2, x3, x4, x5, x6⟩ := hx'
      clear hx
      go_upto_block 2 with fail
      clear x1 x2 x3 x4 x5 x6
      have hB := BoxAt.new wr x
      have hJ := hI.keep ((Upd.refl _ _).alloc (.cells #[.string x.kind, .int .i64 x.n, .int .i64 x.a, .int .i64 x.b, .int .u8 x.v, .bool x.on] 38))
      have hq := hI.sz
      revert hB hJ hq
      generalize wr.alloc (.cells #[.string x.kind, .int .i64 x.n, .int .i64 x.a, .int .i64 x.b, .int .u8 x.v, .bool x.on] 38) = W1
      generalize wr.heap.size = q
      intro hB hJ hq
      clear hI
      go_cut [10] (fun s10 wc => ∃ s', TopI W wc n (k + 1) s' s')
      case first =>
        have hm : ∀ f, f < s.n → s.refs f ≤ 1000000 := fun f hf => by have := hJ.bd f (by rw [← hJ.sn]; exact hf); omega
        have hbd : ∀ f, f < n → s.refs f ≤ 1 + ((k + 1 : Nat) : Int) := fun f hf => by have := hJ.bd f hf; omega
        by_cases k1 : (x.kind.toList == [116, 97, 107, 101]) = true
        · have hs := firstFrom_spec s.refs s.n 0
          revert hs
          cases firstFrom s.refs 0 s.n with
          | none =>
            intro hs
            have HS : Hid _ := hs
            clear hs
            go_wp2_with fail
            refine (take_full _ _ _ s hJ.pool (fun i hi => HS.out i (by omega) (by omega))).mono ?_
            rintro e w3 ⟨rfl, rfl⟩
            go_wp2_with fail
            refine (left_none _ _ _ s hJ.pool (fun i hi => HS.out i (by omega) (by omega))).mono ?_
            rintro e w3 ⟨rfl, rfl⟩
            go_wp2_with fail
            go_roundg (len - (k + 1))
            case rel => exact ⟨k + 1, s, by omega, by go_num, hJ.more (by omega)⟩
            case measure => have := HK.out; omega
          | some j =>
            rintro ⟨_, h2, h3, h4⟩
            have hjn : j < n := by rw [← hJ.sn]; omega
            have jn : (j : Int) < 64 := by omega
            have b1 : (s.refs j != 0) = false := by simp [h3]
            have HS : Hid _ := h4
            have H3 : Hid _ := h3
            clear h4 h3
            go_wp2_with fail
            refine (take_ok _ _ _ j s hJ.pool (by omega) H3.out (fun i hi => HS.out i (by omega) hi)).mono ?_
            rintro e w3 ⟨rfl, hp3, hu3⟩
            have h5 : TopI W w3 n (k + 1) _ s := hJ.call hp3 hu3 hJ.sn (setAt_le hbd (by omega))
            have c1 := h5.refs j hjn
            have c2 := h5.fz8 j
            have h6 := h5.setRef hjn 1
            have h7 := h6.setRow hjn (fun _ => 0)
            have ht := h6.there hjn
            clear hp3 hu3 h5 h6
            go_wp2_with (refine wpList_zeroRow (by rfl) _ _ (by rfl) (W.heap.size + 2) (j * 16) (by rfl) (by rfl) ht ?_)
            go_meet
            case rel => exact ⟨_, h7⟩
        · have k1' : (x.kind.toList == [116, 97, 107, 101]) = false := by simpa using k1
          clear k1
          by_cases k2 : (x.kind.toList == [115, 104, 97, 114, 101]) = true
          · have c2 := hB.c2
            cases hu : s.used x.a with
            | false =>
              go_wp2_with fail
              refine (share_no _ _ _ _ s hJ.pool hu).mono ?_
              rintro e w3 ⟨rfl, rfl⟩
              go_wp2_with fail
              go_meet
              case rel => exact ⟨s, hJ.more (by omega)⟩
            | true =>
              obtain ⟨u0, u1, _⟩ := (s.used_iff x.a).1 hu
              have hfn : x.a.toNat < n := by have := hJ.sn; omega
              have i1 : x.a < 64 := by omega
              have hb0 := hJ.bd x.a.toNat hfn
              have hn0 := hJ.pool.nn x.a.toNat (by rw [hJ.sn]; exact hfn)
              go_wp2_with fail
              refine (share_ok _ _ _ _ s hJ.pool hm hu).mono ?_
              rintro e w3 ⟨rfl, hp3, hu3⟩
              have h5 : TopI W w3 n (k + 1) _ s := hJ.call hp3 hu3 hJ.sn (setAt_le hbd (by omega))
              have c3 := (hB.upd hu3 (by omega)).c2
              have c4 := h5.refs x.a.toNat hfn
              have c5 := h5.fz8 x.a.toNat
              have h6 := h5.setRef hfn (s.refs x.a.toNat + 1)
              clear hp3 hu3 h5
              go_wp2_with fail
              go_meet
              case rel => exact ⟨_, h6⟩
          · have k2' : (x.kind.toList == [115, 104, 97, 114, 101]) = false := by simpa using k2
            clear k2
            by_cases k3 : (x.kind.toList == [100, 114, 111, 112]) = true
            · have c2 := hB.c2
              cases hu : s.used x.a with
              | false =>
                go_wp2_with fail
                refine (drop_no _ _ _ _ s hJ.pool hu).mono ?_
                rintro e w3 ⟨rfl, rfl⟩
                go_wp2_with fail
                go_meet
                case rel => exact ⟨s, hJ.more (by omega)⟩
              | true =>
                obtain ⟨u0, u1, _⟩ := (s.used_iff x.a).1 hu
                have hfn : x.a.toNat < n := by have := hJ.sn; omega
                have i1 : x.a < 64 := by omega
                have hb0 := hJ.bd x.a.toNat hfn
                have hn0 := hJ.pool.nn x.a.toNat (by rw [hJ.sn]; exact hfn)
                go_wp2_with fail
                refine (drop_ok _ _ _ _ s hJ.pool hm hu).mono ?_
                rintro e w3 ⟨rfl, hp3, hu3⟩
                have h5 : TopI W w3 n (k + 1) _ s := hJ.call hp3 hu3 hJ.sn (setAt_le hbd (by omega))
                have c3 := (hB.upd hu3 (by omega)).c2
                have c4 := h5.refs x.a.toNat hfn
                have c5 := h5.fz8 x.a.toNat
                have h6 := h5.setRef hfn (s.refs x.a.toNat + -1)
                clear hp3 hu3 h5
                go_wp2_with fail
                go_meet
                case rel => exact ⟨_, h6⟩
            · have k3' : (x.kind.toList == [100, 114, 111, 112]) = false := by simpa using k3
              clear k3
              have c2 := hB.c2
              have c3 := hB.c3
              have c4 := hB.c4
              by_cases hb : 0 ≤ x.b ∧ x.b ≤ 15 ∧ s.used x.a = true ∧ s.refs x.a.toNat ≤ 1
              · obtain ⟨i0, i1, hu, hr⟩ := hb
                obtain ⟨u0, u1, u2⟩ := (s.used_iff x.a).1 hu
                have hfn : x.a.toNat < n := by have := hJ.sn; omega
                have i1 : x.a < 64 := by omega
                have i2 : x.b < 16 := by omega
                have hn0 := hJ.pool.nn x.a.toNat (by rw [hJ.sn]; exact hfn)
                have hr1 : (s.refs x.a.toNat != 1) = false := by simp; omega
                clear u2
                go_wp2_with fail
                refine (set_ok _ _ _ _ _ _ s hJ.pool i0 (by omega) hu hr).mono ?_
                rintro e w3 ⟨rfl, hp3, hu3⟩
                have h5 : TopI W w3 n (k + 1) _ s := hJ.call hp3 hu3 hJ.sn hbd
                have hB3 := hB.upd hu3 (by omega)
                have d2 := hB3.c2
                have d3 := hB3.c3
                have d4 := hB3.c4
                have d5 := h5.refs x.a.toNat hfn
                have d6 := h5.byt x.a.toNat x.b.toNat hfn (by omega)
                have d7 := h5.fz7 (x.a.toNat * 16 + x.b.toNat)
                have h6 := h5.setByte (i := x.b.toNat) hfn (by omega) x.v
                clear hp3 hu3 h5 hB3 c2 c3 c4
                go_wp2_with fail
                have ne : ∀ o1 o2 : Nat, (⟨W.heap.size + 2, o1, none⟩ : Addr) ≠ ⟨q, o2, none⟩ := fun _ _ => addr_ne (Or.inl (by omega))
                have e2 : (w3.setCell ⟨W.heap.size + 2, x.a.toNat * 16 + x.b.toNat, none⟩ (.int .u8 x.v)).cell? ⟨q, 2, none⟩ = some (.int .i64 x.a) := by rw [World.cell?_setCell_other _ _ _ _ (ne _ _)]; exact d2
                have e3 : (w3.setCell ⟨W.heap.size + 2, x.a.toNat * 16 + x.b.toNat, none⟩ (.int .u8 x.v)).cell? ⟨q, 3, none⟩ = some (.int .i64 x.b) := by rw [World.cell?_setCell_other _ _ _ _ (ne _ _)]; exact d3
                have e4 : (w3.setCell ⟨W.heap.size + 2, x.a.toNat * 16 + x.b.toNat, none⟩ (.int .u8 x.v)).cell? ⟨q, 4, none⟩ = some (.int .u8 x.v) := by rw [World.cell?_setCell_other _ _ _ _ (ne _ _)]; exact d4
                go_region_held3 (fun w' => w'.cell? ⟨q, 2, none⟩ = some (.int .i64 x.a) ∧ w'.cell? ⟨q, 3, none⟩ = some (.int .i64 x.b) ∧ w'.cell? ⟨q, 4, none⟩ = some (.int .u8 x.v)) (first | go_keep | (exact ⟨e2, e3, e4⟩)) (fail)
                go_wp2_with fail
                go_meet
                case rel => exact ⟨_, h6.keep (Upd.refl _ _).drew⟩
              · go_wp2_with fail
                refine (set_bad _ _ _ _ _ _ s hJ.pool hb).mono ?_
                rintro e w3 ⟨⟨c, rfl⟩, rfl⟩
                go_wp2_with fail
                go_meet
                case rel => exact ⟨s, hJ.more (by omega)⟩
      case rest =>
        obtain ⟨s', hT⟩ := hcut
        clear hB hJ hq W1 q
        go_wp2_with fail
        go_loopg [13, 14] n (fun g free f wi => ∃ j : Nat, j + g = n ∧ f = .int .i64 j ∧ free = .int .i64 (freeTo s'.refs j) ∧ TopI W wi n (k + 1) s' s')
        case atStart => exact ⟨0, by omega, rfl, rfl, hT⟩
        case round =>
          obtain ⟨j, hj, rfl, rfl, hI⟩ := hrel
          clear hT
          have HJ : Hid _ := hj
          clear hj
          by_cases hjn : j < n
          · go_wp2_with fail
            refine (of_yes _ _ _ j s' hI.pool (by rw [hI.sn]; exact hjn)).mono ?_
            rintro e w3 ⟨rfl, hu3⟩
            have h3 := hI.keep hu3
            clear hI hu3
            go_wp2_with fail
            have d1 : (w3.alloc (.cells #[.int .i64 (classOf (s'.refs j)), .int .i64 (s'.refs j)] 58)).cell? ⟨w3.heap.size, 1, none⟩ = some (.int .i64 (s'.refs j)) := by rw [World.cell?_alloc_new]; rfl
            have h4 := h3.keep ((Upd.refl _ _).alloc (.cells #[.int .i64 (classOf (s'.refs j)), .int .i64 (s'.refs j)] 58))
            clear h3
            revert d1 h4
            generalize w3.alloc (.cells #[.int .i64 (classOf (s'.refs j)), .int .i64 (s'.refs j)] 58) = W3
            generalize w3.heap.size = q3
            intro d1 h4
            have c1 := h4.refs j hjn
            have b1 : (s'.refs j != s'.refs j) = false := by simp
            have jn : (j : Int) < 64 := by omega
            go_quiet (fail)
            have h5 : TopI W (W3.drewN nq) n (k + 1) s' s' := h4.keep ((Upd.refl _ _).drewN nq)
            have c2 := h5.refs j hjn
            clear d1 h4 c1
            generalize W3.drewN nq = W5 at h5 c2
            have hle := freeTo_le s'.refs j
            have hs : freeTo s'.refs (j + 1) = freeTo s'.refs j + if s'.refs j = 0 then 1 else 0 := rfl
            by_cases hr : s'.refs j = 0
            · rw [if_pos hr] at hs
              have HS : Hid _ := hs
              have hr' : (s'.refs j == 0) = true := by simp [hr]
              clear hs hr
              go_wp2_with fail
              go_roundg (n - (j + 1))
              case rel => exact ⟨j + 1, by omega, by go_num, by rw [HS.out]; go_num, h5⟩
              case measure => have := HJ.out; omega
            · rw [if_neg hr] at hs
              have HS : Hid _ := hs
              have hr' : (s'.refs j == 0) = false := by simp [hr]
              have hu : s'.used j = true := by simp [Pl.used, hr, h5.sn]; omega
              have c3 := h5.byt j (k % 16) hjn (by omega)
              have k0 : 0 ≤ (k : Int) % 16 := by omega
              have k1 : (k : Int) % 16 < 16 := by omega
              have b2 : (s'.byt j (k % 16) != s'.byt j (k % 16)) = false := by simp
              clear hs hr
              go_wp2_with fail
              refine (get_ok _ _ _ j _ s' h5.pool hu k0 k1).mono ?_
              rintro e w6 ⟨rfl, rfl⟩
              go_wp2_with fail
              go_roundg (n - (j + 1))
              case rel => exact ⟨j + 1, by omega, by go_num, by rw [HS.out]; go_num, h5⟩
              case measure => have := HJ.out; omega
          · have e : j = n := by have := HJ.out; omega
            subst e
            have b3 : ((freeTo s'.refs j : Int) != (freeTo s'.refs j : Int)) = false := by simp
            go_wp2_with fail
            refine (left_to _ _ _ j s' hI.pool hI.sn).mono ?_
            rintro e w6 ⟨rfl, rfl⟩
            go_wp2_with fail
            go_roundg (len - (k + 1))
            case rel => exact ⟨k + 1, s', by omega, by go_num, hI⟩
            case measure => have := HK.out; omega
    · go_wp2_with fail
      go_ret
      exact ⟨rfl, hI.upd⟩

set_option maxRecDepth 100000 in
theorem top_out (W : World) (n : Int) (a : Option Addr) (len cap : Nat) (hn : n < 1 ∨ 64 < n) :
    Calls Try.prog 4 #[.int .i64 n, .slice a len cap] W fun e w' => e = .returned (.bool true) ∧ Upd (fun _ => False) W w' := by
  rcases hn with h | h
  · have hd : decide (n < 1) = true := by simp; omega
    go_enter Try.func4, Try.ntmps4
    go_wp2_with (go_at_call 7; refine (new_no _ _ (Or.inl h)).mono ?_; rintro e w' ⟨rfl, rfl⟩)
    go_ret
    exact ⟨rfl, Upd.refl _ _⟩
  · have hd : decide (n < 1) = false := by simp; omega
    have hd2 : decide (64 < n) = true := by simp; omega
    go_enter Try.func4, Try.ntmps4
    go_wp2_with (go_at_call 7; refine (new_no _ _ (Or.inr h)).mono ?_; rintro e w' ⟨rfl, rfl⟩)
    go_ret
    exact ⟨rfl, Upd.refl _ _⟩
set_option maxRecDepth 100000 in
theorem top_long (W : World) (n : Nat) (a : Option Addr) (len cap : Nat) (hn : 1 ≤ n) (hn2 : n ≤ 64) (hl : 80 < len) (hm : len ≤ maxLen) :
    Calls Try.prog 4 #[.int .i64 n, .slice a len cap] W fun e w' => e = .returned (.bool true) ∧ Upd (fun _ => False) W w' := by
  unfold maxLen at hm
  have hd : decide ((n : Int) < 1) = false := by simp; omega
  have hd2 : decide (64 < (n : Int)) = false := by simp; omega
  have hd3 : decide (80 < (len : Int)) = true := by simp; omega
  go_enter Try.func4, Try.ntmps4
  go_wp2_with fail
  refine (new_any _ n hn hn2).mono ?_
  rintro e w1 ⟨rfl, hp, hu, hz⟩
  go_wp2_with fail
  refine (light_no _ _ _ _ hl).mono ?_
  rintro e w2 ⟨rfl, rfl⟩
  go_wp2_with fail
  go_ret
  exact ⟨rfl, hu⟩
end Go.Proofs.Yteiniigaecpgfaa
