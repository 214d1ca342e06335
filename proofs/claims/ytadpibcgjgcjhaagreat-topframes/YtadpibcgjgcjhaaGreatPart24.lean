/- The law's sound: what a host tells of its frames is so. -/
import Derived.Test.YtadpibcgjgcjhaaGreatPart23
namespace Go.Proofs.YtadpibcgjgcjhaaGreat
open Go.ChangeShapes Go.WideShapes Go.ChangeAt Go.RowKit
set_option maxRecDepth 100000
attribute [local go_sem ↓] Go.wp_at_zero Go.wp_at_succ
variable {w w' w1 wr : World} {bh bp bf : Nat} {G : Nat → G3} {h : Hs} {W : Int} {t : Nat → Nat → Int} {F : Nat → Option Fl} {x : Gs}

theorem state_at {k m : Nat} (hm : HM w bh bp bf G h) (hi : HInv h W) (hx : h.g m = some x) (h4 : m < 4) (hk : k < 16) : Calls Tryz.prog 99 #[.pointer (some ⟨bh, 0, none⟩), .int .i64 (m : Int), .int .i64 (k : Int)] w (MRead w (.tuple #[.int .i64 (x.m.st k), .nilIface])) := by
  have := hState_any hm hi (m : Int) (k : Int)
  obtain ⟨h1, h2⟩ := hWho_some hx h4
  unfold hState stR at this
  rw [h1, if_neg (by omega), h2, if_pos ((onB_iff _).2 (by omega)), Int.toNat_natCast] at this
  simp only [errV_zero] at this
  exact this
theorem leaf_at {k m : Nat} (hm : HM w bh bp bf G h) (hi : HInv h W) (hx : h.g m = some x) (h4 : m < 4) (hk : k < 16) : Calls Tryz.prog 100 #[.pointer (some ⟨bh, 0, none⟩), .int .i64 (m : Int), .int .i64 (k : Int)] w (MRead w (.tuple #[.agg #[.bool (x.m.lf k).there, .bool (x.m.lf k).wr, .int .i64 (x.m.lf k).fr], .nilIface])) := by
  have := hLeaf_any hm hi (m : Int) (k : Int)
  obtain ⟨h1, h2⟩ := hWho_some hx h4
  unfold hLeaf lfR at this
  rw [h1, if_neg (by omega), h2, if_pos ((onB_iff _).2 (by omega)), Int.toNat_natCast] at this
  simp only [errV_zero] at this
  exact this
/-- The law's own array. -/
structure RfAt (w : World) (q : Nat) (a : Nat → Int) : Prop where
  c : ∀ f, f < 64 → w.cell? ⟨q, f, none⟩ = some (.int .i64 (a f))
  z : ∀ o, w.frozen? ⟨q, o, none⟩ = false
theorem RfAt.new (w : World) : RfAt (w.alloc (.cells zeroR 37)) w.heap.size (fun _ => 0) :=
  ⟨fun f hf => by rw [World.cell?_alloc_new, zeroR_get f hf], fun o => World.frozen?_alloc_new _ _ _ _⟩
theorem RfAt.lt {q : Nat} {a : Nat → Int} (r : RfAt w q a) : q < w.heap.size := World.block_lt_of_cell? w _ (r.c 0 (by omega))
theorem RfAt.upd {S : Nat → Prop} {q : Nat} {a : Nat → Int} (r : RfAt w q a) (u : Upd S w w') (hq : ¬ S q) : RfAt w' q a :=
  ⟨fun f hf => u.cell (r.c f hf) hq, fun o => by rw [World.frozen?_of_block (w := w) (u.block q r.lt hq)]; exact r.z o⟩
theorem RfAt.set {q : Nat} {a : Nat → Int} (r : RfAt w q a) {f : Nat} (hf : f < 64) (v : Int) : RfAt (w.setCell ⟨q, f, none⟩ (.int .i64 v)) q (setAt a f v) := by
  refine ⟨fun g hg => ?_, fun o => by rw [World.frozen?_setCell]; exact r.z o⟩
  by_cases e : g = f
  · subst e; rw [World.cell?_setCell_same _ _ _ (r.c g hg), setAt_same]
  · rw [World.cell?_setCell_other _ _ _ _ (addr_ne (Or.inr (by omega))), r.c g hg, setAt_other _ _ _ _ e]
/-- The law's state: what was laid at w1 stays, but for its array q. -/
structure SS (w1 wr : World) (q : Nat) (a : Nat → Int) : Prop where
  u : Upd (fun k => k = q) w1 wr
  r : RfAt wr q a
theorem SS.same {q : Nat} {a : Nat → Int} (s : SS w1 wr q a) (u : Upd (fun _ => False) wr w') : SS w1 w' q a := ⟨s.u.trans u (fun _ _ f => f.elim), s.r.upd u (fun f => f)⟩
theorem SS.set {q : Nat} {a : Nat → Int} (s : SS w1 wr q a) {f : Nat} (hf : f < 64) (v : Int) : SS w1 (wr.setCell ⟨q, f, none⟩ (.int .i64 v)) q (setAt a f v) := ⟨s.u.trans (Upd.one wr q f (.int .i64 v)) (fun _ _ e => e), s.r.set hf v⟩
theorem SS.congr {q : Nat} {a b : Nat → Int} (s : SS w1 wr q a) (e : ∀ f, f < 64 → a f = b f) : SS w1 wr q b := ⟨s.u, ⟨fun f hf => by rw [← e f hf]; exact s.r.c f hf, s.r.z⟩⟩
/-- What the array counts, up to a place. -/
def cA (h : Hs) (K : Nat) (f : Nat) : Int := (cntTo (rowL h) f K : Nat)
theorem cA_step {m k : Nat} (hx : h.g m = some x) (hk : k < 16) (f : Nat) : cA h (16 * m + (k + 1)) f = cA h (16 * m + k) f + if (x.m.lf k).there = true ∧ (x.m.lf k).fr = f then 1 else 0 := by
  unfold cA
  rw [← Nat.add_assoc, cntTo_succ, rowL_at hx hk]
  unfold inIn
  split <;> simp
theorem cnt_le (L : Nat → Lf) (f : Int) : ∀ K, cntTo L f K ≤ K
  | 0 => Nat.le_refl _
  | K + 1 => by
    have := cnt_le L f K
    rw [cntTo_succ]
    unfold inIn
    split <;> omega
theorem lf_three {w : World} {Q : Nat} {v0 v1 v2 : Value} (c0 : w.cell? ⟨Q, 0, none⟩ = some v0) (c1 : w.cell? ⟨Q, 1, none⟩ = some v1) (c2 : w.cell? ⟨Q, 2, none⟩ = some v2) (l : Lf) :
    LfAt (((w.setCell ⟨Q, 0, none⟩ (.bool l.there)).setCell ⟨Q, 1, none⟩ (.bool l.wr)).setCell ⟨Q, 2, none⟩ (.int .i64 l.fr)) Q l := by
  have e1 : (w.setCell ⟨Q, 0, none⟩ (.bool l.there)).cell? ⟨Q, 1, none⟩ = some v1 := by rw [World.cell?_setCell_other _ _ _ _ (addr_ne (Or.inr (by omega)))]; exact c1
  have e2 : ((w.setCell ⟨Q, 0, none⟩ (.bool l.there)).setCell ⟨Q, 1, none⟩ (.bool l.wr)).cell? ⟨Q, 2, none⟩ = some v2 := by
    rw [World.cell?_setCell_other _ _ _ _ (addr_ne (Or.inr (by omega))), World.cell?_setCell_other _ _ _ _ (addr_ne (Or.inr (by omega)))]; exact c2
  refine ⟨?_, ?_, World.cell?_setCell_same _ _ _ e2⟩
  · rw [World.cell?_setCell_other _ _ _ _ (addr_ne (Or.inr (by omega))), World.cell?_setCell_other _ _ _ _ (addr_ne (Or.inr (by omega)))]
    exact World.cell?_setCell_same _ _ _ c0
  · rw [World.cell?_setCell_other _ _ _ _ (addr_ne (Or.inr (by omega)))]
    exact World.cell?_setCell_same _ _ _ e1
set_option maxHeartbeats 4000000 in
theorem sound_any (m : HM w bh bp bf G h) (hf : HF h t F W) (h64 : h.s.n ≤ 64) : Calls Tryz.prog 34 #[.pointer (some ⟨bh, 0, none⟩), .int .i64 h.s.n] w (MRead w (.bool true)) := by
  have HMM : Hid (HM w bh bp bf G h) := m
  have HHF : Hid (HF h t F W) := hf
  have hzr := zero34
  have HR0 : Hid _ := RfAt.new w
  have HU0 : Hid (Upd (fun _ => False) w (w.alloc (.cells zeroR 37))) := (Upd.refl _ _).alloc _
  have hz0 : w.heap.size < (w.alloc (.cells zeroR 37)).heap.size := by simp
  have HGU : Hid _ := hGuests_any (m.same HU0.out)
  have HQ : Hid (∀ j, Own bh bp bf G h j → j < w.heap.size) := fun j hj => m.ownLt hj
  clear m hf
  go_enter Tryz.func34, Tryz.ntmps34
  go_wp2_with fail
  revert HR0 HU0 hz0 HGU HQ
  generalize w.alloc (.cells zeroR 37) = w0
  generalize hq0 : w.heap.size = q
  have HQ0 : Hid _ := hq0
  clear hq0
  intro HR0 HU0 hz0 HGU HQ
  refine Calls.mono HGU.out ?_
  rintro e w1 ⟨v, rfl, hsl, hu1⟩
  have hlen := hNums_len h 4
  obtain ⟨av, cap, rfl, hc⟩ := hsl.form
  have HC : Hid _ := hc
  have HS0 : Hid (SS w1 w1 q (fun _ => 0)) := ⟨Upd.refl _ _, HR0.out.upd hu1 (fun f => f)⟩
  have HM1 : Hid (∀ wr, Upd (fun k => k = q) w1 wr → HM wr bh bp bf G h) := fun wr u => (HMM.out.same (HU0.out.trans hu1 (fun _ _ f => f))).upd u (fun j hj e => by have := HQ.out j hj; omega)
  have HUW : Hid (Upd (fun _ => False) w w1) := HU0.out.trans hu1 (fun _ _ f => f)
  clear hsl hc hu1 HR0 HGU
  go_wp2_with fail
  go_loopg [6, 8] (hNums h 4).length (fun gk pv iv wr => ∃ m, m ≤ 4 ∧ (hNums h m).length + gk = (hNums h 4).length ∧ iv = .int .i64 ((hNums h m).length : Nat) ∧ pv = .int .i64 (pln (rowS h) (16 * m) : Nat) ∧ Hid (SS w1 wr q (cA h (16 * m))))
  case atStart => exact ⟨0, by omega, by simp [hNums], rfl, rfl, HS0.out⟩
  case round =>
    obtain ⟨m, hm4, hk, rfl, rfl, HS⟩ := hrel
    have HK : Hid _ := hk
    clear hk
    by_cases hlt : (hNums h m).length < (hNums h 4).length
    · obtain ⟨m', x, a1, a2, hx, hno, hget, hpre⟩ := nums_next h (4 - m) m (by omega) hlt
      obtain ⟨gb, rfl, g1, g2, hcl⟩ := HC.out _ hlt
      rw [hget] at hcl
      have HX : Hid (h.g m' = some x) := hx
      have HPR : Hid _ := hpre
      have hsk := cnt_skip (h := h) 0 m (m' - m) (fun j b1 b2 => hno j b1 (by omega))
      rw [show m + (m' - m) = m' by omega] at hsk
      have HSk : Hid (SS w1 wr q (cA h (16 * m'))) := HS.out.congr (fun f _ => by
        have := (cnt_skip (h := h) (f : Int) m (m' - m) (fun j b1 b2 => hno j b1 (by omega))).1
        rw [show m + (m' - m) = m' by omega] at this
        unfold cA
        rw [this])
      rw [← hsk.2]
      clear hx hno hget hpre hsk HS
      have m0 : (0 : Int) ≤ ((hNums h m).length : Int) := by omega
      have m1 : ((hNums h m).length : Int) < ((hNums h 4).length : Int) := by omega
      generalize hL4 : (hNums h 4).length = L4 at *
      generalize hLm : (hNums h m).length = Lm at *
      have HL4 : Hid _ := hL4
      have HLm : Hid _ := hLm
      clear hL4 hLm
      have nqg : gb ≠ q := by omega
      go_wp2_with fail
      go_loopg [6, 9] 16 (fun g pv kv wr => ∃ k : Nat, k + g = 16 ∧ kv = .int .i64 k ∧ pv = .int .i64 (pln (rowS h) (16 * m' + k) : Nat) ∧ Hid (SS w1 wr q (cA h (16 * m' + k))))
      case atStart => exact ⟨0, by omega, rfl, rfl, HSk.out⟩
      case round =>
        clear HSk
        obtain ⟨k, hk, rfl, rfl, HSk⟩ := hrel
        have HKk : Hid _ := hk
        clear hk
        by_cases hk16 : k < 16
        · have hcr := HSk.out.u.cell hcl nqg
          have HST : Hid _ := state_at (HM1.out wr HSk.out.u) HHF.out.hr.inv HX.out a2 hk16
          have hlo := HHF.out.leafOk h64 HX.out hk16
          have hpl := pln_le (rowS h) (16 * m' + k)
          have HPS : Hid (pln (rowS h) (16 * m' + (k + 1)) = pln (rowS h) (16 * m' + k) + if x.m.st k = 1 then 1 else 0) := show _ = _ by rw [← rowS_at HX.out hk16]; rfl
          have HCS : Hid _ := fun f => cA_step HX.out hk16 f
          go_wp2_with fail
          refine Calls.mono HST.out ?_
          rintro e w2 ⟨rfl, hu2⟩
          have HS2 : Hid (SS w1 w2 q (cA h (16 * m' + k))) := HSk.out.same hu2
          have hcr2 := hu2.cell hcr (fun f => f)
          have HLF : Hid _ := leaf_at (HM1.out w2 HS2.out.u) HHF.out.hr.inv HX.out a2 hk16
          clear hu2 hcr HST HSk
          revert HLF HPS HCS hlo
          generalize x.m.lf k = lk
          generalize x.m.st k = sk
          obtain ⟨lt, lw, lf⟩ := lk
          simp only
          intro hlo HPS HCS HLF
          obtain ⟨ho1, ho2, ho3, ho4⟩ := hlo
          generalize pln (rowS h) (16 * m' + k) = P at *
          go_wp2_with fail
          refine Calls.mono HLF.out ?_
          rintro e w3 ⟨rfl, hu3⟩
          obtain ⟨y0, y1, y2, z0, z1, z2⟩ := box0 w3 43
          have hu4 := hu3.alloc (.cells #[.bool lt, .bool lw, .int .i64 lf] 43)
          have HB : Hid (LfAt (w3.alloc (.cells #[.bool lt, .bool lw, .int .i64 lf] 43)) w3.heap.size ⟨lt, lw, lf⟩) := LfAt.new w3 43 ⟨lt, lw, lf⟩
          have HS4 : Hid (SS w1 (w3.alloc (.cells #[.bool lt, .bool lw, .int .i64 lf] 43)) q (cA h (16 * m' + k))) := HS2.out.same hu4
          clear hu3 hu4 hcr2 HLF HS2
          have d0 : decide (lf < 0) = false := by simp; omega
          have d1 : decide (63 < lf) = false := by simp; omega
          cases lt with
          | true =>
            obtain rfl : sk = 1 := ho1 rfl
            obtain ⟨f, rfl⟩ := Int.eq_ofNat_of_zero_le ho2
            have hf64 : f < 64 := by omega
            have cr := HS4.out.r.c f hf64
            have zr := HS4.out.r.z f
            have hcl := cnt_le (rowL h) (f : Int) (16 * m' + k)
            have HCA : Hid (cA h (16 * m' + k) f = ((cntTo (rowL h) f (16 * m' + k) : Nat) : Int)) := rfl
            have hw : IntKind.i64.wrap (cA h (16 * m' + k) f + 1) = cA h (16 * m' + k) f + 1 := by rw [IntKind.wrap_i64, HCA.out]; omega
            go_wp2_with fail
            go_roundg (16 - (k + 1))
            case rel =>
              refine ⟨k + 1, by omega, by go_num, by rw [HPS.out]; simp only [if_true]; go_num, (HS4.out.set hf64 (cA h (16 * m' + k) f + 1)).congr (fun g _ => ?_)⟩
              rw [HCS.out g]
              by_cases e : g = f
              · subst e; rw [setAt_same]; simp
              · rw [setAt_other _ _ _ _ e, if_neg (fun c => e (by omega))]; simp
            case measure => have := HKk.out; omega
          | false =>
            by_cases hs1 : sk = 1
            · have ds : (sk == 1) = true := by simp [hs1]
              have ds2 : (sk != 1) = false := by simp [hs1]
              have HSK : Hid _ := hs1
              clear hs1
              go_wp2_with fail
              go_roundg (16 - (k + 1))
              case rel => exact ⟨k + 1, by omega, by go_num, by rw [HPS.out, if_pos HSK.out]; go_num, HS4.out.congr (fun f _ => by rw [HCS.out f]; simp)⟩
              case measure => have := HKk.out; omega
            · have ds : (sk == 1) = false := by simp [hs1]
              have ds2 : (sk != 1) = true := by simp [hs1]
              go_wp2_with fail
              go_roundg (16 - (k + 1))
              case rel => exact ⟨k + 1, by omega, by go_num, by rw [HPS.out, if_neg hs1]; rfl, HS4.out.congr (fun f _ => by rw [HCS.out f]; simp)⟩
              case measure => have := HKk.out; omega
        · obtain rfl : k = 16 := by have := HKk.out; omega
          have HNX : Hid ((hNums h (m' + 1)).length = Lm + 1) := show _ = _ by rw [nums_some HX.out, HPR.out, List.length_append, HLm.out]; rfl
          go_wp2_with fail
          go_roundg (L4 - (Lm + 1))
          case rel => exact ⟨m' + 1, by omega, by rw [HNX.out]; omega, by rw [HNX.out]; go_num, by rw [show 16 * (m' + 1) = 16 * m' + 16 by omega], by rw [show 16 * (m' + 1) = 16 * m' + 16 by omega]; exact HSk.out⟩
          case measure => have := HK.out; omega
    · have hnn := nums_end h (4 - m) m (by omega) hlt
      have hsk := fun f => cnt_skip (h := h) f m (4 - m) (fun j b1 b2 => hnn j b1 (by omega))
      rw [show m + (4 - m) = 4 by omega] at hsk
      have HS64 : Hid (SS w1 wr q (cA h 64)) := HS.out.congr (fun f _ => by unfold cA; rw [← (hsk f).1])
      rw [← (hsk 0).2, show 16 * 4 = 64 by omega]
      have hcn : ∀ f, f < h.s.n → cA h 64 f = h.s.refs f := fun f hf => (HHF.out.hr.inv.cn.cnt f hf).symm
      have HCN : Hid _ := hcn
      have e1 : (hNums h m).length = (hNums h 4).length := by have := HK.out; omega
      rw [e1] at *
      clear hnn hsk hcn HS e1
      have hpl := pln_le (rowS h) 64
      go_wp2_with fail
      go_loopg [14, 15] h.s.n (fun g uv fv wr => ∃ f : Nat, f + g = h.s.n ∧ fv = .int .i64 f ∧ uv = .int .i64 (usedTo h.s.refs f : Nat) ∧ Hid (SS w1 wr q (cA h 64)))
      case atStart => exact ⟨0, by omega, rfl, rfl, HS64.out⟩
      case round =>
        clear HS64
        obtain ⟨f, hfk, rfl, rfl, HSf⟩ := hrel
        have HFK : Hid _ := hfk
        clear hfk
        by_cases hfl : f < h.s.n
        · have HFR : Hid _ := hFrame_any (HM1.out wr HSf.out.u) (f : Int)
          have hr0 : 0 ≤ h.s.refs f := by rw [← HCN.out f hfl]; unfold cA; omega
          have hof : h.s.of (f : Int) = (classOf (h.s.refs f), h.s.refs f, 0) := by unfold Pl.of; rw [if_pos ⟨by omega, by omega⟩, Int.toNat_natCast]
          rw [hof] at HFR
          simp only [errV_zero] at HFR
          have cr := HSf.out.r.c f (by omega)
          rw [HCN.out f hfl] at cr
          have HUS : Hid (usedTo h.s.refs (f + 1) = usedTo h.s.refs f + if 0 < h.s.refs f then 1 else 0) := rfl
          have hul : usedTo h.s.refs f ≤ f := by
            have : ∀ n, usedTo h.s.refs n ≤ n := fun n => by
              induction n with
              | zero => exact Nat.le_refl _
              | succ n ih => simp only [usedTo]; split <;> omega
            exact this f
          clear hof
          generalize h.s.refs f = r at *
          generalize usedTo h.s.refs f = U at *
          go_wp2_with fail
          refine Calls.mono HFR.out ?_
          rintro e w2 ⟨rfl, hu2⟩
          have y0 : (w2.alloc (.cells #[.int .i64 0, .int .i64 0] 122)).cell? ⟨w2.heap.size, 0, none⟩ = some (.int .i64 0) := by rw [World.cell?_alloc_new]; rfl
          have y1 : (w2.alloc (.cells #[.int .i64 0, .int .i64 0] 122)).cell? ⟨w2.heap.size, 1, none⟩ = some (.int .i64 0) := by rw [World.cell?_alloc_new]; rfl
          have z0 : (w2.alloc (.cells #[.int .i64 0, .int .i64 0] 122)).frozen? ⟨w2.heap.size, 0, none⟩ = false := World.frozen?_alloc_new _ _ _ _
          have z1 : (w2.alloc (.cells #[.int .i64 0, .int .i64 0] 122)).frozen? ⟨w2.heap.size, 1, none⟩ = false := World.frozen?_alloc_new _ _ _ _
          have hu3 := hu2.alloc (.cells #[.int .i64 (classOf r), .int .i64 r] 122)
          have HS3 : Hid (SS w1 (w2.alloc (.cells #[.int .i64 (classOf r), .int .i64 r] 122)) q (cA h 64)) := HSf.out.same hu3
          have cr3 := hu3.cell cr (fun f => f)
          have hqz := HSf.out.r.lt
          have hqz2 := hu2.size
          have e1 : (r != r) = false := by simp
          have hx0 : (w2.alloc (.cells #[.int .i64 (classOf r), .int .i64 r] 122)).cell? ⟨w2.heap.size, 0, none⟩ = some (.int .i64 (classOf r)) := by rw [World.cell?_alloc_new]; rfl
          have hx1 : (w2.alloc (.cells #[.int .i64 (classOf r), .int .i64 r] 122)).cell? ⟨w2.heap.size, 1, none⟩ = some (.int .i64 r) := by rw [World.cell?_alloc_new]; rfl
          have HX0 : Hid _ := hx0
          have HX1 : Hid _ := hx1
          have HC3 : Hid _ := cr3
          clear hu2 hu3 cr cr3 HFR HSf hx0 hx1
          go_wp2_with fail
          clear y0 y1 z0 z1
          revert HS3 HX0 HX1 HC3 hqz2
          generalize w2.alloc (.cells #[.int .i64 (classOf r), .int .i64 r] 122) = w3
          generalize w2.heap.size = q3
          intro HS3 hqz2 HX0 HX1 HC3
          have x0 := HX0.out
          have x1 := HX1.out
          have cr3 := HC3.out
          have f0 : (0 : Int) ≤ (f : Int) := by omega
          have f1 : (f : Int) < 64 := by omega
          have hr3 : r = 0 ∨ r = 1 ∨ 2 ≤ r := by omega
          rcases hr3 with rfl | rfl | hr2
          · have ec : classOf 0 = 0 := rfl
            rw [ec] at x0
            go_quiet (fail)
            go_wp2_with fail
            go_roundg (h.s.n - (f + 1))
            case rel => exact ⟨f + 1, by omega, by go_num, by rw [HUS.out, if_neg (by omega)]; rfl, HS3.out.same ((Upd.refl _ _).drewN nq)⟩
            case measure => have := HFK.out; omega
          · have ec : classOf 1 = 1 := rfl
            rw [ec] at x0
            go_quiet (fail)
            go_wp2_with fail
            go_roundg (h.s.n - (f + 1))
            case rel => exact ⟨f + 1, by omega, by go_num, by rw [HUS.out, if_pos (by omega)]; go_num, HS3.out.same ((Upd.refl _ _).drewN nq)⟩
            case measure => have := HFK.out; omega
          · have ec : classOf r = 2 := by unfold classOf; rw [if_neg (by omega), if_neg (by omega)]
            rw [ec] at x0
            have hr22 : r = 2 ∨ 2 < r := by omega
            rcases hr22 with rfl | hr4
            · go_quiet (fail)
              go_wp2_with fail
              go_roundg (h.s.n - (f + 1))
              case rel => exact ⟨f + 1, by omega, by go_num, by rw [HUS.out, if_pos (by omega)]; go_num, HS3.out.same ((Upd.refl _ _).drewN nq)⟩
              case measure => have := HFK.out; omega
            · have dm0 : decide (r < 2) = false := by simp; omega
              have dm1 : decide (2 < r) = true := by simp; omega
              have dm2 : decide (0 < r) = true := by simp; omega
              have dm3 : ¬ r < 2 := by omega
              have dm4 : min r 2 = 2 := by omega
              go_quiet (fail)
              go_wp2_with fail
              go_roundg (h.s.n - (f + 1))
              case rel => exact ⟨f + 1, by omega, by go_num, by rw [HUS.out, if_pos (by omega)]; go_num, HS3.out.same ((Upd.refl _ _).drewN nq)⟩
              case measure => have := HFK.out; omega
        · obtain rfl : f = h.s.n := by have := HFK.out; omega
          have HPR : Hid (∀ w1, HM w1 bh bp bf G h → Calls Tryz.prog 80 #[.pointer (some ⟨bh, 0, none⟩)] w1 (MRead w1 (.int .i64 (pln (rowS h) 64 : Nat)))) := fun w1 hm => hPromised_any hm HHF.out.hr.inv
          have HLE : Hid (∀ w1, HM w1 bh bp bf G h → Calls Tryz.prog 35 #[.pointer (some ⟨bh, 0, none⟩)] w1 (MRead w1 (.int .i64 h.s.left))) := fun w1 hm => hLeft_any hm
          have hul := HHF.out.used
          have hle := HHF.out.hr.le
          have hfree : usedTo h.s.refs h.s.n + h.s.left = h.s.n := taken_free h.s.refs h.s.n (fun g hg => by rw [← HCN.out g hg]; unfold cA; omega)
          have HPw : Hid _ := HPR.out wr (HM1.out wr HSf.out.u)
          have p1 : ∀ v : Int, (v != v) = false := fun v => by simp
          have HM1' : Hid _ := HM1.out
          generalize hP : pln (rowS h) 64 = P at *
          generalize hU : usedTo h.s.refs h.s.n = U at *
          generalize hL : h.s.left = Lf at *
          generalize hN : h.s.n = N at *
          have q1 : ((P : Int) != (P : Int)) = false := p1 _
          have q2 : decide ((N : Int) < (P : Int)) = false := by simp; omega
          have q3 : decide ((P : Int) < (U : Int)) = false := by simp; omega
          have q2n : decide (N < P) = false := by simp; omega
          have q3n : decide (P < U) = false := by simp; omega
          have q4 : IntKind.i64.wrap ((N : Int) - (U : Int)) = (N : Int) - (U : Int) := by rw [IntKind.wrap_i64]; omega
          have q5 : ((Lf : Int) != (N : Int) - (U : Int)) = false := by
            have : (Lf : Int) = (N : Int) - (U : Int) := by omega
            rw [this]; exact p1 _
          clear p1
          go_wp2_with fail
          refine Calls.mono HPw.out ?_
          rintro e w2 ⟨rfl, hu2⟩
          have HS2 : Hid (SS w1 w2 q (cA h 64)) := HSf.out.same hu2
          have HLw : Hid _ := HLE.out w2 (HM1.out w2 HS2.out.u)
          clear HPw HSf hu2
          go_wp2_with fail
          refine Calls.mono HLw.out ?_
          rintro e w3 ⟨rfl, hu3⟩
          have HS3 : Hid (SS w1 w3 q (cA h 64)) := HS2.out.same hu3
          clear HLw HS2 hu3
          go_wp2_with fail
          subst hP hU hL hN
          clear q1 q2 q3 q2n q3n q4 q5 HPR HLE hul hle hfree HM1'
          go_loopg [18] (hNums h 4).length (fun gk iv wr => ∃ m, m ≤ 4 ∧ (hNums h m).length + gk = (hNums h 4).length ∧ iv = .int .i64 ((hNums h m).length : Nat) ∧ Hid (SS w1 wr q (cA h 64)))
          case atStart => exact ⟨0, by omega, by simp [hNums], rfl, HS3.out⟩
          case round =>
            clear HS3
            obtain ⟨m, hm4, hk, rfl, HS⟩ := hrel
            have HK : Hid _ := hk
            clear hk
            by_cases hlt : (hNums h m).length < (hNums h 4).length
            · obtain ⟨m', x, a1, a2, hx, hno, hget, hpre⟩ := nums_next h (4 - m) m (by omega) hlt
              obtain ⟨gb, rfl, g1, g2, hcl⟩ := HC.out _ hlt
              rw [hget] at hcl
              have HX : Hid (h.g m' = some x) := hx
              have HPR : Hid _ := hpre
              have HNX : Hid ((hNums h (m' + 1)).length = (hNums h m).length + 1) := show _ = _ by rw [nums_some hx, hpre, List.length_append]; rfl
              have m0 : (0 : Int) ≤ ((hNums h m).length : Int) := by omega
              have m1 : ((hNums h m).length : Int) < ((hNums h 4).length : Int) := by omega
              have nqg : gb ≠ q := by omega
              clear hx hno hget hpre
              go_wp2_with fail
              go_loopg [19] 16 (fun g kv wr => ∃ k : Nat, k + g = 16 ∧ kv = .int .i64 k ∧ Hid (SS w1 wr q (cA h 64)))
              case atStart => exact ⟨0, by omega, rfl, HS.out⟩
              case round =>
                clear HS
                obtain ⟨k, hk, rfl, HSk⟩ := hrel
                have HKk : Hid _ := hk
                clear hk
                by_cases hk16 : k < 16
                · have hcr := HSk.out.u.cell hcl nqg
                  have HLF : Hid _ := leaf_at (HM1.out wr HSk.out.u) HHF.out.hr.inv HX.out a2 hk16
                  have hlo := HHF.out.leafOk h64 HX.out hk16
                  have hone : (x.m.lf k).wr = true → cA h 64 (x.m.lf k).fr.toNat = 1 := fun hw => by
                    have ht := hlo.2.2.2 hw
                    have hL := rowL_at HX.out hk16
                    have h1 := HHF.out.hr.ri.one (16 * m' + k) (by omega) (by rw [hL]; exact ht) (by rw [hL]; exact hw)
                    have h2 := HHF.out.hr.inv.cn.rng (16 * m' + k) (by omega) (by rw [hL]; exact ht)
                    rw [hL] at h1 h2
                    rw [HCN.out _ (by omega)]
                    exact h1
                  have HONE : Hid _ := hone
                  clear hone
                  revert HLF HONE hlo
                  generalize x.m.lf k = lk
                  obtain ⟨lt, lw, lf⟩ := lk
                  simp only
                  intro HLF hlo HONE
                  obtain ⟨ho1, ho2, ho3, ho4⟩ := hlo
                  clear ho1 ho4
                  go_wp2_with fail
                  refine Calls.mono HLF.out ?_
                  rintro e w2 ⟨rfl, hu2⟩
                  obtain ⟨y0, y1, y2, z0, z1, z2⟩ := box0 w2 43
                  have hu4 := hu2.alloc (.cells #[.bool lt, .bool lw, .int .i64 lf] 43)
                  have HS4 : Hid (SS w1 (w2.alloc (.cells #[.bool lt, .bool lw, .int .i64 lf] 43)) q (cA h 64)) := HSk.out.same hu4
                  clear hu2 hu4 hcr HLF HSk
                  cases lw with
                  | false =>
                    go_wp2_with fail
                    go_roundg (16 - (k + 1))
                    case rel => exact ⟨k + 1, by omega, by go_num, HS4.out⟩
                    case measure => have := HKk.out; omega
                  | true =>
                    obtain ⟨f, rfl⟩ := Int.eq_ofNat_of_zero_le ho2
                    have hf64 : f < 64 := by omega
                    have cr := HS4.out.r.c f hf64
                    have h1 := HONE.out rfl
                    rw [Int.toNat_natCast] at h1
                    rw [h1] at cr
                    clear h1 HONE
                    go_wp2_with fail
                    go_roundg (16 - (k + 1))
                    case rel => exact ⟨k + 1, by omega, by go_num, HS4.out⟩
                    case measure => have := HKk.out; omega
                · have hcr := HSk.out.u.cell hcl nqg
                  have HCA : Hid _ := hCached_yes (HM1.out wr HSk.out.u) HHF.out.hr.inv a2 HX.out
                  go_wp2_with fail
                  refine Calls.mono HCA.out ?_
                  rintro e w2 ⟨v, rfl, hs2, hu2⟩
                  obtain ⟨ca, ccap, rfl, hcc⟩ := hs2.form
                  have HCC : Hid _ := hcc
                  have hln : (shows x.m x.c).length ≤ 4 := by rw [shows_length]; exact (HHF.out.hr.inv.gi m' x HX.out).2.len
                  have dl : decide ((4 : Int) < ((shows x.m x.c).length : Int)) = false := by simp; omega
                  have HS2 : Hid (SS w1 w2 q (cA h 64)) := HSk.out.same hu2
                  have hcr2 := hu2.cell hcr (fun f => f)
                  clear hs2 hcc hcr HSk hu2 HCA
                  go_wp2_with fail
                  go_loopg [24] (shows x.m x.c).length (fun g kv wr => ∃ k : Nat, k + g = (shows x.m x.c).length ∧ kv = .int .i64 k ∧ Hid (SS w1 wr q (cA h 64)) ∧ Hid (Upd (fun _ => False) w2 wr))
                  case atStart => exact ⟨0, by omega, rfl, HS2.out, Upd.refl _ _⟩
                  case round =>
                    clear HS2
                    obtain ⟨ke, hke, rfl, HSe, HUe⟩ := hrel
                    have HKe : Hid _ := hke
                    clear hke
                    by_cases hkl : ke < (shows x.m x.c).length
                    · obtain ⟨ga, rfl, _, g3, hce⟩ := HCC.out ke hkl
                      have hkc : ke < x.c.length := by rw [shows_length] at hkl; exact hkl
                      rw [shows_at _ _ hkc] at hce
                      have hen := (HHF.out.hr.inv.gi m' x HX.out).2.en (atE x.c ke) (atE_mem hkc)
                      have hcr := HUe.out.cell hcr2 (fun f => f)
                      have e2 := HUe.out.cell (show w2.cell? ⟨ga, ke * 7 + 2, none⟩ = some (.int .i64 (atE x.c ke).dest) from hce 2 (by omega)) (fun f => f)
                      have e4 := HUe.out.cell (show w2.cell? ⟨ga, ke * 7 + 4, none⟩ = some (.bool (x.m.lf (atE x.c ke).dest.toNat).there) from hce 4 (by omega)) (fun f => f)
                      have e5 := HUe.out.cell (show w2.cell? ⟨ga, ke * 7 + 5, none⟩ = some (.bool (x.m.lf (atE x.c ke).dest.toNat).wr) from hce 5 (by omega)) (fun f => f)
                      have e6 := HUe.out.cell (show w2.cell? ⟨ga, ke * 7 + 6, none⟩ = some (.int .i64 (x.m.lf (atE x.c ke).dest.toNat).fr) from hce 6 (by omega)) (fun f => f)
                      generalize (atE x.c ke).dest = dd at *
                      obtain ⟨d, rfl⟩ := Int.eq_ofNat_of_zero_le hen.1
                      have UZ : Hid (Upd (fun _ => False) wr (wr.alloc (.cells #[.bool false, .bool false, .int .i64 0] 43)).drew) := ((Upd.refl (fun _ => False) wr).alloc (.cells #[.bool false, .bool false, .int .i64 0] 43)).drew
                      have hd16 : d < 16 := by omega
                      have HLd : Hid _ := leaf_at (HM1.out wr.drew HSe.out.u.drew) HHF.out.hr.inv HX.out a2 hd16
                      have HLa : Hid _ := leaf_at (HM1.out (wr.alloc (.cells #[.bool false, .bool false, .int .i64 0] 43)).drew (HSe.out.same UZ.out).u) HHF.out.hr.inv HX.out a2 hd16
                      rw [Int.toNat_natCast] at e4 e5 e6
                      generalize x.m.lf d = lk at *
                      obtain ⟨lt, lw, lf⟩ := lk
                      simp only at HLd HLa e4 e5 e6
                      have HE4 : Hid _ := e4
                      have HE5 : Hid _ := e5
                      have HE6 : Hid _ := e6
                      have ke0 : (0 : Int) ≤ (ke : Int) := by omega
                      have ke1 : (ke : Int) < ((shows x.m x.c).length : Int) := by omega
                      have lgb : gb < wr.heap.size := World.block_lt_of_cell? wr _ hcr
                      have lga : ga < wr.heap.size := World.block_lt_of_cell? wr _ e2
                      have sA : (wr.cell? ⟨gb, (hNums h m).length, none⟩ = some (.int .i64 (m' : Int)) ∧ wr.cell? ⟨ga, ke * 7 + 2, none⟩ = some (.int .i64 (d : Int))) := ⟨hcr, e2⟩
                      have sD : (wr.drew.cell? ⟨gb, (hNums h m).length, none⟩ = some (.int .i64 (m' : Int)) ∧ wr.drew.cell? ⟨ga, ke * 7 + 2, none⟩ = some (.int .i64 (d : Int))) := ⟨hcr, e2⟩
                      have sZ : ((wr.alloc (.cells #[.bool false, .bool false, .int .i64 0] 43)).drew.cell? ⟨gb, (hNums h m).length, none⟩ = some (.int .i64 (m' : Int)) ∧ (wr.alloc (.cells #[.bool false, .bool false, .int .i64 0] 43)).drew.cell? ⟨ga, ke * 7 + 2, none⟩ = some (.int .i64 (d : Int))) := ⟨UZ.out.cell hcr (fun f => f), UZ.out.cell e2 (fun f => f)⟩
                      have SAL : Hid (∀ (w5 : World) (o : Obj), (w5.cell? ⟨gb, (hNums h m).length, none⟩ = some (.int .i64 (m' : Int)) ∧ w5.cell? ⟨ga, ke * 7 + 2, none⟩ = some (.int .i64 (d : Int))) → ((w5.alloc o).cell? ⟨gb, (hNums h m).length, none⟩ = some (.int .i64 (m' : Int)) ∧ (w5.alloc o).cell? ⟨ga, ke * 7 + 2, none⟩ = some (.int .i64 (d : Int)))) := fun w5 o h => ⟨Upd.cell ((Upd.refl (fun _ => False) w5).alloc o) h.1 (fun f => f), Upd.cell ((Upd.refl (fun _ => False) w5).alloc o) h.2 (fun f => f)⟩
                      have NW : Hid (¬ gb = wr.heap.size ∧ ¬ ga = wr.heap.size) := ⟨by omega, by omega⟩
                      have SST : Hid (∀ (w5 : World) (v0 v1 v2 : Value), (w5.cell? ⟨gb, (hNums h m).length, none⟩ = some (.int .i64 (m' : Int)) ∧ w5.cell? ⟨ga, ke * 7 + 2, none⟩ = some (.int .i64 (d : Int))) → (((((w5).setCell ⟨wr.heap.size, 0, none⟩ v0).setCell ⟨wr.heap.size, 1, none⟩ v1).setCell ⟨wr.heap.size, 2, none⟩ v2).cell? ⟨gb, (hNums h m).length, none⟩ = some (.int .i64 (m' : Int)) ∧ ((((w5).setCell ⟨wr.heap.size, 0, none⟩ v0).setCell ⟨wr.heap.size, 1, none⟩ v1).setCell ⟨wr.heap.size, 2, none⟩ v2).cell? ⟨ga, ke * 7 + 2, none⟩ = some (.int .i64 (d : Int)))) := fun w5 v0 v1 v2 h => ⟨(Upd.row w5 wr.heap.size 0 [v0, v1, v2]).cell h.1 NW.out.1, (Upd.row w5 wr.heap.size 0 [v0, v1, v2]).cell h.2 NW.out.2⟩
                      have ZC0 : Hid ((wr.alloc (.cells #[.bool false, .bool false, .int .i64 0] 43)).drew.cell? ⟨wr.heap.size, 0, none⟩ = some (.bool false)) := (box0 wr 43).1
                      have ZC1 : Hid ((wr.alloc (.cells #[.bool false, .bool false, .int .i64 0] 43)).drew.cell? ⟨wr.heap.size, 1, none⟩ = some (.bool false)) := (box0 wr 43).2.1
                      have ZC2 : Hid ((wr.alloc (.cells #[.bool false, .bool false, .int .i64 0] 43)).drew.cell? ⟨wr.heap.size, 2, none⟩ = some (.int .i64 0)) := (box0 wr 43).2.2.1
                      have HZF : Hid (∀ o, (wr.alloc (.cells #[.bool false, .bool false, .int .i64 0] 43)).drew.frozen? ⟨wr.heap.size, o, none⟩ = false) := fun o => World.frozen?_alloc_new wr _ _ o
                      clear hce hen hkc e4 e5 e6 hcr e2 lgb lga
                      go_wp2_with fail
                      go_region_held3 (fun w' => (w'.cell? ⟨gb, (hNums h m).length, none⟩ = some (.int .i64 (m' : Int)) ∧ w'.cell? ⟨ga, ke * 7 + 2, none⟩ = some (.int .i64 (d : Int)))) (first | with_reducible exact h5c | with_reducible exact sA | with_reducible exact sD | with_reducible exact sZ | with_reducible exact SAL.out _ _ h5c | with_reducible exact SST.out _ _ _ _ h5c)
                        ((go_at_call 100; (first | (refine Calls.mono HLd.out ?_; rintro e w5 ⟨rfl, hu5⟩) | (refine Calls.mono HLa.out ?_; rintro e w5 ⟨rfl, hu5⟩; have bx0 : w5.cell? ⟨wr.heap.size, 0, none⟩ = some (.bool false) := hu5.cell (by with_reducible exact ZC0.out) (fun f => f); have bx1 : w5.cell? ⟨wr.heap.size, 1, none⟩ = some (.bool false) := hu5.cell (by with_reducible exact ZC1.out) (fun f => f); have bx2 : w5.cell? ⟨wr.heap.size, 2, none⟩ = some (.int .i64 0) := hu5.cell (by with_reducible exact ZC2.out) (fun f => f); have bz : ∀ o, w5.frozen? ⟨wr.heap.size, o, none⟩ = false := frozen_keep hu5 (World.block_lt_of_cell? _ _ ZC0.out) (fun f => f) HZF.out; have bz0 := bz 0; have bz1 := bz 1; have bz2 := bz 2)); have h5c : (w5.cell? ⟨gb, (hNums h m).length, none⟩ = some (.int .i64 (m' : Int)) ∧ w5.cell? ⟨ga, ke * 7 + 2, none⟩ = some (.int .i64 (d : Int))) := ⟨hu5.cell (by first | with_reducible exact sD.1 | with_reducible exact sZ.1) (fun f => f), hu5.cell (by first | with_reducible exact sD.2 | with_reducible exact sZ.2) (fun f => f)⟩))
                      all_goals (first
                        | (have hb0 := bx0
                           have uB := Upd.row w5 wr.heap.size 0 [.bool lt, .bool lw, .int .i64 lf]
                           have uW : Upd (fun _ => False) wr (((w5.setCell ⟨wr.heap.size, 0, none⟩ (.bool lt)).setCell ⟨wr.heap.size, 1, none⟩ (.bool lw)).setCell ⟨wr.heap.size, 2, none⟩ (.int .i64 lf)) := (UZ.out.trans hu5 (fun _ _ f => f)).trans uB (fun i hi e => by omega)
                           have HB : Hid (LfAt (((w5.setCell ⟨wr.heap.size, 0, none⟩ (.bool lt)).setCell ⟨wr.heap.size, 1, none⟩ (.bool lw)).setCell ⟨wr.heap.size, 2, none⟩ (.int .i64 lf)) wr.heap.size ⟨lt, lw, lf⟩) := lf_three bx0 bx1 bx2 ⟨lt, lw, lf⟩
                           have c4 := uW.cell HE4.out (fun f => f)
                           have c5 := uW.cell HE5.out (fun f => f)
                           have c6 := uW.cell HE6.out (fun f => f)
                           have HS4 : Hid _ := HSe.out.same uW
                           have HU4 : Hid _ := HUe.out.trans uW (fun _ _ f => f)
                           clear bx0 bx1 bx2 bz bz0 bz1 bz2 hb0 uB uW h5c sA sD sZ hu5 HLd HLa UZ HSe HUe SAL SST NW ZC0 ZC1 ZC2 HZF HE4 HE5 HE6
                           revert c4 c5 c6 HB HS4 HU4
                           generalize (((w5.setCell ⟨wr.heap.size, 0, none⟩ (.bool lt)).setCell ⟨wr.heap.size, 1, none⟩ (.bool lw)).setCell ⟨wr.heap.size, 2, none⟩ (.int .i64 lf)) = wx
                           generalize wr.heap.size = qx
                           intro HB c4 c5 c6 HS4 HU4)
                        | (have uW : Upd (fun _ => False) wr (w5.alloc (.cells #[.bool lt, .bool lw, .int .i64 lf] 43)) := ((Upd.refl (fun _ => False) wr).drew.trans hu5 (fun _ _ f => f)).alloc _
                           have HB : Hid (LfAt (w5.alloc (.cells #[.bool lt, .bool lw, .int .i64 lf] 43)) w5.heap.size ⟨lt, lw, lf⟩) := LfAt.new w5 43 ⟨lt, lw, lf⟩
                           have c4 := uW.cell HE4.out (fun f => f)
                           have c5 := uW.cell HE5.out (fun f => f)
                           have c6 := uW.cell HE6.out (fun f => f)
                           have HS4 : Hid _ := HSe.out.same uW
                           have HU4 : Hid _ := HUe.out.trans uW (fun _ _ f => f)
                           clear uW h5c sA sD sZ hu5 HLd HLa UZ HSe HUe SAL SST NW ZC0 ZC1 ZC2 HZF HE4 HE5 HE6
                           revert c4 c5 c6 HB HS4 HU4
                           generalize w5.alloc (.cells #[.bool lt, .bool lw, .int .i64 lf] 43) = wx
                           generalize w5.heap.size = qx
                           intro HB c4 c5 c6 HS4 HU4))
                      all_goals (
                        have x0 := HB.out.c0
                        have x1 := HB.out.c1
                        have x2 := HB.out.c2
                        simp only at x0 x1 x2
                        clear HB
                        go_wp2_with fail
                        go_quiet (fail)
                        go_wp2_with fail
                        go_roundg ((shows x.m x.c).length - (ke + 1))
                        case rel => exact ⟨ke + 1, by omega, by go_num, HS4.out.same ((Upd.refl _ _).drewN nq), HU4.out.drewN nq⟩
                        case measure => have := HKe.out; omega)
                    · obtain rfl : ke = (shows x.m x.c).length := by have := HKe.out; omega
                      go_wp2_with fail
                      go_roundg ((hNums h 4).length - ((hNums h m).length + 1))
                      case rel => exact ⟨m' + 1, by omega, by rw [HNX.out]; omega, by rw [HNX.out]; go_num, HSe.out⟩
                      case measure => have := HK.out; omega
            · go_wp2_with fail
              go_ret
              exact ⟨rfl, HUW.out.trans HS.out.u (fun i hi e => by have := HQ0.out; omega)⟩
end Go.Proofs.YtadpibcgjgcjhaaGreat
/- The walk of undercrofttop.TopFrames. -/
namespace Go.Proofs.YtadpibcgjgcjhaaGreat
open Go.ChangeShapes Go.WideShapes Go.ChangeAt Go.RowKit
set_option maxRecDepth 100000
attribute [local go_sem ↓] Go.wp_at_zero Go.wp_at_succ

/-- The host of TopFrames. -/
structure A1 (W w : World) (n k : Nat) (bh bp bf : Nat) : Prop where
  ex : ∃ G h F, HS W w n k bh bp bf G h F
  up : Upd (fun _ => False) W w
theorem HS.sound {W w : World} {n k bh bp bf : Nat} {G : Nat → G3} {h : Hs} {F : Nat → Option Fl} (s : HS W w n k bh bp bf G h F) (hn : n ≤ 64) : Calls Tryz.prog 34 #[.pointer (some ⟨bh, 0, none⟩), .int .i64 n] w (MRead w (.bool true)) := by
  obtain ⟨t, ht⟩ := s.hf
  have := sound_any s.m ht (by rw [s.n]; exact hn)
  rwa [s.n] at this
set_option maxHeartbeats 4000000 in
theorem frames_walk (W : World) (n : Nat) (a : Option Addr) (len cap : Nat) (acts : Nat → Ac) (hn : 1 ≤ n) (hn2 : n ≤ 64) (hl : len ≤ 100) (hacts : ActsAt W a len acts) (hvs : ∀ k, k < len → 0 ≤ (acts k).v ∧ (acts k).v ≤ 255) :
    Calls Tryz.prog 6 #[.int .i64 n, .slice a len cap] W fun e w' => e = .returned (.bool true) ∧ Upd (fun _ => False) W w' := by
  have HA : Hid _ := hacts
  have HV : Hid _ := hvs
  clear hacts hvs
  go_enter Tryz.func6, Tryz.ntmps6
  go_wp2_with fail
  refine (hNew_yes _ n hn hn2).mono ?_
  rintro e w1 ⟨bh, bp, bf, rfl, hm1, z1, z2, z3, hu1⟩
  have H0 : Hid (A1 W w1 n 0 bh bp bf) := ⟨⟨fun _ => ⟨0, 0, 0⟩, hs0 n, fun _ => none, HS.start hm1 (Upd.refl _ W) z1 z2 z3 _⟩, hu1⟩
  clear hm1 hu1 z1 z2 z3
  go_wp2_with fail
  refine (lightH_yes _ _ _ _ hl).mono ?_
  rintro e w3 ⟨rfl, rfl⟩
  go_wp2_with fail
  go_loopg [7] len (fun gk i w => ∃ k : Nat, k + gk = len ∧ i = .int .i64 k ∧ Hid (A1 W w n k bh bp bf))
  case atStart => exact ⟨0, by omega, rfl, H0.out⟩
  case round =>
    clear H0
    obtain ⟨k, hk, rfl, HI⟩ := hrel
    have HK : Hid _ := hk
    clear hk
    by_cases hlt : k < len
    · obtain ⟨b, o, rfl, hx⟩ := HA.out k hlt
      have hvk := HV.out k hlt
      clear HA HV
      generalize acts k = x at hx hvk
      have hx' := hx.upd HI.out.up (fun f => f)
      obtain ⟨x1, x2, x3, x4, x5, x6⟩ := hx'
      obtain ⟨G, h, F, hs1⟩ := HI.out.ex
      have HD1 : Hid _ := hs1.did (by omega) x hvk.1 hvk.2
      have HS1 : Hid (HS W wr n k bh bp bf G h F) := hs1
      have HUW : Hid _ := HI.out.up
      clear hs1 HI hx
      go_wp2_with fail
      clear x1 x2 x3 x4 x5 x6
      refine Calls.mono HD1.out ?_
      rintro e w4 ⟨rfl, hd4⟩
      have hu4 := hd4.2
      obtain ⟨G4, hs4, ho4⟩ := HS1.out.act HUW.out x hvk.1 hvk.2 hd4
      have HUW4 : Hid (Upd (fun _ => False) W w4) := HUW.out.trans hu4 (fun i hi e => by have := HS1.out.new i e; omega)
      have HS4 : Hid (HS W w4 n (k + 1) bh bp bf G4 (hDid h x).2 (fDid F n x).2) := hs4
      have HSD : Hid _ := hs4.sound hn2
      clear hd4 hu4 hs4 ho4 HD1 HS1 HUW
      go_wp2_with fail
      refine Calls.mono HSD.out ?_
      rintro e w5 ⟨rfl, hu5⟩
      have HI5 : Hid (A1 W w5 n (k + 1) bh bp bf) := ⟨⟨_, _, _, HS4.out.keep hu5 (fun _ _ f => f)⟩, HUW4.out.trans hu5 (fun _ _ f => f)⟩
      clear hu5 HSD
      go_wp2_with fail
      go_roundg (len - (k + 1))
      case rel => exact ⟨k + 1, by omega, by go_num, HI5.out⟩
      case measure => have := HK.out; omega
    · obtain ⟨G, h, F, hs1⟩ := HI.out.ex
      have HL : Hid _ := hLeft_any hs1.m
      have HUW : Hid _ := HI.out.up
      have dl : decide ((0 : Int) ≤ (h.s.left : Int)) = true := by simp
      clear hs1 HI
      go_wp2_with fail
      refine Calls.mono HL.out ?_
      rintro e w2 ⟨rfl, hu2⟩
      go_wp2_with fail
      go_ret
      exact ⟨rfl, HUW.out.trans hu2 (fun _ _ f => f)⟩
end Go.Proofs.YtadpibcgjgcjhaaGreat
