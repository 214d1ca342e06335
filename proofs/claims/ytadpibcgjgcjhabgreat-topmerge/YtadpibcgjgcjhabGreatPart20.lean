/- The walk of undercrofttop.TopMerge. -/
import Derived.Test.YtadpibcgjgcjhabGreatPart19
namespace Go.Proofs.YtadpibcgjgcjhabGreat
open Go.ChangeShapes Go.WideShapes Go.ChangeAt Go.RowKit
set_option maxRecDepth 100000
attribute [local go_sem ↓] Go.wp_at_zero Go.wp_at_succ
variable {w w' w1 wr : World} {bh bp bf : Nat} {G : Nat → G3} {h : Hs} {W : Int} {t : Nat → Nat → Int} {F : Nat → Option Fl} {x : Gs} {f : Fl}

theorem leafM_at {k m : Nat} (hm : HM w bh bp bf G h) (hi : HInv h W) (hx : h.g m = some x) (h4 : m < 4) (hk : k < 16) : Calls Tryz.prog 10 #[.pointer (some ⟨bh, 0, none⟩), .int .i64 (m : Int), .int .i64 (k : Int)] w (MRead w (.tuple #[.agg #[.bool (x.m.lf k).there, .bool (x.m.lf k).wr, .int .i64 (x.m.lf k).fr], .nilIface])) := by
  have := hLeaf_any hm hi (m : Int) (k : Int)
  obtain ⟨h1, h2⟩ := hWho_some hx h4
  unfold hLeaf lfR at this
  rw [h1, if_neg (by omega), h2, if_pos ((onB_iff _).2 (by omega)), Int.toNat_natCast] at this
  simp only [errV_zero] at this
  exact this
/-- The law's texts as they are made. -/
def zeroS : Array Value := (List.replicate 64 (Value.string ByteArray.empty)).toArray
theorem zeroS_get (f : Nat) (hf : f < 64) : zeroS[f]? = some (.string ByteArray.empty) := by
  unfold zeroS
  rw [List.getElem?_toArray, List.getElem?_replicate, if_pos hf]
theorem zeroTx (w : World) : (zeroValue 36).run Tryz.prog w = .ok (.agg zeroS) w := by kernel_rfl
theorem ArrS.new (w : World) : ArrS (w.alloc (.cells zeroS 36)) w.heap.size (fun _ => ByteArray.empty) :=
  ⟨fun f hf => by rw [World.cell?_alloc_new, zeroS_get f hf], fun o => World.frozen?_alloc_new _ _ _ _⟩
/-- The law's state: what was laid at w1 stays, but for its array q. -/
structure ST (w1 wr : World) (q : Nat) (S : Nat → ByteArray) : Prop where
  u : Upd (fun k => k = q) w1 wr
  r : ArrS wr q S
theorem ST.same {q : Nat} {S : Nat → ByteArray} (s : ST w1 wr q S) (u : Upd (fun _ => False) wr w') : ST w1 w' q S := ⟨s.u.trans u (fun _ _ f => f.elim), s.r.upd u (fun f => f)⟩
/-- The host of TopMerge. -/
structure MS (W w : World) (n k : Nat) (bh bp bf : Nat) : Prop where
  ex : ∃ G h F, HS W w n k bh bp bf G h F
  up : Upd (fun _ => False) W w
set_option maxHeartbeats 8000000 in
theorem merge_walk (W : World) (n : Nat) (a : Option Addr) (len cap : Nat) (acts : Nat → Ac) (hn : 1 ≤ n) (hn2 : n ≤ 64) (hl : len ≤ 100) (hacts : ActsAt W a len acts) (hvs : ∀ k, k < len → 0 ≤ (acts k).v ∧ (acts k).v ≤ 255) :
    Calls Tryz.prog 3 #[.int .i64 n, .slice a len cap] W fun e w' => e = .returned (.bool true) ∧ Upd (fun _ => False) W w' := by
  have HA : Hid _ := hacts
  have HV : Hid _ := hvs
  have hzt := zeroTx
  clear hacts hvs
  go_enter Tryz.func3, Tryz.ntmps3
  go_wp2_with fail
  refine (hNew_yes _ n hn hn2).mono ?_
  rintro e w1 ⟨bh, bp, bf, rfl, hm1, z1, z2, z3, hu1⟩
  have H0 : Hid (MS W w1 n 0 bh bp bf) := ⟨⟨fun _ => ⟨0, 0, 0⟩, hs0 n, fun _ => none, HS.start hm1 (Upd.refl _ W) z1 z2 z3 _⟩, hu1⟩
  clear hm1 hu1 z1 z2 z3
  go_wp2_with fail
  refine (lightH_yes _ _ _ _ hl).mono ?_
  rintro e w3 ⟨rfl, rfl⟩
  go_wp2_with fail
  go_loopg [7] len (fun gk i w => ∃ k : Nat, k + gk = len ∧ i = .int .i64 k ∧ Hid (MS W w n k bh bp bf))
  case atStart => exact ⟨0, by omega, rfl, H0.out⟩
  case round =>
    clear H0
    obtain ⟨k, hk, rfl, HI⟩ := hrel
    have HK : Hid _ := hk
    clear hk
    by_cases hlt : k < len
    · obtain ⟨b, o, rfl, hx⟩ := HA.out k hlt
      have hvk := HV.out k hlt
      clear HA HV
      generalize acts k = x at hx hvk
      have hx' := hx.upd HI.out.up (fun f => f)
      obtain ⟨x1, x2, x3, x4, x5, x6⟩ := hx'
      obtain ⟨G, h, F, hs1⟩ := HI.out.ex
      have HD1 : Hid _ := hs1.did (by omega) x hvk.1 hvk.2
      have HS1 : Hid (HS W wr n k bh bp bf G h F) := hs1
      have HUW : Hid _ := HI.out.up
      clear hs1 HI hx
      go_wp2_with fail
      clear x1 x2 x3 x4 x5 x6
      refine Calls.mono HD1.out ?_
      rintro e w4 ⟨rfl, hd4⟩
      have hu4 := hd4.2
      obtain ⟨G4, hs4, ho4⟩ := HS1.out.act HUW.out x hvk.1 hvk.2 hd4
      have HUW4 : Hid (Upd (fun _ => False) W w4) := HUW.out.trans hu4 (fun i hi e => by have := HS1.out.new i e; omega)
      have HS4 : Hid (HS W w4 n (k + 1) bh bp bf G4 (hDid h x).2 (fDid F n x).2) := hs4
      clear hd4 hu4 hs4 ho4 HD1 HS1 HUW
      go_wp2_with fail
      go_roundg (len - (k + 1))
      case rel => exact ⟨k + 1, by omega, by go_num, ⟨⟨_, _, _, HS4.out⟩, HUW4.out⟩⟩
      case measure => have := HK.out; omega
    · obtain rfl : k = len := by have := HK.out; omega
      obtain ⟨G, h, F, hs1⟩ := HI.out.ex
      obtain ⟨t, hf⟩ := hs1.hf
      have HLf : Hid _ := hLeft_any hs1.m
      have HM0 : Hid (HM wr bh bp bf G h) := hs1.m
      have HHF : Hid (HF h t F (k : Int)) := hf
      have HUW : Hid (Upd (fun _ => False) W wr) := HI.out.up
      have HNW : Hid (∀ j, Own bh bp bf G h j → W.heap.size ≤ j) := hs1.new
      have HSN : Hid (h.s.n = n) := hs1.n
      clear hs1 HI hf HA HV
      go_wp2_with fail
      refine Calls.mono HLf.out ?_
      rintro e w4 ⟨rfl, hu4⟩
      have HSC : Hid _ := hScanAll_m (HM0.out.same hu4) HHF.out
      have HU4 : Hid (Upd (fun _ => False) W w4) := HUW.out.trans hu4 (fun _ _ f => f)
      have hln : (h.s.left : Nat) ≤ h.s.n := freeTo_le _ _
      have hscs := HHF.out.scans 64 (Nat.le_refl _)
      have hslf := HHF.out.scans_left 64 (Nat.le_refl _)
      clear hu4 HLf
      go_wp2_with fail
      refine Calls.mono HSC.out ?_
      rintro e w5 ⟨rfl, hm5, hu5⟩
      obtain ⟨hf5, mg5, hn5, hg5, hrow5, hk0, hk1, hth5⟩ := hscs
      have HNW5 : Hid (∀ j, Own bh bp bf G (hScanTo h 64).2 j → W.heap.size ≤ j) := fun j hj => HNW.out j (own_of hg5 hj)
      have HU5 : Hid (Upd (fun _ => False) W w5) := HU4.out.trans hu5 (fun i hi e => by have := HNW.out i e; omega)
      have hag := hf5.scans_again mg5 64 (Nat.le_refl _)
      have hsn5 : (hScanTo h 64).2.s.n = n := hn5.trans HSN.out
      have hln5 : ((hScanTo h 64).2.s.left : Nat) ≤ (hScanTo h 64).2.s.n := freeTo_le _ _
      clear hu5 hg5 hrow5 hth5 HSC HM0 HHF HNW HUW HU4 hn5 HSN
      generalize hScanTo h 64 = r at *
      obtain ⟨r1, h5⟩ := r
      simp only at *
      have HM5 : Hid (HM w5 bh bp bf G h5) := hm5
      have HF5 : Hid (HF h5 t F (k : Int)) := hf5
      have HMG : Hid (Mg h5 t 64) := mg5
      have HL5 : Hid _ := hLeft_any hm5
      have d1 : decide (r1 < 0) = false := by simp; omega
      have d2 : decide ((h5.s.left : Int) < (h.s.left : Int)) = false := by simp; omega
      have d2n : decide (h5.s.left < h.s.left) = false := by simp; omega
      have HAG : Hid (hScanTo h5 64 = (0, h5)) := hag
      clear hm5 hf5 mg5 hag
      go_wp2_with fail
      refine Calls.mono HL5.out ?_
      rintro e w6 ⟨rfl, hu6⟩
      have HM6 : Hid (HM w6 bh bp bf G h5) := HM5.out.same hu6
      have HU6 : Hid (Upd (fun _ => False) W w6) := HU5.out.trans hu6 (fun _ _ f => f)
      have hsc2 := hScanAll_m HM6.out HF5.out
      rw [HAG.out] at hsc2
      simp only at hsc2
      have HSC2 : Hid _ := hsc2
      clear hu6 hsc2 HL5 HM5 HU5 HAG
      go_wp2_with fail
      refine Calls.mono HSC2.out ?_
      rintro e w7 ⟨rfl, hm7, hu7⟩
      have HU7 : Hid (Upd (fun _ => False) W w7) := HU6.out.trans hu7 (fun i hi e => by have := HNW5.out i e; omega)
      have HM7 : Hid (HM w7 bh bp bf G h5) := hm7
      have HGU : Hid _ := hGuests_any hm7
      clear hm7 hu7 HSC2 HM6 HU6 d1 d2 d2n
      go_wp2_with fail
      refine Calls.mono HGU.out ?_
      rintro e w8 ⟨v, rfl, hsl, hu8⟩
      have hlen := hNums_len h5 4
      obtain ⟨av, gcap, rfl, hc⟩ := hsl.form
      have uA := (Upd.refl (fun _ => False) w8).alloc (.cells zeroS 36)
      have HC : Hid (∀ i, i < (hNums h5 4).length → ∃ g, av = some ⟨g, 0, none⟩ ∧ g < w8.heap.size ∧ (w8.alloc (.cells zeroS 36)).cell? ⟨g, i, none⟩ = some (.int .i64 ((hNums h5 4).getD i 0 : Nat))) := fun i hi => by
        obtain ⟨g, e1, _, e3, e4⟩ := hc i hi
        exact ⟨g, e1, e3, uA.cell e4 (fun f => f)⟩
      have HS0 : Hid (ST (w8.alloc (.cells zeroS 36)) (w8.alloc (.cells zeroS 36)) w8.heap.size (fun _ => ByteArray.empty)) := ⟨Upd.refl _ _, ArrS.new w8⟩
      have HMR : Hid (∀ wr, Upd (fun k => k = w8.heap.size) (w8.alloc (.cells zeroS 36)) wr → HM wr bh bp bf G h5) := fun wr u => ((HM7.out.same hu8).same uA).upd u (fun j hj e => by have := HM7.out.ownLt hj; have := hu8.size; omega)
      have HUA : Hid (Upd (fun _ => False) W (w8.alloc (.cells zeroS 36))) := (HU7.out.trans hu8 (fun _ _ f => f)).trans uA (fun _ _ f => f)
      have HWZ : Hid (W.heap.size ≤ w8.heap.size) := (HU7.out.trans hu8 (fun _ _ f => f)).size
      clear hsl hc hu8 uA HGU HM7 HU7
      go_wp2_with fail
      revert HC HS0 HMR HUA HWZ
      generalize w8.alloc (.cells zeroS 36) = wA
      generalize w8.heap.size = qa
      intro HC HS0 HMR HUA HWZ
      clear hzt
      go_loopg [12] (hNums h5 4).length (fun gk iv wr => ∃ m, m ≤ 4 ∧ (hNums h5 m).length + gk = (hNums h5 4).length ∧ iv = .int .i64 ((hNums h5 m).length : Nat) ∧ Hid (ST wA wr qa (SA h5 (16 * m))))
      case atStart => exact ⟨0, by omega, by simp [hNums], rfl, HS0.out⟩
      case round =>
        clear HS0
        obtain ⟨m, hm4, hk, rfl, HS⟩ := hrel
        have HKo : Hid _ := hk
        clear hk
        by_cases hlt2 : (hNums h5 m).length < (hNums h5 4).length
        · obtain ⟨m', x, a1, a2, hx, hno, hget, hpre⟩ := nums_next h5 (4 - m) m (by omega) hlt2
          obtain ⟨gb, rfl, g2, hcl⟩ := HC.out _ hlt2
          rw [hget] at hcl
          have HX : Hid (h5.g m' = some x) := hx
          have hsk := SA_skip (h := h5) m (m' - m) (fun j b1 b2 => hno j b1 (by omega))
          rw [show m + (m' - m) = m' by omega] at hsk
          rw [← hsk] at HS
          have HNX : Hid ((hNums h5 (m' + 1)).length = (hNums h5 m).length + 1) := show _ = _ by rw [nums_some hx, hpre, List.length_append]; rfl
          have m0 : (0 : Int) ≤ ((hNums h5 m).length : Int) := by omega
          have m1 : ((hNums h5 m).length : Int) < ((hNums h5 4).length : Int) := by omega
          have nqg : gb ≠ qa := by omega
          clear hx hno hget hpre hsk
          generalize hL4 : (hNums h5 4).length = L4 at *
          generalize hLm : (hNums h5 m).length = Lm at *
          have HL4 : Hid _ := hL4
          have HLm : Hid _ := hLm
          clear hL4 hLm
          go_wp2_with fail
          go_loopg [13] 16 (fun g kv wr => ∃ j : Nat, j + g = 16 ∧ kv = .int .i64 j ∧ Hid (ST wA wr qa (SA h5 (16 * m' + j))))
          case atStart => exact ⟨0, by omega, rfl, HS.out⟩
          case round =>
            clear HS
            obtain ⟨j, hj, rfl, HSj⟩ := hrel
            have HKj : Hid _ := hj
            clear hj
            by_cases hj16 : j < 16
            · have hcr := HSj.out.u.cell hcl nqg
              have HLF : Hid _ := leafM_at (HMR.out wr HSj.out.u) HF5.out.hr.inv HX.out a2 hj16
              have hL := rowL_at HX.out hj16
              have HRL : Hid (rowL h5 (16 * m' + j) = x.m.lf j) := hL
              have hrg := HF5.out.hr.inv.cn.rng (16 * m' + j) (by omega)
              rw [hL] at hrg
              have HRG : Hid _ := hrg
              clear hrg hL
              cases hlt3 : (x.m.lf j).there with
              | false =>
                rw [hlt3] at HLF
                have HNS : Hid (SA h5 (16 * m' + (j + 1)) = SA h5 (16 * m' + j)) := show _ = _ by rw [← Nat.add_assoc]; exact SA_no (by rw [HRL.out]; exact hlt3)
                clear hlt3
                go_wp2_with fail
                refine Calls.mono HLF.out ?_
                rintro e w2 ⟨rfl, hu2⟩
                obtain ⟨y0, y1, y2, z0, z1, z2⟩ := box0 w2 38
                have hu4 := hu2.alloc (.cells #[.bool false, .bool (x.m.lf j).wr, .int .i64 (x.m.lf j).fr] 38)
                have HS4 : Hid _ := HSj.out.same hu4
                clear hu2 hu4 hcr HLF HSj
                go_wp2_with fail
                go_roundg (16 - (j + 1))
                case rel => exact ⟨j + 1, by omega, by go_num, by rw [HNS.out]; exact HS4.out⟩
                case measure => have := HKj.out; omega
              | true =>
                rw [hlt3] at HLF
                have hrg := HRG.out hlt3
                obtain ⟨fr, hfr⟩ := Int.eq_ofNat_of_zero_le hrg.1
                have hfr64 : fr < 64 := by omega
                rw [hfr] at HLF
                have HYS : Hid (SA h5 (16 * m' + (j + 1)) = setAt (SA h5 (16 * m' + j)) fr (strF h5.s fr)) := show _ = _ by rw [← Nat.add_assoc]; exact SA_yes (by rw [HRL.out]; exact hlt3) (by rw [HRL.out]; exact hfr)
                have HAK : Hid (∀ w2, Upd (fun k => k = qa) wA w2 → ArrS w2 qa (SA h5 (16 * m' + j)) → _) := fun w2 u r => alike_any (HMR.out w2 u) HF5.out (by omega) HX.out hj16 hlt3 hfr hfr64 r (SA_or h5 _ fr)
                clear hlt3 hrg hfr
                go_wp2_with fail
                refine Calls.mono HLF.out ?_
                rintro e w2 ⟨rfl, hu2⟩
                obtain ⟨y0, y1, y2, z0, z1, z2⟩ := box0 w2 38
                have hu4 := hu2.alloc (.cells #[.bool true, .bool (x.m.lf j).wr, .int .i64 (fr : Int)] 38)
                have HS4 : Hid (ST wA (w2.alloc (.cells #[.bool true, .bool (x.m.lf j).wr, .int .i64 (fr : Int)] 38)) qa (SA h5 (16 * m' + j))) := HSj.out.same hu4
                have hcr4 := hu4.cell hcr (fun f => f)
                have hqx : qa < w2.heap.size := (HSj.out.same hu2).r.lt
                have hB4 := LfAt.new w2 38 ⟨true, (x.m.lf j).wr, (fr : Int)⟩
                have HB4 : Hid (LfAt (w2.alloc (.cells #[.bool true, .bool (x.m.lf j).wr, .int .i64 (fr : Int)] 38)) w2.heap.size ⟨true, (x.m.lf j).wr, (fr : Int)⟩) := hB4
                have HCR4 : Hid _ := hcr4
                clear hu2 hu4 hcr HLF HSj hB4
                go_wp2_with fail
                clear y0 y1 y2 z0 z1 z2 hcr4
                revert HS4 hqx HB4 HCR4
                generalize w2.alloc (.cells #[.bool true, .bool (x.m.lf j).wr, .int .i64 (fr : Int)] 38) = w5
                generalize w2.heap.size = qx
                intro HS4 hqx HB4 HCR4
                have sA : w5.cell? ⟨gb, Lm, none⟩ = some (.int .i64 (m' : Int)) ∧ w5.cell? ⟨qx, 2, none⟩ = some (.int .i64 (fr : Int)) := ⟨HCR4.out, HB4.out.c2⟩
                have nqx : ¬ qx = qa := by omega
                have HAC : Hid _ := HAK.out w5.drew HS4.out.u.drew (HS4.out.r.upd (Upd.refl (fun _ => False) w5).drew (fun f => f))
                go_region_held3 (fun w' => w'.cell? ⟨gb, Lm, none⟩ = some (.int .i64 (m' : Int)) ∧ w'.cell? ⟨qx, 2, none⟩ = some (.int .i64 (fr : Int))) (first | exact sA | exact sC)
                  (first | (go_at_call 11; refine Calls.mono HAC.out ?_; rintro e w6 ⟨rfl, hr6, hu6⟩; have sC : w6.cell? ⟨gb, Lm, none⟩ = some (.int .i64 (m' : Int)) ∧ w6.cell? ⟨qx, 2, none⟩ = some (.int .i64 (fr : Int)) := ⟨hu6.cell (show w5.drew.cell? _ = _ from sA.1) nqg, hu6.cell (show w5.drew.cell? _ = _ from sA.2) nqx⟩))
                have HS6 : Hid (ST wA w6 qa (SA h5 (16 * m' + (j + 1)))) := by
                  rw [HYS.out]
                  exact ⟨HS4.out.u.drew.trans hu6 (fun _ _ e => e), hr6⟩
                clear hr6 hu6 sA sC HAC
                go_wp2_with fail
                go_roundg (16 - (j + 1))
                case rel => exact ⟨j + 1, by omega, by go_num, HS6.out⟩
                case measure => have := HKj.out; omega
            · obtain rfl : j = 16 := by have := HKj.out; omega
              go_wp2_with fail
              go_roundg (L4 - (Lm + 1))
              case rel => exact ⟨m' + 1, by omega, by rw [HNX.out]; omega, by rw [HNX.out]; go_num, by rw [show 16 * (m' + 1) = 16 * m' + 16 by omega]; exact HSj.out⟩
              case measure => have := HKo.out; omega
        · have hnn := nums_end h5 (4 - m) m (by omega) hlt2
          have hsk := SA_skip (h := h5) m (4 - m) (fun j b1 b2 => hnn j b1 (by omega))
          rw [show m + (4 - m) = 4 by omega] at hsk
          rw [← hsk] at HS
          clear hsk hnn
          go_wp2_with fail
          go_loopg [17] n (fun g fv wr => ∃ f : Nat, f + g = n ∧ fv = .int .i64 f ∧ Hid (ST wA wr qa (SA h5 64)))
          case atStart => exact ⟨0, by omega, rfl, HS.out⟩
          case round =>
            clear HS
            obtain ⟨f, hfn, rfl, HSf⟩ := hrel
            have HFN : Hid _ := hfn
            clear hfn
            by_cases hfl : f < n
            · go_wp2_with fail
              go_loopg [18] f (fun g gv wr => ∃ j : Nat, j + g = f ∧ gv = .int .i64 j ∧ Hid (ST wA wr qa (SA h5 64)))
              case atStart => exact ⟨0, by omega, rfl, HSf.out⟩
              case round =>
                clear HSf
                obtain ⟨j, hj, rfl, HSj⟩ := hrel
                have HKj : Hid _ := hj
                clear hj
                by_cases hjf : j < f
                · have cf := HSj.out.r.c f (by omega)
                  have cj := HSj.out.r.c j (by omega)
                  have f0 : (0 : Int) ≤ (f : Int) := by omega
                  have f1 : (f : Int) < 64 := by omega
                  have j0 : (0 : Int) ≤ (j : Int) := by omega
                  have j1 : (j : Int) < 64 := by omega
                  have hee : (SA h5 64 f).toList.isEmpty = true ∨ (SA h5 64 f).toList.isEmpty = false ∧ ((SA h5 64 f).toList == (SA h5 64 j).toList) = false := by
                    rcases SA_or h5 64 f with e | e
                    · exact Or.inl (by rw [e, ByteArray.toList_eq]; rfl)
                    · refine Or.inr ⟨by rw [e]; exact strF_full _ _, ?_⟩
                      have := SA_end HF5.out HMG.out (show f ≠ j by omega) (by rw [e]; exact strF_ne _ _)
                      exact beq_eq_false_iff_ne.2 (fun e2 => this (tl_inj e2))
                  generalize SA h5 64 f = sf at *
                  generalize SA h5 64 j = sj at *
                  rcases hee with h1 | ⟨h1, h2⟩
                  · go_wp2_with fail
                    go_quiet (fail)
                    go_wp2_with fail
                    go_roundg (f - (j + 1))
                    case rel => exact ⟨j + 1, by omega, by go_num, HSj.out.same ((Upd.refl _ _).drewN nq)⟩
                    case measure => have := HKj.out; omega
                  · go_wp2_with fail
                    go_quiet (fail)
                    go_wp2_with fail
                    go_roundg (f - (j + 1))
                    case rel => exact ⟨j + 1, by omega, by go_num, HSj.out.same ((Upd.refl _ _).drewN nq)⟩
                    case measure => have := HKj.out; omega
                · obtain rfl : j = f := by have := HKj.out; omega
                  go_wp2_with fail
                  go_roundg (n - (j + 1))
                  case rel => exact ⟨j + 1, by omega, by go_num, HSj.out⟩
                  case measure => have := HFN.out; omega
            · go_wp2_with fail
              go_ret
              exact ⟨rfl, HUA.out.trans HSf.out.u (fun i hi e => by have := HWZ.out; omega)⟩
end Go.Proofs.YtadpibcgjgcjhabGreat
