/- The law's hosts and asHost. -/
import Derived.Test.YtadpibcgjgcjhaaGreatPart26
import Derived.Test.YtadpibcgjgcjhaaGreatPart27
namespace Go.Proofs.YtadpibcgjgcjhaaGreat
open Go.ChangeShapes Go.WideShapes Go.ChangeAt Go.RowKit
set_option maxRecDepth 100000
attribute [local go_sem ↓] Go.wp_at_zero Go.wp_at_succ
variable {W w w1 w2 w' : World} {bh bp bf rh rm base : Nat} {G G' : Nat → G3} {bx : Nat → Nat} {v : Nat → Value} {h h' : Hs} {x : Gs} {n k : Nat} {F : Nat → Option Fl}

theorem state_q {k m : Nat} {W' : Int} (hm : HM w bh bp bf G h) (hi : HInv h W') (hx : h.g m = some x) (h4 : m < 4) (hk : k < 16) : Calls Tryz.prog 99 #[.pointer (some ⟨bh, 0, none⟩), .int .i64 (m : Int), .int .i64 (k : Int)] w (MRead w (.tuple #[.int .i64 (x.m.st k), .nilIface])) := by
  have := hState_any hm hi (m : Int) (k : Int)
  obtain ⟨h1, h2⟩ := hWho_some hx h4
  unfold hState stR at this
  rw [h1, if_neg (by omega), h2, if_pos ((onB_iff _).2 (by omega)), Int.toNat_natCast] at this
  simp only [errV_zero] at this
  exact this
theorem leaf_q {k m : Nat} {W' : Int} (hm : HM w bh bp bf G h) (hi : HInv h W') (hx : h.g m = some x) (h4 : m < 4) (hk : k < 16) : Calls Tryz.prog 100 #[.pointer (some ⟨bh, 0, none⟩), .int .i64 (m : Int), .int .i64 (k : Int)] w (MRead w (.tuple #[.agg #[.bool (x.m.lf k).there, .bool (x.m.lf k).wr, .int .i64 (x.m.lf k).fr], .nilIface])) := by
  have := hLeaf_any hm hi (m : Int) (k : Int)
  obtain ⟨h1, h2⟩ := hWho_some hx h4
  unfold hLeaf lfR at this
  rw [h1, if_neg (by omega), h2, if_pos ((onB_iff _).2 (by omega)), Int.toNat_natCast] at this
  simp only [errV_zero] at this
  exact this
set_option maxHeartbeats 4000000 in
theorem asHost_any (b : HB W w n k bh bp bf rh rm base G h F bx v) (hn64 : n ≤ 64) :
    Calls Tryz.prog 30 #[.pointer (some ⟨bh, 0, none⟩), .pointer (some ⟨rh, 0, none⟩)] w fun e w' => e = .returned (.bool true) ∧ Upd (fun _ => False) w w' := by
  have HB0 : Hid (∀ w1, Upd (fun _ => False) w w1 → HB W w1 n k bh bp bf rh rm base G h F bx v) := fun w1 u => b.same u
  have HIV : Hid (HInv h (k : Int)) := b.inv
  have HSN : Hid (h.s.n = n) := b.s.n
  clear b
  go_enter Tryz.func30, Tryz.ntmps30
  have c0 := (HB0.out w (Upd.refl _ _)).r.c0
  have hc : ∀ w1, Upd (fun _ => False) w w1 → w1.cell? ⟨rh, 0, none⟩ = some (.pointer (some ⟨rm, 0, none⟩)) := fun w1 u => (HB0.out w1 u).r.c0
  have HC0 : Hid _ := hc
  have hpl := pln_le (rowS h) 64
  have e1 : ((pln (rowS h) 64 : Int) != (pln (rowS h) 64 : Int)) = false := by simp
  have e2 : ((h.s.left : Int) != (h.s.left : Int)) = false := by simp
  have e3 : (pln (rowS h) 64 != pln (rowS h) 64) = false := by simp
  have e4 : (h.s.left != h.s.left) = false := by simp
  have ud := (Upd.refl (fun _ => False) w).drew
  have HUD : Hid (Upd (fun _ => False) w w.drew) := ud
  clear hc ud
  go_wp2_with fail
  go_region_held3 (fun w' => w'.cell? ⟨rh, 0, none⟩ = some (.pointer (some ⟨rm, 0, none⟩))) (first | exact c0 | exact s2 | exact s3 | exact s4 | exact s5 | exact s6 | exact s7)
    (first
      | (go_at_call 103; refine (hGuests_any (HB0.out _ HUD.out).s.m).mono ?_; rintro e w2 ⟨v2, rfl, hs2, hu2⟩; have U2 := HUD.out.trans hu2 (fun _ _ f => f); have s2 := HC0.out w2 U2)
      | (go_at_call 104; refine (rGuests_any (HB0.out _ U2).r).mono ?_; rintro e w3 ⟨v3, rfl, hs3, hu3⟩; have U3 := U2.trans hu3 (fun _ _ f => f); have s3 := HC0.out w3 U3)
      | (go_at_call 102; refine (sameN_any _ _ _ v2 v3 (hNums h 4) (SlN.upd hs2 hu3 (fun _ _ f => f)) hs3 (by have := hNums_len h 4; omega)).mono ?_; rintro e w4 ⟨rfl, hu4⟩; have U4 := U3.trans hu4 (fun _ _ f => f); have s4 := HC0.out w4 U4)
      | (go_at_call 80; refine (hPromised_any (HB0.out _ U4).s.m HIV.out).mono ?_; rintro e w5 ⟨rfl, hu5⟩; have U5 := U4.trans hu5 (fun _ _ f => f); have s5 := HC0.out w5 U5)
      | (go_at_call 105; refine (rPromised_any (HB0.out _ U5).r).mono ?_; rintro e w6 ⟨rfl, m6, hw6⟩; have U6 : Upd (fun _ => False) w w6 := (by rw [hw6]; exact U5.drewN m6); have s6 := HC0.out w6 U6; clear hw6)
      | (go_at_call 35; refine (hLeft_any (HB0.out _ U6).s.m).mono ?_; rintro e w7 ⟨rfl, hu7⟩; have U7 := U6.trans hu7 (fun _ _ f => f); have s7 := HC0.out w7 U7)
      | (go_at_call 72; refine (rLeft_any _ rm h.s (HB0.out _ U7).r.ref).mono ?_; rintro e w8 ⟨rfl, hw8⟩; subst hw8))
  have HU8 : Hid (Upd (fun _ => False) w w8) := U7
  clear hs2 hs3 hu2 hu3 hu4 hu5 hu7 U2 U3 U4 U5 U6 U7 s2 s3 s4 s5 s6 s7 c0 e1 e2 e3 e4 hpl
  go_wp2_with fail
  go_loopg [5] (n + 2) (fun g i wr => ∃ f : Int, f + g = n + 1 ∧ -1 ≤ f ∧ i = .int .i64 f ∧ Hid (Upd (fun _ => False) w wr))
  case atStart => exact ⟨-1, by omega, by omega, rfl, HU8.out⟩
  case round =>
    clear HU8
    obtain ⟨f, hf, hf1, rfl, HU⟩ := hrel
    have HFF : Hid _ := hf
    clear hf
    have c0 := HC0.out wr HU.out
    have cn := (HB0.out wr HU.out).r.ref.num
    rw [HSN.out] at cn
    by_cases hfn : f ≤ n
    · have dfn : decide (f ≤ (n : Int)) = true := by simp; exact hfn
      have o1 := of_code h.s f
      have HFR : Hid _ := hFrame_any (HB0.out wr HU.out).s.m f
      have HOF : Hid (∀ w4, Upd (fun _ => False) w w4 → _) := fun w4 u => rOf_any w4 rm f h.s (HB0.out w4 u).r.ref
      revert o1 HFR HOF
      generalize h.s.of f = o
      obtain ⟨c, r, oe⟩ := o
      simp only
      intro o1 HFR HOF
      go_wp2_with fail
      refine Calls.mono HFR.out ?_
      rintro e w2 ⟨rfl, hu2⟩
      have HU2 : Hid (Upd (fun _ => False) w w2) := HU.out.trans hu2 (fun _ _ f => f)
      have c02 := HC0.out w2 HU2.out
      have c03 := HC0.out _ (HU2.out.alloc (.cells #[.int .i64 c, .int .i64 r] 122))
      clear hu2 c0 cn HFR
      go_wp2_with fail
      have q1 := FrAt.new w2 c r
      have HU3 : Hid (Upd (fun _ => False) w (w2.alloc (.cells #[.int .i64 c, .int .i64 r] 122))) := HU2.out.alloc _
      have HQ1 : Hid _ := q1
      clear q1 c02 c03
      revert HQ1 HU3
      generalize w2.alloc (.cells #[.int .i64 c, .int .i64 r] 122) = w3
      generalize w2.heap.size = a1
      intro HU3 HQ1
      refine Calls.mono (HOF.out w3 HU3.out) ?_
      rintro e w4 ⟨rfl, hu4⟩
      have HU5 : Hid (Upd (fun _ => False) w (w4.alloc (.cells #[.int .i64 c, .int .i64 r] 122))) := (HU3.out.trans hu4 (fun _ _ f => f)).alloc _
      have q1' := HQ1.out.upd (hu4.alloc (.cells #[.int .i64 c, .int .i64 r] 122)) (fun f => f)
      have x0 := q1'.c0
      have x1 := q1'.c1
      have t1 : (c != c) = false := by simp
      have t2 : (r != r) = false := by simp
      clear hu4 HOF q1' HQ1 HU3
      go_wp2_with fail
      refine (sameE oe _ o1).mono ?_
      rintro e w7 ⟨rfl, rfl⟩
      clear x0 x1
      go_wp2_with fail
      go_roundg ((n : Int) + 1 - (f + 1)).toNat
      case rel => exact ⟨f + 1, by omega, by omega, by go_num, HU5.out⟩
      case measure => have := HFF.out; omega
    · have dfn : decide (f ≤ (n : Int)) = false := by simp; omega
      go_wp2_with fail
      go_loopg [10] 6 (fun g nv wr => ∃ i : Int, i + g = 5 ∧ -1 ≤ i ∧ nv = .int .i64 i ∧ Hid (Upd (fun _ => False) w wr))
      case atStart => exact ⟨-1, by omega, by omega, rfl, HU.out⟩
      case round =>
        clear HU c0 cn dfn
        obtain ⟨i, hi, hi1, rfl, HU⟩ := hrel
        have HII : Hid _ := hi
        clear hi
        by_cases hi5 : i < 5
        · have HWH : Hid _ := rWho_any (HB0.out wr HU.out).r i
          go_wp2_with fail
          refine Calls.mono HWH.out ?_
          rintro e w2 ⟨rfl, m2, hw2⟩
          have HU2 : Hid (Upd (fun _ => False) w w2) := by rw [hw2]; exact HU.out.drewN m2
          clear hw2 HWH
          by_cases hw0 : 0 < hWho h i
          · have hv : whoV h bx i = .pointer none := by unfold whoV; rw [if_pos hw0]
            have HCA : Hid _ := hCached_no (HB0.out w2 HU2.out).s.m i hw0
            rw [hv]
            have te : 0 ≤ hWho h i := by omega
            have HSE : Hid _ := fun w => sameE (hWho h i) w te
            rw [errV_no (by omega)] at HSE
            clear hv hw0
            go_wp2_with fail
            refine Calls.mono HCA.out ?_
            rintro e w3 ⟨rfl, hu3⟩
            have HU3 : Hid (Upd (fun _ => False) w w3) := HU2.out.trans hu3 (fun _ _ f => f)
            clear hu3 HCA
            go_wp2_with fail
            refine Calls.mono (HSE.out _) ?_
            rintro e w4 ⟨rfl, hw4⟩
            subst hw4
            go_wp2_with fail
            go_roundg (5 - (i + 1)).toNat
            case rel => exact ⟨i + 1, by omega, by omega, by go_num, HU3.out⟩
            case measure => have := HII.out; omega
          · obtain ⟨j, y, hjn, hj4, hxj, hat⟩ := hWho_zero (show hWho h i = 0 by have := hWho_le (h := h) i; omega)
            have hz : hWho h i = 0 := by have := hWho_le (h := h) i; omega
            subst hjn
            have hv : whoV h bx (j : Int) = .pointer (some ⟨bx j, 0, none⟩) := by unfold whoV; rw [if_neg hw0, Int.toNat_natCast]
            have HCA : Hid _ := hCached_yes (HB0.out w2 HU2.out).s.m HIV.out hj4 hxj
            have HXJ : Hid _ := hxj
            rw [hv, hz]
            clear hv hw0 hz hat hxj
            go_wp2_with fail
            refine Calls.mono HCA.out ?_
            rintro e w3 ⟨v3, rfl, hs3, hu3⟩
            have HU3 : Hid (Upd (fun _ => False) w w3) := HU2.out.trans hu3 (fun _ _ f => f)
            have HS3 : Hid (SlC w3 w2.heap.size v3 (shows y.m y.c)) := hs3
            have hok := (HIV.out.gi j y HXJ.out).2
            have HGC : Hid _ := gCached_any w3 (bx j) rm base (v j) y ((HB0.out w3 HU3.out).r.gu j y HXJ.out) hok.en hok.len
            have hlen : (shows y.m y.c).length ≤ 50 := by rw [shows_length]; have := hok.len; omega
            clear hs3 hu3 HCA hok
            go_wp2_with fail
            refine (same0 _).mono ?_
            rintro e w4 ⟨rfl, hw4⟩
            subst hw4
            go_wp2_with fail
            refine Calls.mono HGC.out ?_
            rintro e w5 ⟨v5, rfl, hs5, hu5⟩
            have HU5 : Hid (Upd (fun _ => False) w w5) := HU3.out.trans hu5 (fun _ _ f => f)
            have HSM : Hid _ := cSame_any w5 _ _ v3 v5 (shows y.m y.c) (SlC.upd HS3.out hu5 (fun _ _ f => f)) hs5 hlen
            clear hs5 hu5 HGC
            go_wp2_with fail
            refine Calls.mono HSM.out ?_
            rintro e w6 ⟨rfl, m6, hw6⟩
            have HU6 : Hid (Upd (fun _ => False) w w6) := by rw [hw6]; exact HU5.out.drewN m6
            clear hw6 HSM
            go_wp2_with fail
            go_loopg [15] 16 (fun g kv wr => ∃ k : Nat, k + g = 16 ∧ kv = .int .i64 k ∧ Hid (Upd (fun _ => False) w wr))
            case atStart => exact ⟨0, by omega, rfl, HU6.out⟩
            case round =>
              clear HU6 HU HU2 HU3 HS3
              obtain ⟨k, hk, rfl, HU⟩ := hrel
              have HKK : Hid _ := hk
              clear hk
              by_cases hk16 : k < 16
              · have HST : Hid _ := state_q (HB0.out wr HU.out).s.m HIV.out HXJ.out hj4 hk16
                go_wp2_with fail
                refine Calls.mono HST.out ?_
                rintro e w2 ⟨rfl, hu2⟩
                have HU2 : Hid (Upd (fun _ => False) w w2) := HU.out.trans hu2 (fun _ _ f => f)
                have HLF : Hid _ := leaf_q (HB0.out w2 HU2.out).s.m HIV.out HXJ.out hj4 hk16
                clear hu2 HST
                go_wp2_with fail
                refine Calls.mono HLF.out ?_
                rintro e w3 ⟨rfl, hu3⟩
                have HU4 : Hid (Upd (fun _ => False) w (w3.alloc (.cells #[.bool (y.m.lf k).there, .bool (y.m.lf k).wr, .int .i64 (y.m.lf k).fr] 43))) := (HU2.out.trans hu3 (fun _ _ f => f)).alloc _
                obtain ⟨y0, y1, y2, z0, z1, z2⟩ := box0 w3 43
                have HLX : Hid _ := LfAt.new w3 43 (y.m.lf k)
                clear hu3 HLF
                go_wp2_with fail
                clear y0 y1 y2 z0 z1 z2
                revert HU4 HLX
                generalize w3.alloc (.cells #[.bool (y.m.lf k).there, .bool (y.m.lf k).wr, .int .i64 (y.m.lf k).fr] 43) = w6
                generalize w3.heap.size = qx
                intro HU4 HLX
                have f0 := HLX.out.c0
                have f1 := HLX.out.c1
                have f2 := HLX.out.c2
                have hm6 := ((HB0.out w6 HU4.out).r.gu j y HXJ.out).mp
                have m1 := hm6.st k hk16
                have m2 := hm6.th k hk16
                have m3 := hm6.wr k hk16
                have m4 := hm6.fr k hk16
                simp only at m1 m2 m3 m4
                have p0 : (0 : Int) ≤ (k : Int) := by omega
                have p1 : (k : Int) < 16 := by omega
                clear hm6

                go_quiet (fail)
                go_wp2_with fail
                go_roundg (16 - (k + 1))
                case rel => exact ⟨k + 1, by omega, by go_num, HU4.out.drewN nq⟩
                case measure => have := HKK.out; omega
              · go_wp2_with fail
                go_roundg (5 - ((j : Int) + 1)).toNat
                case rel => exact ⟨(j : Int) + 1, by omega, by omega, by go_num, HU.out⟩
                case measure => have := HII.out; omega
        · go_wp2_with fail
          go_ret
          exact ⟨rfl, HU.out⟩
end Go.Proofs.YtadpibcgjgcjhaaGreat
/- The law's hosts: a closed fact. -/
namespace Go.Proofs.YtadpibcgjgcjhaaGreat
open Go.ChangeShapes Go.WideShapes Go.ChangeAt Go.RowKit
set_option maxRecDepth 100000
attribute [local go_sem ↓] Go.wp_at_zero Go.wp_at_succ

theorem hs1 : (hAdd (hs0 8)).1 = (0, 0) := by kernel_rfl
theorem hs2 : (hPlug (hAdd (hs0 8)).2 0 1).1 = 0 := by kernel_rfl
theorem hs3 : pln (rowS (hPlug (hAdd (hs0 8)).2 0 1).2) 64 = 4 := by kernel_rfl
theorem hs4 : (hStore (hPlug (hAdd (hs0 8)).2 0 1).2 0 65 9).1 = 0 := by kernel_rfl
theorem hs5 : (hStore (hPlug (hAdd (hs0 8)).2 0 1).2 0 65 9).2.s.left = 7 := by kernel_rfl
set_option maxHeartbeats 4000000 in
theorem hosts_any (w : World) : Calls Tryz.prog 21 #[] w fun e w' => e = .returned (.bool true) ∧ Upd (fun _ => False) w w' := by
  have hf1 := ((HF.start 8).hadd (Int.le_refl _)).1
  obtain ⟨t2, hf2, hx2⟩ := hf1.plug 0 1
  have HF1 : Hid _ := hf1
  have HF2 : Hid _ := hf2
  clear hf1 hf2 hx2
  go_enter Tryz.func21, Tryz.ntmps21
  go_wp2_with fail
  refine (hNew_yes _ 8 (by omega) (by omega)).mono ?_
  rintro e w1 ⟨bh, bp, bf, rfl, hm1, z1, z2, z3, hu1⟩
  have HAD : Hid _ := hAdd_m (hm1 fun _ => ⟨0, 0, 0⟩)
  have HU1 : Hid _ := hu1
  have HO1 : Hid (∀ j, Own bh bp bf (fun _ => ⟨0, 0, 0⟩) (hs0 8) j → w.heap.size ≤ j) := fun j hj => by
    rcases hj with e | e | e | ⟨i, x, hx, _⟩
    · omega
    · omega
    · omega
    · cases hx
  clear hm1 z1 z2 z3 hu1
  go_wp2_with fail
  refine Calls.mono HAD.out ?_
  rintro e w2 ⟨rfl, ⟨G2, hm2, ho2⟩, hu2⟩
  have HU2 : Hid (Upd (fun _ => False) w w2) := HU1.out.trans hu2 (fun i hi e => by have := HO1.out i e; omega)
  have HO2 : Hid (∀ j, Own bh bp bf G2 (hAdd (hs0 8)).2 j → w.heap.size ≤ j) := fun j hj => by
    have := HU1.out.size
    rcases ho2 j hj with e | e
    · exact HO1.out j e
    · omega
  have hpl := hPlug_m hm2 HF1.out.hr.inv HF1.out.blk 0 1
  unfold MPost at hpl
  rw [hs2] at hpl
  simp only [errV_zero] at hpl
  have HPL : Hid _ := hpl
  rw [hs1]
  simp only [errV_zero]
  clear hm2 ho2 hu2 HAD hpl
  go_wp2_with fail
  refine (same0 _).mono ?_
  rintro e w3 ⟨rfl, hw3⟩
  subst hw3
  go_wp2_with fail
  refine Calls.mono HPL.out ?_
  rintro e w4 ⟨rfl, hm4, hu4⟩
  have HU4 : Hid (Upd (fun _ => False) w w4) := HU2.out.trans hu4 (fun i hi e => by have := HO2.out i e; omega)
  have HPR : Hid _ := hPromised_any hm4 HF2.out.hr.inv
  rw [hs3] at HPR
  have HM4 : Hid _ := hm4
  have HO4 : Hid (∀ j, Own bh bp bf G2 (hPlug (hAdd (hs0 8)).2 0 1).2 j → w.heap.size ≤ j) := fun j hj => HO2.out j (own_plug hj)
  clear hm4 hu4 HPL
  go_wp2_with fail
  refine Calls.mono HPR.out ?_
  rintro e w5 ⟨rfl, hu5⟩
  have HU5 : Hid (Upd (fun _ => False) w w5) := HU4.out.trans hu5 (fun _ _ f => f)
  have hst := hStore_m (HM4.out.same hu5) HF2.out.hr.inv 0 65 9 (by omega) (by omega) (by omega)
  unfold MPost at hst
  rw [hs4] at hst
  simp only [errV_zero] at hst
  have HST : Hid _ := hst
  clear hst hu5 HPR
  go_wp2_with fail
  refine Calls.mono HST.out ?_
  rintro e w6 ⟨rfl, hm6, hu6⟩
  have HU6 : Hid (Upd (fun _ => False) w w6) := HU5.out.trans hu6 (fun i hi e => by have := HO4.out i e; omega)
  have HLE : Hid _ := hLeft_any hm6
  rw [hs5] at HLE
  clear hm6 hu6 HST
  go_wp2_with fail
  refine Calls.mono HLE.out ?_
  rintro e w7 ⟨rfl, hu7⟩
  have HU7 : Hid (Upd (fun _ => False) w w7) := HU6.out.trans hu7 (fun _ _ f => f)
  clear hu7 HLE
  go_wp2_with fail
  go_ret
  exact ⟨rfl, HU7.out⟩
end Go.Proofs.YtadpibcgjgcjhaaGreat
/- HostSays: a host is copied; the walk. -/
namespace Go.Proofs.YtadpibcgjgcjhaaGreat
open Go.ChangeShapes Go.WideShapes Go.ChangeAt Go.RowKit
set_option maxRecDepth 100000
attribute [local go_sem ↓] Go.wp_at_zero Go.wp_at_succ
variable {W w w1 w2 w' : World} {bh bp bf rh rm base : Nat} {G G' : Nat → G3} {bx : Nat → Nat} {v : Nat → Value} {h h' : Hs} {x : Gs} {n k : Nat} {F : Nat → Option Fl}

/-- A host that is no longer asked. -/
structure Old (w1 w : World) (bh bp bf : Nat) (G0 : Nat → G3) (h0 : Hs) (G : Nat → G3) (h : Hs) (W' : Int) : Prop where
  m : HM w bh bp bf G h
  hf : ∃ t F, HF h t F W'
  u : Upd (Own bh bp bf G0 h0) w1 w
  o : ∀ j, Own bh bp bf G h j → Own bh bp bf G0 h0 j ∨ w1.heap.size ≤ j
theorem Old.next {W' : Int} {h0 h2 : Hs} {G0 G2 : Nat → G3} (a : Old w1 w bh bp bf G0 h0 G h W') (hm : HM w' bh bp bf G2 h2) (hf : ∃ t F, HF h2 t F (W' + 1)) (ho : ∀ j, Own bh bp bf G2 h2 j → Own bh bp bf G h j ∨ w.heap.size ≤ j) (u : Upd (Own bh bp bf G h) w w') : Old w1 w' bh bp bf G0 h0 G2 h2 (W' + 1) := by
  refine ⟨hm, hf, a.u.trans u (fun i hi e => ?_), fun j hj => ?_⟩
  · rcases a.o i e with h | h
    · exact h
    · omega
  · have := a.u.size
    rcases ho j hj with e | e
    · exact a.o j e
    · exact Or.inr (by omega)
theorem HF.any {t : Nat → Nat → Int} {W' : Int} (hf : HF h t F W') (hW : 0 ≤ W') (y : Ac) (v0 : 0 ≤ y.v) (v1 : y.v ≤ 255) {r : (Int × Int) × Hs} (hd : hDid h y = r) : ∃ t F, HF r.2 t F (W' + 1) := by
  subst hd
  obtain ⟨_, ⟨t', h2⟩, _⟩ := hf.tells hW y v0 v1
  exact ⟨t', _, h2⟩
/-- The copy goes on in its place. -/
theorem HB.copied {bo cp cf : Nat} {C : Nat → G3} (b : HB W w n k bh bp bf rh rm base G h F bx v) (hm : HM w1 bo cp cf C h) (ho : ∀ j, Own bo cp cf C h j → w.heap.size ≤ j) (u : Upd (fun _ => False) w w1) (u2 : Upd (Own bh bp bf G h) w1 w2) : HBs W w2 n (k + 1) bo cp cf rh rm base := by
  have hz := b.up.size
  have hd : ∀ j, Own bo cp cf C h j → ¬ Own bh bp bf G h j := fun j h1 h2 => by have := ho j h1; have := b.s.m.ownLt h2; omega
  refine ⟨C, h, F, bx, v, (HS.mk (hm.upd u2 (fun j h1 h2 => hd j h1 h2)) b.s.hf b.s.n (fun j hj => by have := ho j hj; omega) : HS W w2 n k bo cp cf C h F).more, (b.r.same u).upd u2 (fun j hj e => b.dj j e hj) (fun i x j hx hj e => b.nv i x j hx hj e), fun j h1 h2 => ?_, fun i x j hx hj e => ?_, b.new, (b.up.trans u (fun _ _ f => f)).trans u2 (fun i hi e => by have := b.s.new i e; omega)⟩
  · have := ho j h1
    have := b.r.ftLt h2
    omega
  · have := ho j e
    have := b.r.vLt hx hj
    omega
end Go.Proofs.YtadpibcgjgcjhaaGreat
/- The walk of undercroftlaw.HostSays. -/
namespace Go.Proofs.YtadpibcgjgcjhaaGreat
open Go.ChangeShapes Go.WideShapes Go.ChangeAt Go.RowKit
set_option maxRecDepth 100000
attribute [local go_sem ↓] Go.wp_at_zero Go.wp_at_succ
variable {W w w1 w2 w' : World} {bh bp bf rh rm base : Nat} {G G' : Nat → G3} {bx : Nat → Nat} {v : Nat → Value} {h h' : Hs} {x : Gs} {n k : Nat} {F : Nat → Option Fl}

def acS : Ac := ⟨⟨#[115, 116, 111, 114, 101]⟩, 0, 3, 0, 77, false⟩
def acR : Ac := ⟨⟨#[114, 101, 109, 111, 118, 101]⟩, 1, 0, 0, 0, false⟩
def acA : Ac := ⟨⟨#[97, 100, 100]⟩, 0, 0, 0, 0, false⟩
def acC : Ac := ⟨⟨#[115, 99, 97, 110, 97, 108, 108]⟩, 0, 0, 0, 0, false⟩
theorem did_acS : hDid h acS = ((0, (hStore h 0 3 77).1), (hStore h 0 3 77).2) := by
  have e : acS.kind.toList = [115, 116, 111, 114, 101] := by rw [ByteArray.toList_eq]; rfl
  unfold hDid
  rw [e]
  rfl
theorem did_acR : hDid h acR = ((0, (hRemove h 1).1), (hRemove h 1).2) := by
  have e : acR.kind.toList = [114, 101, 109, 111, 118, 101] := by rw [ByteArray.toList_eq]; rfl
  unfold hDid
  rw [e]
  rfl
theorem did_acA : hDid h acA = hAdd h := by
  have e : acA.kind.toList = [97, 100, 100] := by rw [ByteArray.toList_eq]; rfl
  unfold hDid
  rw [e]
  rfl
theorem did_acC : hDid h acC = ((0, 0), (hScanTo h 64).2) := by
  have e : acC.kind.toList = [115, 99, 97, 110, 97, 108, 108] := by rw [ByteArray.toList_eq]; rfl
  unfold hDid
  rw [e]
  rfl
/-- Both hosts, as they are made. -/
theorem HB.start {w0 : World} (hn2 : n ≤ 64) (hm : ∀ G, HM w1 bh bp bf G (hs0 n)) (u0 : Upd (fun _ => False) W w0) (u1 : Upd (fun _ => False) w0 w1) (z1 : w0.heap.size ≤ bh) (z2 : w0.heap.size ≤ bp) (z3 : w0.heap.size ≤ bf) :
    HBs W ((w1.alloc (.cells (refZero n) 39)).alloc (.cells #[.pointer (some ⟨w1.heap.size, 0, none⟩), .pointer none, .pointer none, .pointer none, .pointer none] 139)) n 0 bh bp bf (w1.heap.size + 1) w1.heap.size (w1.heap.size + 2) := by
  have hs := HS.start hm u0 z1 z2 z3 (fun _ => ⟨0, 0, 0⟩)
  have ua := (Upd.refl (fun _ => False) w1).alloc (.cells (refZero n) 39)
  have ub := (Upd.refl (fun _ => False) (w1.alloc (.cells (refZero n) 39))).alloc (.cells #[.pointer (some ⟨w1.heap.size, 0, none⟩), .pointer none, .pointer none, .pointer none, .pointer none] 139)
  have sz : (w1.alloc (.cells (refZero n) 39)).heap.size = w1.heap.size + 1 := by simp
  have hcell : ∀ j, ((w1.alloc (.cells (refZero n) 39)).alloc (.cells #[.pointer (some ⟨w1.heap.size, 0, none⟩), .pointer none, .pointer none, .pointer none, .pointer none] 139)).cell? ⟨w1.heap.size + 1, j, none⟩ = (#[.pointer (some ⟨w1.heap.size, 0, none⟩), .pointer none, .pointer none, .pointer none, .pointer none] : Array Value)[j]? := fun j => by
    have := World.cell?_alloc_new (w1.alloc (.cells (refZero n) 39)) #[.pointer (some ⟨w1.heap.size, 0, none⟩), .pointer none, .pointer none, .pointer none, .pointer none] 139 j
    rw [sz] at this
    exact this
  have hlt : ∀ j, Own bh bp bf (fun _ => ⟨0, 0, 0⟩) (hs0 n) j → j < w1.heap.size := fun j hj => hs.m.ownLt hj
  have hsz := u0.size
  have hsz1 := u1.size
  refine ⟨fun _ => ⟨0, 0, 0⟩, hs0 n, fun _ => none, fun _ => w1.heap.size, fun _ => undef, (hs.keep ua (fun _ _ f => f)).keep ub (fun _ _ f => f), ⟨by rw [hcell]; rfl, fun i hi => ?_, fun o => by rw [← sz]; exact World.frozen?_alloc_new _ _ _ _, (RefAt.new w1 n hn2).upd ub (fun f => f), fun i x hx => (by cases hx), by omega, fun i x hx => (by cases hx), fun i j x y hx => (by cases hx), fun i x q hx => (by cases hx), by simp, fun j _ => (by simp; omega), fun i x q j hx => (by cases hx)⟩, fun j hj hf => ?_, fun i x j hx => (by cases hx), fun j hj => ?_, ((u0.trans u1 (fun _ _ f => f)).trans ua (fun _ _ f => f)).trans ub (fun _ _ f => f)⟩
  · rw [hcell]
    have : i = 0 ∨ i = 1 ∨ i = 2 ∨ i = 3 := by omega
    rcases this with rfl | rfl | rfl | rfl <;> rfl
  · have := hlt j hj
    rcases hf with e | e | ⟨i, x, hx, _⟩
    · omega
    · omega
    · cases hx
  · rcases hj with e | e | ⟨i, x, hx, _⟩
    · omega
    · omega
    · cases hx
set_option maxHeartbeats 8000000 in
theorem hostsay_walk (W : World) (n : Nat) (a : Option Addr) (len cap : Nat) (acts : Nat → Ac) (hn : 1 ≤ n) (hn2 : n ≤ 64) (hl : len ≤ 100) (hacts : ActsAt W a len acts) (hvs : ∀ k, k < len → 0 ≤ (acts k).v ∧ (acts k).v ≤ 255) :
    Calls Tryz.prog 4 #[.int .i64 n, .slice a len cap] W fun e w' => e = .returned (.bool true) ∧ Upd (fun _ => False) W w' := by
  have HA : Hid _ := hacts
  have HV : Hid _ := hvs
  clear hacts hvs
  have d1 : decide ((n : Int) < 1) = false := by simp; omega
  have d2 : decide (64 < (n : Int)) = false := by simp; omega
  go_enter Tryz.func4, Tryz.ntmps4
  go_wp2_with fail
  refine (hosts_any _).mono ?_
  rintro e w0 ⟨rfl, hu0⟩
  have HU0 : Hid _ := hu0
  clear hu0
  go_wp2_with fail
  refine (lightH_yes _ _ _ _ hl).mono ?_
  rintro e w3 ⟨rfl, hw3⟩
  subst hw3
  go_wp2_with fail
  refine (hNew_yes _ n hn hn2).mono ?_
  rintro e w1 ⟨bh, bp, bf, rfl, hm1, z1, z2, z3, hu1⟩
  have H0 : Hid _ := HB.start hn2 hm1 HU0.out hu1 z1 z2 z3
  clear hm1 z1 z2 z3 hu1 HU0
  go_wp2_with fail
  refine (newHost_any _ n).mono ?_
  rintro e w2 ⟨rfl, hw2⟩
  rw [← hw2] at H0
  clear hw2
  generalize w1.heap.size = B at *
  go_wp2_with fail
  go_loopg [6, 9] len (fun gk hv iv wr => ∃ k bh bp bf : Nat, k + gk = len ∧ hv = .pointer (some ⟨bh, 0, none⟩) ∧ iv = .int .i64 k ∧ Hid (HBs W wr n k bh bp bf (B + 1) B (B + 2)))
  case atStart => exact ⟨0, bh, bp, bf, by omega, rfl, rfl, H0.out⟩
  case round =>
    clear H0
    obtain ⟨k, bh, bp, bf, hk, rfl, rfl, HI⟩ := hrel
    have HK : Hid _ := hk
    clear hk
    by_cases hlt : k < len
    · obtain ⟨b, o, rfl, hx⟩ := HA.out k hlt
      have hvk := HV.out k hlt
      clear HA HV
      generalize acts k = x at hx hvk
      obtain ⟨G, h, F, bx, v, hb⟩ := HI.out
      have hx' := hx.upd hb.up (fun f => f)
      obtain ⟨x1, x2, x3, x4, x5, x6⟩ := hx'
      have HB1 : Hid (HB W wr n k bh bp bf (B + 1) B (B + 2) G h F bx v) := hb
      clear hx hb HI
      by_cases kc : (x.kind.toList == [99, 111, 112, 121]) = true
      · have HCO : Hid _ := hCopy_any HB1.out.s.m HB1.out.inv
        go_wp2_with fail
        refine Calls.mono HCO.out ?_
        rintro e w4 ⟨bo, cp, cf, rfl, hc⟩
        obtain ⟨C, hmc, hoc⟩ := hc.ex
        obtain ⟨t, hf⟩ := HB1.out.s.hf
        have hfc := hf
        have HMC : Hid _ := hmc
        have HOC : Hid (∀ j, Own bo cp cf C h j → wr.heap.size ≤ j) := hoc
        have HUC : Hid (Upd (fun _ => False) wr w4) := hc.up
        have a0 : Old w4 w4 bh bp bf G h G h (k : Int) := ⟨HB1.out.s.m.same hc.up, ⟨t, F, hf⟩, Upd.refl _ _, fun j hj => Or.inl hj⟩
        have HA0 : Hid _ := a0
        have HST : Hid _ := hStore_m a0.m hf.hr.inv 0 3 77 (by omega) (by omega) (by omega)
        have HF1 : Hid _ := hf.any (by omega) acS (by show (0 : Int) ≤ 77; omega) (by show (77 : Int) ≤ 255; omega) did_acS
        clear hc hmc hoc hf hfc a0 HCO x2 x3 x4 x5 x6
        go_wp2_with fail
        refine Calls.mono HST.out ?_
        rintro e w5 ⟨rfl, hm5, hu5⟩
        have a1 := HA0.out.next hm5 HF1.out (fun j hj => Or.inl (own_act hj)) hu5
        have HA1 : Hid _ := a1
        obtain ⟨t1, F1, hf1⟩ := a1.hf
        have HRE : Hid _ := hRemove_m a1.m hf1.hr.inv 1
        have HF2 : Hid _ := hf1.any (by omega) acR (by show (0 : Int) ≤ 0; omega) (by show (0 : Int) ≤ 255; omega) did_acR
        clear hm5 hu5 HST HA0 HF1 a1 hf1
        go_wp2_with fail
        refine Calls.mono HRE.out ?_
        rintro e w6 ⟨rfl, hm6, hu6⟩
        have a2 := HA1.out.next hm6 HF2.out (fun j hj => Or.inl (own_remove hj)) hu6
        have HA2 : Hid _ := a2
        obtain ⟨t2, F2, hf2⟩ := a2.hf
        have HAD : Hid _ := hAdd_m a2.m
        have HF3 : Hid _ := hf2.any (by omega) acA (by show (0 : Int) ≤ 0; omega) (by show (0 : Int) ≤ 255; omega) did_acA
        clear hm6 hu6 HRE HA1 HF2 a2 hf2
        go_wp2_with fail
        refine Calls.mono HAD.out ?_
        rintro e w7 ⟨rfl, ⟨G7, hm7, ho7⟩, hu7⟩
        have a3 := HA2.out.next hm7 HF3.out ho7 hu7
        have HA3 : Hid _ := a3
        obtain ⟨t3, F3, hf3⟩ := a3.hf
        have HSA : Hid _ := hScanAll_m a3.m hf3
        have HF4 : Hid _ := hf3.any (by omega) acC (by show (0 : Int) ≤ 0; omega) (by show (0 : Int) ≤ 255; omega) did_acC
        have HG4 : Hid _ := (hf3.scans 64 (Nat.le_refl _)).2.2.2.1
        clear hm7 ho7 hu7 HAD HA2 HF3 a3 hf3
        go_wp2_with fail
        refine Calls.mono HSA.out ?_
        rintro e w8 ⟨rfl, hm8, hu8⟩
        have a4 := HA3.out.next hm8 HF4.out (fun j hj => Or.inl (own_of HG4.out hj)) hu8
        have HB8 : Hid _ := HB1.out.copied HMC.out HOC.out HUC.out a4.u
        clear hm8 hu8 HSA HA3 HF4 HG4 a4
        go_wp2_with fail
        go_roundg (len - (k + 1))
        case rel => exact ⟨k + 1, bo, cp, cf, by omega, rfl, by go_num, HB8.out⟩
        case measure => have := HK.out; omega
      · have tc : (x.kind.toList == [99, 111, 112, 121]) = false := by simpa using kc
        clear kc
        have HHO : Hid _ := hosted_any HB1.out (by omega) x hvk.1 hvk.2
        go_wp2_with fail
        refine Calls.mono HHO.out ?_
        rintro e w4 ⟨rfl, hb4⟩
        obtain ⟨G4, h4, F4, bx4, v4, hb4⟩ := hb4
        have HB4 : Hid (HB W w4 n (k + 1) bh bp bf (B + 1) B (B + 2) G4 h4 F4 bx4 v4) := hb4
        have HAS : Hid _ := asHost_any hb4 hn2
        clear hb4 HHO x1 x2 x3 x4 x5 x6
        have k9 : (0 : Int) ≤ (k : Int) % 9 := by omega
        cases hr : ((k : Int) % 9 == 0) with
        | true =>
          go_wp2_with fail
          refine Calls.mono HAS.out ?_
          rintro e w5 ⟨rfl, hu5⟩
          have HB5 : Hid (HBs W w5 n (k + 1) bh bp bf (B + 1) B (B + 2)) := ⟨_, _, _, _, _, HB4.out.same hu5⟩
          clear hu5 HAS
          go_wp2_with fail
          go_roundg (len - (k + 1))
          case rel => exact ⟨k + 1, bh, bp, bf, by omega, rfl, by go_num, HB5.out⟩
          case measure => have := HK.out; omega
        | false =>
          clear HAS
          go_wp2_with fail
          go_roundg (len - (k + 1))
          case rel => exact ⟨k + 1, bh, bp, bf, by omega, rfl, by go_num, ⟨_, _, _, _, _, HB4.out⟩⟩
          case measure => have := HK.out; omega
    · obtain ⟨G, h, F, bx, v, hb⟩ := HI.out
      have HAS : Hid _ := asHost_any hb hn2
      have HUW : Hid _ := hb.up
      clear hb HI
      go_wp2_with fail
      refine Calls.mono HAS.out ?_
      rintro e w5 ⟨rfl, hu5⟩
      have HU5 : Hid (Upd (fun _ => False) W w5) := HUW.out.trans hu5 (fun _ _ f => f)
      clear hu5
      go_wp2_with fail
      go_ret
      exact ⟨rfl, HU5.out⟩
end Go.Proofs.YtadpibcgjgcjhaaGreat
