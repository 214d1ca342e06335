/- The walk of undercrofttop.TopApart. -/
import Derived.Test.YtadpibcgjgcjhaaPart21
namespace Go.Proofs.Ytadpibcgjgcjhaa
open Go.ChangeShapes Go.WideShapes Go.ChangeAt Go.RowKit
set_option maxRecDepth 100000
attribute [local go_sem ↓] Go.wp_at_zero Go.wp_at_succ

set_option maxHeartbeats 4000000 in
theorem apart_walk (W : World) (n : Nat) (g : Int) (a : Option Addr) (len cap : Nat) (acts : Nat → Ac) (hn : 1 ≤ n) (hn2 : n ≤ 64) (hl : len ≤ 100) (hacts : ActsAt W a len acts) (hvs : ∀ k, k < len → 0 ≤ (acts k).v ∧ (acts k).v ≤ 255) :
    Calls Try.prog 9 #[.int .i64 n, .int .i64 g, .slice a len cap] W fun e w' => e = .returned (.bool true) ∧ Upd (fun _ => False) W w' := by
  have HA : Hid _ := hacts
  have HV : Hid _ := hvs
  clear hacts hvs
  go_enter Try.func9, Try.ntmps9
  go_wp2_with fail
  refine (hNew_yes _ n hn hn2).mono ?_
  rintro e w1 ⟨bh, bp, bf, rfl, hm1, z1, z2, z3, hu1⟩
  have HM1 : Hid _ := hm1
  have HU1 : Hid _ := hu1
  clear hm1 hu1
  go_wp2_with fail
  refine (hNew_yes _ n hn hn2).mono ?_
  rintro e w2 ⟨ch, cp, cf, rfl, hm2, y1, y2, y3, hu2⟩
  have H0 : Hid (A2 W w2 n 0 g bh bp bf ch cp cf) := by
    refine ⟨⟨fun _ => ⟨0, 0, 0⟩, hs0 n, fun _ => none, fun _ => ⟨0, 0, 0⟩, hs0 n, fun _ => none, (HS.start HM1.out (Upd.refl _ W) z1 z2 z3 _).keep hu2 (fun _ _ f => f), HS.start hm2 HU1.out y1 y2 y3 _, ⟨Alk.refl _, fun _ f f' h1 _ => (by cases h1)⟩, fun j hj hk => ?_⟩, HU1.out.trans hu2 (fun _ _ f => f)⟩
    have := (HM1.out fun _ => ⟨0, 0, 0⟩).ownLt hj
    rcases hk with e | e | e | ⟨i, x, hx, _⟩
    · omega
    · omega
    · omega
    · cases hx
  clear hm2 hu2 z1 z2 z3 y1 y2 y3 HM1 HU1
  go_wp2_with fail
  refine (lightH_yes _ _ _ _ hl).mono ?_
  rintro e w3 ⟨rfl, rfl⟩
  go_wp2_with fail
  go_loopg [11] len (fun gk i w => ∃ k : Nat, k + gk = len ∧ i = .int .i64 k ∧ Hid (A2 W w n k g bh bp bf ch cp cf))
  case atStart => exact ⟨0, by omega, rfl, H0.out⟩
  case round =>
    clear H0
    obtain ⟨k, hk, rfl, HI⟩ := hrel
    have HK : Hid _ := hk
    clear hk
    by_cases hlt : k < len
    · obtain ⟨b, o, rfl, hx⟩ := HA.out k hlt
      have hvk := HV.out k hlt
      clear HA HV
      generalize acts k = x at hx hvk
      have hx' := hx.upd HI.out.up (fun f => f)
      obtain ⟨x1, x2, x3, x4, x5, x6⟩ := hx'
      have hB := BoxAt.new wr x
      have HI1 : Hid (A2 W (wr.alloc (.cells #[.string x.kind, .int .i64 x.n, .int .i64 x.a, .int .i64 x.b, .int .u8 x.v, .bool x.on] 38)) n k g bh bp bf ch cp cf) := HI.out.same ((Upd.refl _ _).alloc _)
      have hqs : wr.heap.size < (wr.alloc (.cells #[.string x.kind, .int .i64 x.n, .int .i64 x.a, .int .i64 x.b, .int .u8 x.v, .bool x.on] 38)).heap.size := by simp
      obtain ⟨G, h, F, G', oo, F', hs1, hs2, hap, hne⟩ := HI.out.ex
      have HQ : Hid (∀ j, Own bh bp bf G h j → j < wr.heap.size) := fun j hj => hs1.m.ownLt hj
      have HQ2 : Hid (∀ j, Own ch cp cf G' oo j → j < wr.heap.size) := fun j hj => hs2.m.ownLt hj
      have hs1' := hs1.keep ((Upd.refl (fun _ => False) wr).alloc (.cells #[.string x.kind, .int .i64 x.n, .int .i64 x.a, .int .i64 x.b, .int .u8 x.v, .bool x.on] 38)) (fun _ _ f => f)
      have hs2' := hs2.keep ((Upd.refl (fun _ => False) wr).alloc (.cells #[.string x.kind, .int .i64 x.n, .int .i64 x.a, .int .i64 x.b, .int .u8 x.v, .bool x.on] 38)) (fun _ _ f => f)
      have uW : Upd (fun _ => False) W (wr.alloc (.cells #[.string x.kind, .int .i64 x.n, .int .i64 x.a, .int .i64 x.b, .int .u8 x.v, .bool x.on] 38)) := HI.out.up.alloc _
      have HD1 : Hid _ := hs1'.did (by omega) x hvk.1 hvk.2
      have HS1 : Hid (HS W (wr.alloc (.cells #[.string x.kind, .int .i64 x.n, .int .i64 x.a, .int .i64 x.b, .int .u8 x.v, .bool x.on] 38)) n k bh bp bf G h F) := hs1'
      have HS2 : Hid (HS W (wr.alloc (.cells #[.string x.kind, .int .i64 x.n, .int .i64 x.a, .int .i64 x.b, .int .u8 x.v, .bool x.on] 38)) n k ch cp cf G' oo F') := hs2'
      have HUW : Hid _ := uW
      have HAP : Hid (Apn g F F') := hap
      have HNE : Hid _ := hne
      have HBX : Hid (BoxAt (wr.alloc (.cells #[.string x.kind, .int .i64 x.n, .int .i64 x.a, .int .i64 x.b, .int .u8 x.v, .bool x.on] 38)) wr.heap.size x) := hB
      clear hs1 hs2 hs1' hs2' hap hne uW hB HI HI1 hx
      go_wp2_with fail
      clear x1 x2 x3 x4 x5 x6
      revert HD1 HS1 HS2 HUW HBX hqs HQ HQ2
      generalize wr.alloc (.cells #[.string x.kind, .int .i64 x.n, .int .i64 x.a, .int .i64 x.b, .int .u8 x.v, .bool x.on] 38) = wb
      generalize wr.heap.size = q
      intro hqs HQ HQ2 HD1 HS1 HS2 HUW HBX
      refine Calls.mono HD1.out ?_
      rintro e w4 ⟨rfl, hd4⟩
      have hu4 := hd4.2
      have nq : ¬ Own bh bp bf G h q := fun e => Nat.lt_irrefl _ (HQ.out q e)
      have nq2 : ¬ Own ch cp cf G' oo q := fun e => Nat.lt_irrefl _ (HQ2.out q e)
      have hB4 := HBX.out.upd hu4 nq
      obtain ⟨G4, hs4, ho4⟩ := HS1.out.act HUW.out x hvk.1 hvk.2 hd4
      have hs24 := HS2.out.keep hu4 (fun j h1 h2 => HNE.out j h2 h1)
      have hUW4 : Upd (fun _ => False) W w4 := HUW.out.trans hu4 (fun i hi e => by have := HS1.out.new i e; omega)
      have hne4 : ∀ j, Own bh bp bf G4 (hDid h x).2 j → ¬ Own ch cp cf G' oo j := fun j hj hk => by
        rcases ho4 j hj with e | e
        · exact HNE.out j e hk
        · have := HQ2.out j hk; omega
      have HS4 : Hid (HS W w4 n (k + 1) bh bp bf G4 (hDid h x).2 (fDid F n x).2) := hs4
      have HS24 : Hid (HS W w4 n k ch cp cf G' oo F') := hs24
      have HUW4 : Hid _ := hUW4
      have HNE4 : Hid _ := hne4
      have HB4 : Hid (BoxAt w4 q x) := hB4
      have HST : Hid (passes x g = false → _) := fun hp => HAP.out.step n x hp
      have HPS : Hid (passes x g = true → _) := fun hp => HAP.out.pass n x hp
      have c0 := hB4.c0
      have c1 := hB4.c1
      have NQ2 : Hid _ := nq2
      have HD2 : Hid _ := hs24.did (by omega) x hvk.1 hvk.2
      clear hd4 hu4 hB4 hs4 hs24 hUW4 hne4 ho4 nq nq2 HD1 HS1 HS2 HUW HBX hqs HQ HNE HAP
      by_cases kload : (x.kind.toList == [108, 111, 97, 100]) = true
      · have hk : x.kind.toList = [108, 111, 97, 100] := by simpa using kload
        have tstore : (x.kind.toList == [115, 116, 111, 114, 101]) = false := by rw [hk]; rfl
        have troot : (x.kind.toList == [114, 111, 111, 116]) = false := by rw [hk]; rfl
        have tforget : (x.kind.toList == [102, 111, 114, 103, 101, 116]) = false := by rw [hk]; rfl
        have tdrop : (x.kind.toList == [100, 114, 111, 112]) = false := by rw [hk]; rfl
        have tscan : (x.kind.toList == [115, 99, 97, 110]) = false := by rw [hk]; rfl
        have tscanall : (x.kind.toList == [115, 99, 97, 110, 97, 108, 108]) = false := by rw [hk]; rfl
        clear hk
        by_cases hng : x.n = g
        · have d : (x.n != g) = false := by simp [hng]
          clear hng
          have hp : passes x g = false := by unfold passes inner; simp only [kload, tstore, troot, tforget, tdrop, tscan, tscanall, d]; rfl
          obtain ⟨he, hap⟩ := HST.out hp
          have HAP4 : Hid _ := hap
          rw [← he] at HD2
          clear hp HPS HST he hap
          generalize (fDid F n x).1.1 = r1 at *
          generalize (fDid F n x).1.2 = r2 at *
          have e1 : (r1 != r1) = false := by simp
          have e2 : (r2 != r2) = false := by simp
          have b2 := HB4.out.c2
          have b3 := HB4.out.c3
          have b4 := HB4.out.c4
          have b5 := HB4.out.c5
          go_wp2_with fail
          refine Calls.mono HD2.out ?_
          rintro e w5 ⟨rfl, hd5⟩
          have hu5 := hd5.2
          obtain ⟨G5, hs5, ho5⟩ := HS24.out.act HUW4.out x hvk.1 hvk.2 hd5
          have hs15 := HS4.out.keep hu5 (fun j h1 h2 => HNE4.out j h1 h2)
          have HUW5 : Hid (Upd (fun _ => False) W w5) := HUW4.out.trans hu5 (fun i hi e => by have := HS24.out.new i e; omega)
          have HNE5 : Hid (∀ j, Own bh bp bf G4 (hDid h x).2 j → ¬ Own ch cp cf G5 (hDid oo x).2 j) := fun j hj hk => by
            rcases ho5 j hk with e | e
            · exact HNE4.out j hj e
            · have := HS4.out.m.ownLt hj; omega
          have HS5 : Hid (HS W w5 n (k + 1) ch cp cf G5 (hDid oo x).2 (fDid F' n x).2) := hs5
          have HS15 : Hid (HS W w5 n (k + 1) bh bp bf G4 (hDid h x).2 (fDid F n x).2) := hs15
          clear hd5 hu5 hs5 hs15 ho5 HD2
          go_wp2_with fail
          go_roundg (len - (k + 1))
          case rel => exact ⟨k + 1, by omega, by go_num, ⟨⟨_, _, _, _, _, _, HS15.out, HS5.out, HAP4.out, HNE5.out⟩, HUW5.out⟩⟩
          case measure => have := HK.out; omega
        · have d : (x.n != g) = true := by simp [hng]
          clear hng
          have hp : passes x g = true := by unfold passes inner; simp only [kload, tstore, troot, tforget, tdrop, tscan, tscanall, d]; rfl
          have HAP4 : Hid _ := HPS.out hp
          clear hp HPS HST HD2
          go_wp2_with fail
          go_roundg (len - (k + 1))
          case rel => exact ⟨k + 1, by omega, by go_num, ⟨⟨_, _, _, _, _, _, HS4.out, HS24.out.more, HAP4.out, HNE4.out⟩, HUW4.out⟩⟩
          case measure => have := HK.out; omega
      · have tload : (x.kind.toList == [108, 111, 97, 100]) = false := by simpa using kload
        clear kload
        by_cases kstore : (x.kind.toList == [115, 116, 111, 114, 101]) = true
        · have hk : x.kind.toList = [115, 116, 111, 114, 101] := by simpa using kstore
          have tload : (x.kind.toList == [108, 111, 97, 100]) = false := by rw [hk]; rfl
          have troot : (x.kind.toList == [114, 111, 111, 116]) = false := by rw [hk]; rfl
          have tforget : (x.kind.toList == [102, 111, 114, 103, 101, 116]) = false := by rw [hk]; rfl
          have tdrop : (x.kind.toList == [100, 114, 111, 112]) = false := by rw [hk]; rfl
          have tscan : (x.kind.toList == [115, 99, 97, 110]) = false := by rw [hk]; rfl
          have tscanall : (x.kind.toList == [115, 99, 97, 110, 97, 108, 108]) = false := by rw [hk]; rfl
          clear hk
          by_cases hng : x.n = g
          · have d : (x.n != g) = false := by simp [hng]
            clear hng
            have hp : passes x g = false := by unfold passes inner; simp only [kstore, tload, troot, tforget, tdrop, tscan, tscanall, d]; rfl
            obtain ⟨he, hap⟩ := HST.out hp
            have HAP4 : Hid _ := hap
            rw [← he] at HD2
            clear hp HPS HST he hap
            generalize (fDid F n x).1.1 = r1 at *
            generalize (fDid F n x).1.2 = r2 at *
            have e1 : (r1 != r1) = false := by simp
            have e2 : (r2 != r2) = false := by simp
            have b2 := HB4.out.c2
            have b3 := HB4.out.c3
            have b4 := HB4.out.c4
            have b5 := HB4.out.c5
            go_wp2_with fail
            refine Calls.mono HD2.out ?_
            rintro e w5 ⟨rfl, hd5⟩
            have hu5 := hd5.2
            obtain ⟨G5, hs5, ho5⟩ := HS24.out.act HUW4.out x hvk.1 hvk.2 hd5
            have hs15 := HS4.out.keep hu5 (fun j h1 h2 => HNE4.out j h1 h2)
            have HUW5 : Hid (Upd (fun _ => False) W w5) := HUW4.out.trans hu5 (fun i hi e => by have := HS24.out.new i e; omega)
            have HNE5 : Hid (∀ j, Own bh bp bf G4 (hDid h x).2 j → ¬ Own ch cp cf G5 (hDid oo x).2 j) := fun j hj hk => by
              rcases ho5 j hk with e | e
              · exact HNE4.out j hj e
              · have := HS4.out.m.ownLt hj; omega
            have HS5 : Hid (HS W w5 n (k + 1) ch cp cf G5 (hDid oo x).2 (fDid F' n x).2) := hs5
            have HS15 : Hid (HS W w5 n (k + 1) bh bp bf G4 (hDid h x).2 (fDid F n x).2) := hs15
            clear hd5 hu5 hs5 hs15 ho5 HD2
            go_wp2_with fail
            go_roundg (len - (k + 1))
            case rel => exact ⟨k + 1, by omega, by go_num, ⟨⟨_, _, _, _, _, _, HS15.out, HS5.out, HAP4.out, HNE5.out⟩, HUW5.out⟩⟩
            case measure => have := HK.out; omega
          · have d : (x.n != g) = true := by simp [hng]
            clear hng
            have hp : passes x g = true := by unfold passes inner; simp only [kstore, tload, troot, tforget, tdrop, tscan, tscanall, d]; rfl
            have HAP4 : Hid _ := HPS.out hp
            clear hp HPS HST HD2
            go_wp2_with fail
            go_roundg (len - (k + 1))
            case rel => exact ⟨k + 1, by omega, by go_num, ⟨⟨_, _, _, _, _, _, HS4.out, HS24.out.more, HAP4.out, HNE4.out⟩, HUW4.out⟩⟩
            case measure => have := HK.out; omega
        · have tstore : (x.kind.toList == [115, 116, 111, 114, 101]) = false := by simpa using kstore
          clear kstore
          by_cases kroot : (x.kind.toList == [114, 111, 111, 116]) = true
          · have hk : x.kind.toList = [114, 111, 111, 116] := by simpa using kroot
            have tload : (x.kind.toList == [108, 111, 97, 100]) = false := by rw [hk]; rfl
            have tstore : (x.kind.toList == [115, 116, 111, 114, 101]) = false := by rw [hk]; rfl
            have tforget : (x.kind.toList == [102, 111, 114, 103, 101, 116]) = false := by rw [hk]; rfl
            have tdrop : (x.kind.toList == [100, 114, 111, 112]) = false := by rw [hk]; rfl
            have tscan : (x.kind.toList == [115, 99, 97, 110]) = false := by rw [hk]; rfl
            have tscanall : (x.kind.toList == [115, 99, 97, 110, 97, 108, 108]) = false := by rw [hk]; rfl
            clear hk
            by_cases hng : x.n = g
            · have d : (x.n != g) = false := by simp [hng]
              clear hng
              have hp : passes x g = false := by unfold passes inner; simp only [kroot, tload, tstore, tforget, tdrop, tscan, tscanall, d]; rfl
              obtain ⟨he, hap⟩ := HST.out hp
              have HAP4 : Hid _ := hap
              rw [← he] at HD2
              clear hp HPS HST he hap
              generalize (fDid F n x).1.1 = r1 at *
              generalize (fDid F n x).1.2 = r2 at *
              have e1 : (r1 != r1) = false := by simp
              have e2 : (r2 != r2) = false := by simp
              have b2 := HB4.out.c2
              have b3 := HB4.out.c3
              have b4 := HB4.out.c4
              have b5 := HB4.out.c5
              go_wp2_with fail
              refine Calls.mono HD2.out ?_
              rintro e w5 ⟨rfl, hd5⟩
              have hu5 := hd5.2
              obtain ⟨G5, hs5, ho5⟩ := HS24.out.act HUW4.out x hvk.1 hvk.2 hd5
              have hs15 := HS4.out.keep hu5 (fun j h1 h2 => HNE4.out j h1 h2)
              have HUW5 : Hid (Upd (fun _ => False) W w5) := HUW4.out.trans hu5 (fun i hi e => by have := HS24.out.new i e; omega)
              have HNE5 : Hid (∀ j, Own bh bp bf G4 (hDid h x).2 j → ¬ Own ch cp cf G5 (hDid oo x).2 j) := fun j hj hk => by
                rcases ho5 j hk with e | e
                · exact HNE4.out j hj e
                · have := HS4.out.m.ownLt hj; omega
              have HS5 : Hid (HS W w5 n (k + 1) ch cp cf G5 (hDid oo x).2 (fDid F' n x).2) := hs5
              have HS15 : Hid (HS W w5 n (k + 1) bh bp bf G4 (hDid h x).2 (fDid F n x).2) := hs15
              clear hd5 hu5 hs5 hs15 ho5 HD2
              go_wp2_with fail
              go_roundg (len - (k + 1))
              case rel => exact ⟨k + 1, by omega, by go_num, ⟨⟨_, _, _, _, _, _, HS15.out, HS5.out, HAP4.out, HNE5.out⟩, HUW5.out⟩⟩
              case measure => have := HK.out; omega
            · have d : (x.n != g) = true := by simp [hng]
              clear hng
              have hp : passes x g = true := by unfold passes inner; simp only [kroot, tload, tstore, tforget, tdrop, tscan, tscanall, d]; rfl
              have HAP4 : Hid _ := HPS.out hp
              clear hp HPS HST HD2
              go_wp2_with fail
              go_roundg (len - (k + 1))
              case rel => exact ⟨k + 1, by omega, by go_num, ⟨⟨_, _, _, _, _, _, HS4.out, HS24.out.more, HAP4.out, HNE4.out⟩, HUW4.out⟩⟩
              case measure => have := HK.out; omega
          · have troot : (x.kind.toList == [114, 111, 111, 116]) = false := by simpa using kroot
            clear kroot
            by_cases kforget : (x.kind.toList == [102, 111, 114, 103, 101, 116]) = true
            · have hk : x.kind.toList = [102, 111, 114, 103, 101, 116] := by simpa using kforget
              have tload : (x.kind.toList == [108, 111, 97, 100]) = false := by rw [hk]; rfl
              have tstore : (x.kind.toList == [115, 116, 111, 114, 101]) = false := by rw [hk]; rfl
              have troot : (x.kind.toList == [114, 111, 111, 116]) = false := by rw [hk]; rfl
              have tdrop : (x.kind.toList == [100, 114, 111, 112]) = false := by rw [hk]; rfl
              have tscan : (x.kind.toList == [115, 99, 97, 110]) = false := by rw [hk]; rfl
              have tscanall : (x.kind.toList == [115, 99, 97, 110, 97, 108, 108]) = false := by rw [hk]; rfl
              clear hk
              by_cases hng : x.n = g
              · have d : (x.n != g) = false := by simp [hng]
                clear hng
                have hp : passes x g = false := by unfold passes inner; simp only [kforget, tload, tstore, troot, tdrop, tscan, tscanall, d]; rfl
                obtain ⟨he, hap⟩ := HST.out hp
                have HAP4 : Hid _ := hap
                rw [← he] at HD2
                clear hp HPS HST he hap
                generalize (fDid F n x).1.1 = r1 at *
                generalize (fDid F n x).1.2 = r2 at *
                have e1 : (r1 != r1) = false := by simp
                have e2 : (r2 != r2) = false := by simp
                have b2 := HB4.out.c2
                have b3 := HB4.out.c3
                have b4 := HB4.out.c4
                have b5 := HB4.out.c5
                go_wp2_with fail
                refine Calls.mono HD2.out ?_
                rintro e w5 ⟨rfl, hd5⟩
                have hu5 := hd5.2
                obtain ⟨G5, hs5, ho5⟩ := HS24.out.act HUW4.out x hvk.1 hvk.2 hd5
                have hs15 := HS4.out.keep hu5 (fun j h1 h2 => HNE4.out j h1 h2)
                have HUW5 : Hid (Upd (fun _ => False) W w5) := HUW4.out.trans hu5 (fun i hi e => by have := HS24.out.new i e; omega)
                have HNE5 : Hid (∀ j, Own bh bp bf G4 (hDid h x).2 j → ¬ Own ch cp cf G5 (hDid oo x).2 j) := fun j hj hk => by
                  rcases ho5 j hk with e | e
                  · exact HNE4.out j hj e
                  · have := HS4.out.m.ownLt hj; omega
                have HS5 : Hid (HS W w5 n (k + 1) ch cp cf G5 (hDid oo x).2 (fDid F' n x).2) := hs5
                have HS15 : Hid (HS W w5 n (k + 1) bh bp bf G4 (hDid h x).2 (fDid F n x).2) := hs15
                clear hd5 hu5 hs5 hs15 ho5 HD2
                go_wp2_with fail
                go_roundg (len - (k + 1))
                case rel => exact ⟨k + 1, by omega, by go_num, ⟨⟨_, _, _, _, _, _, HS15.out, HS5.out, HAP4.out, HNE5.out⟩, HUW5.out⟩⟩
                case measure => have := HK.out; omega
              · have d : (x.n != g) = true := by simp [hng]
                clear hng
                have hp : passes x g = true := by unfold passes inner; simp only [kforget, tload, tstore, troot, tdrop, tscan, tscanall, d]; rfl
                have HAP4 : Hid _ := HPS.out hp
                clear hp HPS HST HD2
                go_wp2_with fail
                go_roundg (len - (k + 1))
                case rel => exact ⟨k + 1, by omega, by go_num, ⟨⟨_, _, _, _, _, _, HS4.out, HS24.out.more, HAP4.out, HNE4.out⟩, HUW4.out⟩⟩
                case measure => have := HK.out; omega
            · have tforget : (x.kind.toList == [102, 111, 114, 103, 101, 116]) = false := by simpa using kforget
              clear kforget
              by_cases kdrop : (x.kind.toList == [100, 114, 111, 112]) = true
              · have hk : x.kind.toList = [100, 114, 111, 112] := by simpa using kdrop
                have tload : (x.kind.toList == [108, 111, 97, 100]) = false := by rw [hk]; rfl
                have tstore : (x.kind.toList == [115, 116, 111, 114, 101]) = false := by rw [hk]; rfl
                have troot : (x.kind.toList == [114, 111, 111, 116]) = false := by rw [hk]; rfl
                have tforget : (x.kind.toList == [102, 111, 114, 103, 101, 116]) = false := by rw [hk]; rfl
                have tscan : (x.kind.toList == [115, 99, 97, 110]) = false := by rw [hk]; rfl
                have tscanall : (x.kind.toList == [115, 99, 97, 110, 97, 108, 108]) = false := by rw [hk]; rfl
                clear hk
                by_cases hng : x.n = g
                · have d : (x.n != g) = false := by simp [hng]
                  clear hng
                  have hp : passes x g = false := by unfold passes inner; simp only [kdrop, tload, tstore, troot, tforget, tscan, tscanall, d]; rfl
                  obtain ⟨he, hap⟩ := HST.out hp
                  have HAP4 : Hid _ := hap
                  rw [← he] at HD2
                  clear hp HPS HST he hap
                  generalize (fDid F n x).1.1 = r1 at *
                  generalize (fDid F n x).1.2 = r2 at *
                  have e1 : (r1 != r1) = false := by simp
                  have e2 : (r2 != r2) = false := by simp
                  have b2 := HB4.out.c2
                  have b3 := HB4.out.c3
                  have b4 := HB4.out.c4
                  have b5 := HB4.out.c5
                  go_wp2_with fail
                  refine Calls.mono HD2.out ?_
                  rintro e w5 ⟨rfl, hd5⟩
                  have hu5 := hd5.2
                  obtain ⟨G5, hs5, ho5⟩ := HS24.out.act HUW4.out x hvk.1 hvk.2 hd5
                  have hs15 := HS4.out.keep hu5 (fun j h1 h2 => HNE4.out j h1 h2)
                  have HUW5 : Hid (Upd (fun _ => False) W w5) := HUW4.out.trans hu5 (fun i hi e => by have := HS24.out.new i e; omega)
                  have HNE5 : Hid (∀ j, Own bh bp bf G4 (hDid h x).2 j → ¬ Own ch cp cf G5 (hDid oo x).2 j) := fun j hj hk => by
                    rcases ho5 j hk with e | e
                    · exact HNE4.out j hj e
                    · have := HS4.out.m.ownLt hj; omega
                  have HS5 : Hid (HS W w5 n (k + 1) ch cp cf G5 (hDid oo x).2 (fDid F' n x).2) := hs5
                  have HS15 : Hid (HS W w5 n (k + 1) bh bp bf G4 (hDid h x).2 (fDid F n x).2) := hs15
                  clear hd5 hu5 hs5 hs15 ho5 HD2
                  go_wp2_with fail
                  go_roundg (len - (k + 1))
                  case rel => exact ⟨k + 1, by omega, by go_num, ⟨⟨_, _, _, _, _, _, HS15.out, HS5.out, HAP4.out, HNE5.out⟩, HUW5.out⟩⟩
                  case measure => have := HK.out; omega
                · have d : (x.n != g) = true := by simp [hng]
                  clear hng
                  have hp : passes x g = true := by unfold passes inner; simp only [kdrop, tload, tstore, troot, tforget, tscan, tscanall, d]; rfl
                  have HAP4 : Hid _ := HPS.out hp
                  clear hp HPS HST HD2
                  go_wp2_with fail
                  go_roundg (len - (k + 1))
                  case rel => exact ⟨k + 1, by omega, by go_num, ⟨⟨_, _, _, _, _, _, HS4.out, HS24.out.more, HAP4.out, HNE4.out⟩, HUW4.out⟩⟩
                  case measure => have := HK.out; omega
              · have tdrop : (x.kind.toList == [100, 114, 111, 112]) = false := by simpa using kdrop
                clear kdrop
                by_cases kscan : (x.kind.toList == [115, 99, 97, 110]) = true
                · have hk : x.kind.toList = [115, 99, 97, 110] := by simpa using kscan
                  have tload : (x.kind.toList == [108, 111, 97, 100]) = false := by rw [hk]; rfl
                  have tstore : (x.kind.toList == [115, 116, 111, 114, 101]) = false := by rw [hk]; rfl
                  have troot : (x.kind.toList == [114, 111, 111, 116]) = false := by rw [hk]; rfl
                  have tforget : (x.kind.toList == [102, 111, 114, 103, 101, 116]) = false := by rw [hk]; rfl
                  have tdrop : (x.kind.toList == [100, 114, 111, 112]) = false := by rw [hk]; rfl
                  have tscanall : (x.kind.toList == [115, 99, 97, 110, 97, 108, 108]) = false := by rw [hk]; rfl
                  clear hk
                  have hp : passes x g = true := by unfold passes inner; simp only [kscan, tload, tstore, troot, tforget, tdrop, tscanall]; rfl
                  have HAP4 : Hid _ := HPS.out hp
                  clear hp HPS HST HD2
                  go_wp2_with fail
                  go_roundg (len - (k + 1))
                  case rel => exact ⟨k + 1, by omega, by go_num, ⟨⟨_, _, _, _, _, _, HS4.out, HS24.out.more, HAP4.out, HNE4.out⟩, HUW4.out⟩⟩
                  case measure => have := HK.out; omega
                · have tscan : (x.kind.toList == [115, 99, 97, 110]) = false := by simpa using kscan
                  clear kscan
                  by_cases kscanall : (x.kind.toList == [115, 99, 97, 110, 97, 108, 108]) = true
                  · have hk : x.kind.toList = [115, 99, 97, 110, 97, 108, 108] := by simpa using kscanall
                    have tload : (x.kind.toList == [108, 111, 97, 100]) = false := by rw [hk]; rfl
                    have tstore : (x.kind.toList == [115, 116, 111, 114, 101]) = false := by rw [hk]; rfl
                    have troot : (x.kind.toList == [114, 111, 111, 116]) = false := by rw [hk]; rfl
                    have tforget : (x.kind.toList == [102, 111, 114, 103, 101, 116]) = false := by rw [hk]; rfl
                    have tdrop : (x.kind.toList == [100, 114, 111, 112]) = false := by rw [hk]; rfl
                    have tscan : (x.kind.toList == [115, 99, 97, 110]) = false := by rw [hk]; rfl
                    clear hk
                    have hp : passes x g = true := by unfold passes inner; simp only [kscanall, tload, tstore, troot, tforget, tdrop, tscan]; rfl
                    have HAP4 : Hid _ := HPS.out hp
                    clear hp HPS HST HD2
                    go_wp2_with fail
                    go_roundg (len - (k + 1))
                    case rel => exact ⟨k + 1, by omega, by go_num, ⟨⟨_, _, _, _, _, _, HS4.out, HS24.out.more, HAP4.out, HNE4.out⟩, HUW4.out⟩⟩
                    case measure => have := HK.out; omega
                  · have tscanall : (x.kind.toList == [115, 99, 97, 110, 97, 108, 108]) = false := by simpa using kscanall
                    clear kscanall
                    have hp : passes x g = false := by unfold passes inner; simp only [tload, tstore, troot, tforget, tdrop, tscan, tscanall]; rfl
                    obtain ⟨he, hap⟩ := HST.out hp
                    have HAP4 : Hid _ := hap
                    rw [← he] at HD2
                    clear hp HPS HST he hap
                    generalize (fDid F n x).1.1 = r1 at *
                    generalize (fDid F n x).1.2 = r2 at *
                    have e1 : (r1 != r1) = false := by simp
                    have e2 : (r2 != r2) = false := by simp
                    have b2 := HB4.out.c2
                    have b3 := HB4.out.c3
                    have b4 := HB4.out.c4
                    have b5 := HB4.out.c5
                    go_wp2_with fail
                    refine Calls.mono HD2.out ?_
                    rintro e w5 ⟨rfl, hd5⟩
                    have hu5 := hd5.2
                    obtain ⟨G5, hs5, ho5⟩ := HS24.out.act HUW4.out x hvk.1 hvk.2 hd5
                    have hs15 := HS4.out.keep hu5 (fun j h1 h2 => HNE4.out j h1 h2)
                    have HUW5 : Hid (Upd (fun _ => False) W w5) := HUW4.out.trans hu5 (fun i hi e => by have := HS24.out.new i e; omega)
                    have HNE5 : Hid (∀ j, Own bh bp bf G4 (hDid h x).2 j → ¬ Own ch cp cf G5 (hDid oo x).2 j) := fun j hj hk => by
                      rcases ho5 j hk with e | e
                      · exact HNE4.out j hj e
                      · have := HS4.out.m.ownLt hj; omega
                    have HS5 : Hid (HS W w5 n (k + 1) ch cp cf G5 (hDid oo x).2 (fDid F' n x).2) := hs5
                    have HS15 : Hid (HS W w5 n (k + 1) bh bp bf G4 (hDid h x).2 (fDid F n x).2) := hs15
                    clear hd5 hu5 hs5 hs15 ho5 HD2
                    go_wp2_with fail
                    go_roundg (len - (k + 1))
                    case rel => exact ⟨k + 1, by omega, by go_num, ⟨⟨_, _, _, _, _, _, HS15.out, HS5.out, HAP4.out, HNE5.out⟩, HUW5.out⟩⟩
                    case measure => have := HK.out; omega
    · go_wp2_with fail
      go_ret
      exact ⟨rfl, HI.out.up⟩
end Go.Proofs.Ytadpibcgjgcjhaa
