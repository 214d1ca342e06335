/- The walk of undercrofttop.TopFlat. -/
import Derived.Test.YtadpibcgjgcjhaaGreatPart26
namespace Go.Proofs.YtadpibcgjgcjhaaGreat
open Go.ChangeShapes Go.WideShapes Go.ChangeAt Go.RowKit
set_option maxRecDepth 100000
attribute [local go_sem ↓] Go.wp_at_zero Go.wp_at_succ

/-- A flat memory as it is made. -/
def flZ : List Value := List.replicate 16 (.int .i64 0) ++ (List.replicate 256 (.int .u8 0) ++ [.int .i64 (-1), .slice none 0 0])
theorem RFl.new (w : World) : RFl (w.alloc (.cells flZ.toArray 79)) w.heap.size (.slice none 0 0) fl0 := by
  have hc : ∀ j, (w.alloc (.cells flZ.toArray 79)).cell? ⟨w.heap.size, j, none⟩ = flZ[j]? := fun j => by rw [World.cell?_alloc_new]; simp
  refine ⟨fun k hk => ?_, fun k i hk hi => ?_, ?_, ?_, SlO.nil _, by simp [Value.ownBlock], fun o => World.frozen?_alloc_new _ _ _ _⟩
  · rw [hc]
    unfold flZ
    rw [List.getElem?_append_left (by rw [List.length_replicate]; exact hk), List.getElem?_replicate, if_pos hk]
    rfl
  · rw [hc]
    unfold flZ
    rw [List.getElem?_append_right (by rw [List.length_replicate]; omega), List.length_replicate, List.getElem?_append_left (by rw [List.length_replicate]; omega), List.getElem?_replicate, if_pos (by omega)]
    rfl
  · rw [hc]; rfl
  · rw [hc]; rfl
theorem zeroF (w : World) : (zeroValue 74).run Tryz.prog w = .ok (.agg #[.pointer none, .pointer none, .pointer none, .pointer none]) w := by kernel_rfl
theorem wpList_runF {P : Program} {ops : Array Oper} {rest : List Oper} {op : Oper} {a a' : Act} {w w' : World} {Q : Exit → Act → World → Prop} (v : Value) (hg : op.guard = none) (hr : (execOp a.eval op).run P w = .ok (.value v) w') (ha : a.put op.dst v = a') (h : wpList P ops Q rest a' w') : wpList P ops Q (op :: rest) a w :=
  wpList_plain hg fun K hK => by unfold Oper.wp; rw [hr, Oper.upon_value, ha]; exact hK _ _ h
/-- The host of TopFlat, and its guests' flat memories. -/
structure TF (W w : World) (n k : Nat) (bh bp bf qf : Nat) : Prop where
  ex : ∃ G h F B V, HS W w n k bh bp bf G h F ∧ FA W w qf B V F ∧ ∀ j, Own bh bp bf G h j → ¬ AOwn qf B V F j
  up : Upd (fun _ => False) W w
set_option maxHeartbeats 8000000 in
theorem flat_walk (W : World) (n : Nat) (a : Option Addr) (len cap : Nat) (acts : Nat → Ac) (hn : 1 ≤ n) (hn2 : n ≤ 64) (hl : len ≤ 100) (hacts : ActsAt W a len acts) (hvs : ∀ k, k < len → 0 ≤ (acts k).v ∧ (acts k).v ≤ 255) :
    Calls Tryz.prog 5 #[.int .i64 n, .slice a len cap] W fun e w' => e = .returned (.bool true) ∧ Upd (fun _ => False) W w' := by
  have HA : Hid _ := hacts
  have HV : Hid _ := hvs
  have hz := zeroF
  clear hacts hvs
  go_enter Tryz.func5, Tryz.ntmps5
  go_wp2_with fail
  refine (hNew_yes _ n hn hn2).mono ?_
  rintro e w1 ⟨bh, bp, bf, rfl, hm1, z1, z2, z3, hu1⟩
  have H0 : Hid (TF W (w1.alloc (.cells #[.pointer none, .pointer none, .pointer none, .pointer none] 74)) n 0 bh bp bf w1.heap.size) := by
    have u2 := (Upd.refl (fun _ => False) w1).alloc (.cells #[.pointer none, .pointer none, .pointer none, .pointer none] 74)
    have hs := HS.start hm1 (Upd.refl _ W) z1 z2 z3 (fun _ => ⟨0, 0, 0⟩)
    refine ⟨⟨fun _ => ⟨0, 0, 0⟩, hs0 n, fun _ => none, fun _ => 0, fun _ => undef, hs.keep u2 (fun _ _ f => f), ⟨fun i hi => ?_, fun o => World.frozen?_alloc_new _ _ _ _, fun i f _ hf => (by cases hf), fun i j f g _ _ hf => (by cases hf), fun i f _ hf => (by cases hf), fun i f k _ hf => (by cases hf), hu1.size⟩, fun j hj hk => ?_⟩, hu1.trans u2 (fun _ _ f => f)⟩
    · rw [World.cell?_alloc_new]
      have : i = 0 ∨ i = 1 ∨ i = 2 ∨ i = 3 := by omega
      rcases this with rfl | rfl | rfl | rfl <;> rfl
    · have h1 := hs.m.ownLt hj
      rcases hk with e | ⟨i, f, _, hf, _⟩
      · omega
      · cases hf
  clear hm1 hu1 z1 z2 z3
  go_wp2_with fail
  refine (lightH_yes _ _ _ _ hl).mono ?_
  rintro e w3 ⟨rfl, rfl⟩
  go_wp2_with fail
  revert H0
  generalize w3.heap.size = qf
  generalize w3.alloc (.cells #[.pointer none, .pointer none, .pointer none, .pointer none] 74) = w2
  intro H0
  clear hz
  go_loopg [8] len (fun gk i w => ∃ k : Nat, k + gk = len ∧ i = .int .i64 k ∧ Hid (TF W w n k bh bp bf qf))
  case atStart => exact ⟨0, by omega, rfl, H0.out⟩
  case round =>
    clear H0
    obtain ⟨k, hk, rfl, HI⟩ := hrel
    have HK : Hid _ := hk
    clear hk
    by_cases hlt : k < len
    · obtain ⟨b, o, rfl, hx⟩ := HA.out k hlt
      have hvk := HV.out k hlt
      clear HA HV
      generalize acts k = x at hx hvk
      have hx' := hx.upd HI.out.up (fun f => f)
      obtain ⟨x1, x2, x3, x4, x5, x6⟩ := hx'
      have hB := BoxAt.new wr x
      have ua := (Upd.refl (fun _ => False) wr).alloc (.cells #[.string x.kind, .int .i64 x.n, .int .i64 x.a, .int .i64 x.b, .int .u8 x.v, .bool x.on] 52)
      obtain ⟨G, h, F, B, V, hs1, hfa, hdj⟩ := HI.out.ex
      have hqs : wr.heap.size < (wr.alloc (.cells #[.string x.kind, .int .i64 x.n, .int .i64 x.a, .int .i64 x.b, .int .u8 x.v, .bool x.on] 52)).heap.size := by simp
      have HQ : Hid (∀ j, Own bh bp bf G h j → j < wr.heap.size) := fun j hj => hs1.m.ownLt hj
      have HQA : Hid (∀ j, AOwn qf B V F j → j < wr.heap.size) := fun j hj => hfa.lt hj
      have hs1' := hs1.keep ua (fun _ _ f => f)
      have HFA1 : Hid (FA W (wr.alloc (.cells #[.string x.kind, .int .i64 x.n, .int .i64 x.a, .int .i64 x.b, .int .u8 x.v, .bool x.on] 52)) qf B V F) := hfa.upd ua (fun _ _ f => f)
      have HD1 : Hid _ := hs1'.did (by omega) x hvk.1 hvk.2
      have HS1 : Hid (HS W (wr.alloc (.cells #[.string x.kind, .int .i64 x.n, .int .i64 x.a, .int .i64 x.b, .int .u8 x.v, .bool x.on] 52)) n k bh bp bf G h F) := hs1'
      have HUW : Hid (Upd (fun _ => False) W (wr.alloc (.cells #[.string x.kind, .int .i64 x.n, .int .i64 x.a, .int .i64 x.b, .int .u8 x.v, .bool x.on] 52))) := HI.out.up.alloc _
      have HDJ : Hid _ := hdj
      have HOKF : Hid (∀ i f, F i = some f → FlOk f) := fun i f hf => by obtain ⟨t, ht⟩ := hs1'.hf; exact ht.flOk hf
      have HBX : Hid (BoxAt (wr.alloc (.cells #[.string x.kind, .int .i64 x.n, .int .i64 x.a, .int .i64 x.b, .int .u8 x.v, .bool x.on] 52)) wr.heap.size x) := hB
      clear hs1 hs1' hfa hdj ua hB HI hx
      go_wp2_with fail
      clear x1 x2 x3 x4 x5 x6
      revert hqs HQ HQA HFA1 HD1 HS1 HUW HBX
      generalize wr.alloc (.cells #[.string x.kind, .int .i64 x.n, .int .i64 x.a, .int .i64 x.b, .int .u8 x.v, .bool x.on] 52) = wb
      generalize wr.heap.size = q
      intro hqs HQ HQA HFA1 HD1 HS1 HUW HBX
      refine Calls.mono HD1.out ?_
      rintro e w4 ⟨rfl, hd4⟩
      have hu4 := hd4.2
      have nq : ¬ Own bh bp bf G h q := fun e => Nat.lt_irrefl _ (HQ.out q e)
      have hB4 := HBX.out.upd hu4 nq
      obtain ⟨G4, hs4, ho4⟩ := HS1.out.act HUW.out x hvk.1 hvk.2 hd4
      have HFA4 : Hid (FA W w4 qf B V F) := HFA1.out.upd hu4 (fun j h1 h2 => HDJ.out j h2 h1)
      have HUW4 : Hid (Upd (fun _ => False) W w4) := HUW.out.trans hu4 (fun i hi e => by have := HS1.out.new i e; omega)
      have HDJ4 : Hid (∀ j, Own bh bp bf G4 (hDid h x).2 j → ¬ AOwn qf B V F j) := fun j hj hk => by
        rcases ho4 j hj with e | e
        · exact HDJ.out j e hk
        · have := HQA.out j hk; omega
      have HS4 : Hid (HS W w4 n (k + 1) bh bp bf G4 (hDid h x).2 (fDid F n x).2) := hs4
      have HB4 : Hid (BoxAt w4 q x) := hB4
      have HQ4 : Hid (¬ AOwn qf B V F q) := fun e => Nat.lt_irrefl _ (HQA.out q e)
      have hsz4 := hu4.size
      have c0 := hB4.c0
      have HOW : Hid _ := own_any w4 x.kind
      clear hd4 hu4 hB4 hs4 ho4 nq HD1 HS1 HUW HBX HFA1 HDJ
      by_cases kadd : (x.kind.toList == [97, 100, 100]) = true
      · have hk : x.kind.toList = [97, 100, 100] := by simpa using kadd
        have trem : (x.kind.toList == [114, 101, 109, 111, 118, 101]) = false := by rw [hk]; rfl
        have HOF : Hid (ownB x.kind = false) := show ownB x.kind = false by unfold ownB; rw [hk]; rfl
        have HDA : Hid _ := did_add (F := F) (N := n) kadd
        clear hk
        rcases cAdd_cases F with ⟨j, hj4, hjn, hc⟩ | hc
        · have HD : Hid (fDid F n x = (((j : Int), 0), setAt F j (some fl0))) := show fDid F n x = _ by rw [HDA.out, hc]; simp only [if_true, Int.toNat_natCast]
          rw [HD.out] at HS4 ⊢
          simp only at HS4 ⊢
          have cj0 := HFA4.out.c j hj4
          rw [hjn] at cj0
          have cj : w4.cell? ⟨qf, j, none⟩ = some (.pointer none) := cj0
          clear cj0
          have b1 : decide ((j : Int) < 0) = false := by simp
          have b2 : decide (3 < (j : Int)) = false := by simp; omega
          have j0 : (0 : Int) ≤ (j : Int) := by omega
          have j1 : (j : Int) < 4 := by omega
          have hbq : ¬ q = qf := fun e => HQ4.out (Or.inl e)
          have HJN : Hid _ := hjn
          clear hc hjn HDA
          go_upto_region 15 with fail
          refine wp_region_lit ?_
          refine wpList_runF (w' := w4) (.int .i64 (j : Int)) rfl (by kernel_rfl) rfl ?_
          refine wpList_runF (w' := w4) (.agg flZ.toArray) rfl (by kernel_rfl) rfl ?_
          refine wpList_runF (w' := w4.alloc (.cells flZ.toArray 79)) (.pointer (some ⟨w4.heap.size, 0, none⟩)) rfl (by kernel_rfl) rfl ?_
          have u5 := (Upd.refl (fun _ => False) w4).alloc (.cells flZ.toArray 79)
          have hla := HFA4.out.laid (k := j) hj4 HJN.out u5 HUW4.out.size (RFl.new w4) (Nat.le_refl _)
          have HLA : Hid _ := hla
          have HS5 : Hid (HS W (w4.alloc (.cells flZ.toArray 79)) n (k + 1) bh bp bf G4 (hDid h x).2 (setAt F j (some fl0))) := HS4.out.keep u5 (fun _ _ f => f)
          have HU5 : Hid _ := HUW4.out.trans u5 (fun _ _ f => f)
          have cj5 := u5.cell cj (fun f => f)
          have z5 := (HFA4.out.upd u5 (fun _ _ f => f)).z j
          have c05 := u5.cell c0 (fun f => f)
          have HQF : Hid (¬ Own bh bp bf G4 (hDid h x).2 qf) := fun e => HDJ4.out qf e (Or.inl rfl)
          have HOL : Hid (∀ j, Own bh bp bf G4 (hDid h x).2 j → j < w4.heap.size) := fun j hj => HS4.out.m.ownLt hj
          clear u5 hla cj c0 HS4
          revert HLA HS5 HU5 cj5 z5 c05 HOL
          generalize w4.alloc (.cells flZ.toArray 79) = w5
          generalize w4.heap.size = qn
          intro HLA HS5 HU5 cj5 z5 c05 HOL
          have c06 : (w5.setCell ⟨qf, j, none⟩ (.pointer (some ⟨qn, 0, none⟩))).cell? ⟨q, 0, none⟩ = some (.string x.kind) := (Upd.one w5 qf j _).cell c05 hbq
          have HOW5 : Hid _ := own_any (w5.setCell ⟨qf, j, none⟩ (.pointer (some ⟨qn, 0, none⟩))) x.kind
          rw [HOF.out] at HOW5
          go_wp2_with fail
          refine Calls.mono HOW5.out ?_
          rintro e w6 ⟨rfl, hw6⟩
          subst hw6
          go_wp2_with fail
          go_roundg (len - (k + 1))
          case rel =>
            refine ⟨k + 1, by omega, by go_num, ⟨⟨G4, _, _, _, _, HS5.out.keep (Upd.one w5 qf j _) (fun i h1 h2 => HQF.out (by rw [← h2]; exact h1)), HLA.out.1, fun i h1 h2 => ?_⟩, HU5.out.trans (Upd.one w5 qf j _) (fun i hi e => by have := HFA4.out.q; omega)⟩⟩
            rcases HLA.out.2 i h2 with h | h
            · exact HDJ4.out i h1 h
            · have := HOL.out i h1; omega
          case measure => have := HK.out; omega
        · have HD : Hid (fDid F n x = ((0, 4), F)) := show fDid F n x = _ by rw [HDA.out, hc]; rfl
          have HNB : Hid ((fDid F n x).2 = F) := show _ = _ by rw [HD.out]
          rw [HOF.out] at HOW
          rw [HD.out]
          simp only
          clear hc HDA
          go_wp2_with fail
          refine Calls.mono HOW.out ?_
          rintro e w5 ⟨rfl, hw5⟩
          subst hw5
          go_wp2_with fail
          go_roundg (len - (k + 1))
          case rel => exact ⟨k + 1, by omega, by go_num, ⟨⟨G4, _, _, B, V, by rw [HNB.out] at HS4; exact HS4.out, HFA4.out, HDJ4.out⟩, HUW4.out⟩⟩
          case measure => have := HK.out; omega
      · have tadd : (x.kind.toList == [97, 100, 100]) = false := by simpa using kadd
        clear kadd
        by_cases krem : (x.kind.toList == [114, 101, 109, 111, 118, 101]) = true
        · have hk : x.kind.toList = [114, 101, 109, 111, 118, 101] := by simpa using krem
          have HOF : Hid (ownB x.kind = false) := show ownB x.kind = false by unfold ownB; rw [hk]; rfl
          have HDR : Hid _ := did_remove (F := F) (N := n) krem
          clear hk
          rcases fWho_cases F x.n with ⟨h0, hw⟩ | ⟨h3, hw⟩ | ⟨g, hg, hg4, hgn, hw⟩ | ⟨g, f, hg, hg4, hgf, hw⟩
          · have HD : Hid (fDid F n x = ((0, fWho F x.n), F)) := show fDid F n x = _ by rw [HDR.out, if_neg (by omega)]
            have HNB : Hid ((fDid F n x).2 = F) := show _ = _ by rw [HD.out]
            have bw : (fWho F x.n == 0) = false := by simp; omega
            rw [HOF.out] at HOW
            rw [HD.out]
            simp only
            generalize fWho F x.n = fw at *
            clear HDR hw HD h0
            go_wp2_with fail
            refine Calls.mono HOW.out ?_
            rintro e w5 ⟨rfl, hw5⟩
            subst hw5
            go_wp2_with fail
            go_roundg (len - (k + 1))
            case rel => exact ⟨k + 1, by omega, by go_num, ⟨⟨G4, _, _, B, V, by rw [HNB.out] at HS4; exact HS4.out, HFA4.out, HDJ4.out⟩, HUW4.out⟩⟩
            case measure => have := HK.out; omega
          · have HD : Hid (fDid F n x = ((0, fWho F x.n), F)) := show fDid F n x = _ by rw [HDR.out, if_neg (by omega)]
            have HNB : Hid ((fDid F n x).2 = F) := show _ = _ by rw [HD.out]
            have bw : (fWho F x.n == 0) = false := by simp; omega
            rw [HOF.out] at HOW
            rw [HD.out]
            simp only
            generalize fWho F x.n = fw at *
            clear HDR hw HD h3
            go_wp2_with fail
            refine Calls.mono HOW.out ?_
            rintro e w5 ⟨rfl, hw5⟩
            subst hw5
            go_wp2_with fail
            go_roundg (len - (k + 1))
            case rel => exact ⟨k + 1, by omega, by go_num, ⟨⟨G4, _, _, B, V, by rw [HNB.out] at HS4; exact HS4.out, HFA4.out, HDJ4.out⟩, HUW4.out⟩⟩
            case measure => have := HK.out; omega
          · have HD : Hid (fDid F n x = ((0, fWho F x.n), F)) := show fDid F n x = _ by rw [HDR.out, if_neg (by omega)]
            have HNB : Hid ((fDid F n x).2 = F) := show _ = _ by rw [HD.out]
            have bw : (fWho F x.n == 0) = false := by simp; omega
            rw [HOF.out] at HOW
            rw [HD.out]
            simp only
            generalize fWho F x.n = fw at *
            clear HDR hw HD hg hgn hg4
            go_wp2_with fail
            refine Calls.mono HOW.out ?_
            rintro e w5 ⟨rfl, hw5⟩
            subst hw5
            go_wp2_with fail
            go_roundg (len - (k + 1))
            case rel => exact ⟨k + 1, by omega, by go_num, ⟨⟨G4, _, _, B, V, by rw [HNB.out] at HS4; exact HS4.out, HFA4.out, HDJ4.out⟩, HUW4.out⟩⟩
            case measure => have := HK.out; omega
          · have HD : Hid (fDid F n x = ((0, 0), setAt F g none)) := show fDid F n x = _ by rw [HDR.out, hw, hg, Int.toNat_natCast]; rfl
            rw [HD.out] at HS4 ⊢
            simp only at HS4 ⊢
            have c1 := HB4.out.c1
            rw [hg] at c1
            have cg := HFA4.out.c g hg4
            have zg := HFA4.out.z g
            have hla := HFA4.out.gone hg4
            have HLA : Hid _ := hla
            have hbq : ¬ q = qf := fun e => HQ4.out (Or.inl e)
            have c06 : (w4.setCell ⟨qf, g, none⟩ (.pointer none)).cell? ⟨q, 0, none⟩ = some (.string x.kind) := (Upd.one w4 qf g _).cell c0 hbq
            have HOW5 : Hid _ := own_any (w4.setCell ⟨qf, g, none⟩ (.pointer none)) x.kind
            rw [HOF.out] at HOW5
            have g0 : (0 : Int) ≤ (g : Int) := by omega
            have g1 : (g : Int) < 4 := by omega
            have HQF : Hid (¬ Own bh bp bf G4 (hDid h x).2 qf) := fun e => HDJ4.out qf e (Or.inl rfl)
            clear HDR hla hw hgf hg
            go_wp2_with fail
            refine Calls.mono HOW5.out ?_
            rintro e w6 ⟨rfl, hw6⟩
            subst hw6
            go_wp2_with fail
            go_roundg (len - (k + 1))
            case rel => exact ⟨k + 1, by omega, by go_num, ⟨⟨G4, _, _, _, _, HS4.out.keep (Upd.one w4 qf g _) (fun i h1 h2 => HQF.out (by rw [← h2]; exact h1)), HLA.out.1, fun i h1 h2 => HDJ4.out i h1 (HLA.out.2 i h2)⟩, HUW4.out.trans (Upd.one w4 qf g _) (fun i hi e => by have := HFA4.out.q; omega)⟩⟩
            case measure => have := HK.out; omega
        · have trem : (x.kind.toList == [114, 101, 109, 111, 118, 101]) = false := by simpa using krem
          clear krem
          cases ho : ownB x.kind with
          | false =>
            have HOT : Hid ((fDid F n x).2 = F) := other tadd trem ho
            rw [ho] at HOW
            generalize (fDid F n x).1.1 = r1
            generalize (fDid F n x).1.2 = r2
            clear ho
            go_wp2_with fail
            refine Calls.mono HOW.out ?_
            rintro e w5 ⟨rfl, hw5⟩
            subst hw5
            go_wp2_with fail
            go_roundg (len - (k + 1))
            case rel => exact ⟨k + 1, by omega, by go_num, ⟨⟨G4, _, _, B, V, by rw [HOT.out] at HS4; exact HS4.out, HFA4.out, HDJ4.out⟩, HUW4.out⟩⟩
            case measure => have := HK.out; omega
          | true =>
            rw [ho] at HOW
            have HOO : Hid (ownB x.kind = true) := ho
            clear ho
            have c1 := HB4.out.c1
            rcases fWho_cases F x.n with ⟨h0, hw⟩ | ⟨h3, hw⟩ | ⟨g, hg, hg4, hgn, hw⟩ | ⟨g, f, hg, hg4, hgf, hw⟩
            · have HNB : Hid ((fDid F n x).2 = F) := nobody hw HOO.out
              have b1 : decide (x.n < 0) = true := by simp; exact h0
              clear h0 hw
              generalize (fDid F n x).1.1 = r1
              generalize (fDid F n x).1.2 = r2
              go_wp2_with fail
              refine Calls.mono HOW.out ?_
              rintro e w5 ⟨rfl, hw5⟩
              subst hw5
              go_wp2_with fail
              go_roundg (len - (k + 1))
              case rel => exact ⟨k + 1, by omega, by go_num, ⟨⟨G4, _, _, B, V, by rw [HNB.out] at HS4; exact HS4.out, HFA4.out, HDJ4.out⟩, HUW4.out⟩⟩
              case measure => have := HK.out; omega
            · have HNB : Hid ((fDid F n x).2 = F) := nobody hw HOO.out
              have b1 : decide (x.n < 0) = false := by simp; omega
              have b2 : decide (3 < x.n) = true := by simp; exact h3
              clear h3 hw
              generalize (fDid F n x).1.1 = r1
              generalize (fDid F n x).1.2 = r2
              go_wp2_with fail
              refine Calls.mono HOW.out ?_
              rintro e w5 ⟨rfl, hw5⟩
              subst hw5
              go_wp2_with fail
              go_roundg (len - (k + 1))
              case rel => exact ⟨k + 1, by omega, by go_num, ⟨⟨G4, _, _, B, V, by rw [HNB.out] at HS4; exact HS4.out, HFA4.out, HDJ4.out⟩, HUW4.out⟩⟩
              case measure => have := HK.out; omega
            · have HNB : Hid ((fDid F n x).2 = F) := nobody hw HOO.out
              rw [hg] at c1
              have cg0 := HFA4.out.c g hg4
              rw [hgn] at cg0
              have cg : w4.cell? ⟨qf, g, none⟩ = some (.pointer none) := cg0
              clear cg0
              have b1 : decide ((g : Int) < 0) = false := by simp
              have b2 : decide (3 < (g : Int)) = false := by simp; omega
              have g0 : (0 : Int) ≤ (g : Int) := by omega
              have g1 : (g : Int) < 4 := by omega
              clear hg hgn hw
              generalize (fDid F n x).1.1 = r1
              generalize (fDid F n x).1.2 = r2
              go_wp2_with fail
              refine Calls.mono HOW.out ?_
              rintro e w5 ⟨rfl, hw5⟩
              subst hw5
              go_wp2_with fail
              go_roundg (len - (k + 1))
              case rel => exact ⟨k + 1, by omega, by go_num, ⟨⟨G4, _, _, B, V, by rw [HNB.out] at HS4; exact HS4.out, HFA4.out, HDJ4.out⟩, HUW4.out⟩⟩
              case measure => have := HK.out; omega
            · have mi := mine (N := n) hgf hg4 hg HOO.out
              have ud := (Upd.refl (fun _ => False) w4).drew
              have HFAd : Hid (FA W w4.drew qf B V F) := HFA4.out.upd ud (fun _ _ f => f)
              have hfl := flat_any (HFAd.out.fl g f hg4 hgf) (HOKF.out g f hgf) x (fDid F n x).1.1 (fDid F n x).1.2 mi.hb mi.hg
              rw [mi.ans] at hfl
              have hnx := mi.nx
              have hne := mi.ne
              clear mi
              generalize (flR f x (fDid F n x).1.1 (fDid F n x).1.2).2 = f' at *
              rw [hg] at hfl
              have HFL : Hid _ := hfl
              have HNX : Hid _ := hnx
              rw [hg] at c1
              have cg0 := HFA4.out.c g hg4
              rw [hgf] at cg0
              have cg : w4.cell? ⟨qf, g, none⟩ = some (.pointer (some ⟨B g, 0, none⟩)) := cg0
              clear cg0
              have c2 := HB4.out.c2
              have c3 := HB4.out.c3
              have c4 := HB4.out.c4
              have c5 := HB4.out.c5
              have HXN : Hid _ := hg
              have HGF : Hid _ := hgf
              clear hfl hnx hgf hw
              generalize (fDid F n x).1.1 = r1 at *
              generalize (fDid F n x).1.2 = r2 at *
              have e1 : (r1 != r1) = false := by simp
              have e2 : (r2 != r2) = false := by simp
              have e3 : (r2 == 3) = false := by simp [hne]
              have b1 : decide ((g : Int) < 0) = false := by simp
              have b2 : decide (3 < (g : Int)) = false := by simp; omega
              have g0 : (0 : Int) ≤ (g : Int) := by omega
              have g1 : (g : Int) < 4 := by omega
              clear hne
              go_wp2_with fail
              refine Calls.mono HOW.out ?_
              rintro e w5 ⟨rfl, hw5⟩
              subst hw5
              have sA : (w5.cell? ⟨q, 0, none⟩ = some (.string x.kind) ∧ w5.cell? ⟨q, 1, none⟩ = some (.int .i64 (g : Int)) ∧ w5.cell? ⟨q, 2, none⟩ = some (.int .i64 x.a) ∧ w5.cell? ⟨q, 3, none⟩ = some (.int .i64 x.b) ∧ w5.cell? ⟨q, 4, none⟩ = some (.int .u8 x.v) ∧ w5.cell? ⟨q, 5, none⟩ = some (.bool x.on) ∧ w5.cell? ⟨qf, g, none⟩ = some (.pointer (some ⟨B g, 0, none⟩))) := ⟨c0, c1, c2, c3, c4, c5, cg⟩
              have nqo : ¬ FOwn (B g) (V g) q := fun e => HQ4.out (Or.inr ⟨g, f, hg4, HGF.out, e⟩)
              have nqf : ¬ FOwn (B g) (V g) qf := HFA4.out.nq g f hg4 HGF.out
              have SC : Hid (∀ w6, Upd (FOwn (B g) (V g)) w5.drew w6 → (w6.cell? ⟨q, 0, none⟩ = some (.string x.kind) ∧ w6.cell? ⟨q, 1, none⟩ = some (.int .i64 (g : Int)) ∧ w6.cell? ⟨q, 2, none⟩ = some (.int .i64 x.a) ∧ w6.cell? ⟨q, 3, none⟩ = some (.int .i64 x.b) ∧ w6.cell? ⟨q, 4, none⟩ = some (.int .u8 x.v) ∧ w6.cell? ⟨q, 5, none⟩ = some (.bool x.on) ∧ w6.cell? ⟨qf, g, none⟩ = some (.pointer (some ⟨B g, 0, none⟩)))) := fun w6 u => ⟨u.cell (show w5.drew.cell? _ = _ from c0) nqo, u.cell (show w5.drew.cell? _ = _ from c1) nqo, u.cell (show w5.drew.cell? _ = _ from c2) nqo, u.cell (show w5.drew.cell? _ = _ from c3) nqo, u.cell (show w5.drew.cell? _ = _ from c4) nqo, u.cell (show w5.drew.cell? _ = _ from c5) nqo, u.cell (show w5.drew.cell? _ = _ from cg) nqf⟩
              go_wp2_with fail
              go_region_held3 (fun w' => (w'.cell? ⟨q, 0, none⟩ = some (.string x.kind) ∧ w'.cell? ⟨q, 1, none⟩ = some (.int .i64 (g : Int)) ∧ w'.cell? ⟨q, 2, none⟩ = some (.int .i64 x.a) ∧ w'.cell? ⟨q, 3, none⟩ = some (.int .i64 x.b) ∧ w'.cell? ⟨q, 4, none⟩ = some (.int .u8 x.v) ∧ w'.cell? ⟨q, 5, none⟩ = some (.bool x.on) ∧ w'.cell? ⟨qf, g, none⟩ = some (.pointer (some ⟨B g, 0, none⟩)))) (first | exact sA | exact sC)
                (first | (go_at_call 33; refine Calls.mono HFL.out ?_; rintro e w6 ⟨rfl, hp6⟩; have sC := SC.out w6 hp6.up))
              obtain ⟨V6, hfa6, hao6⟩ := HFAd.out.step hg4 HGF.out HUW4.out.size hp6
              have HFA6 : Hid (FA W w6 qf B V6 (setAt F g (some f'))) := hfa6
              have HS6 : Hid (HS W w6 n (k + 1) bh bp bf G4 (hDid h x).2 (fDid F n x).2) := (HS4.out.keep ((Upd.refl (fun _ => False) w5).drew) (fun _ _ f => f)).keep hp6.up (fun i h1 h2 => HDJ4.out i h1 (Or.inr ⟨g, f, hg4, HGF.out, h2⟩))
              have HU6 : Hid (Upd (fun _ => False) W w6) := HUW4.out.drew.trans hp6.up (fun i hi e => by have := HFA4.out.new g f i hg4 HGF.out e; omega)
              have HDJ6 : Hid (∀ j, Own bh bp bf G4 (hDid h x).2 j → ¬ AOwn qf B V6 (setAt F g (some f')) j) := fun j h1 h2 => by
                rcases hao6 j h2 with h | h
                · exact HDJ4.out j h1 h
                · have := HS4.out.m.ownLt h1; have e : w5.drew.heap.size = w5.heap.size := rfl; omega
              clear hp6 hfa6 hao6 sA sC
              go_wp2_with fail
              go_roundg (len - (k + 1))
              case rel => exact ⟨k + 1, by omega, by go_num, ⟨⟨G4, _, _, B, V6, by rw [HNX.out] at HS6; exact HS6.out, HFA6.out, HDJ6.out⟩, HU6.out⟩⟩
              case measure => have := HK.out; omega
    · go_wp2_with fail
      go_ret
      exact ⟨rfl, HI.out.up⟩
end Go.Proofs.YtadpibcgjgcjhaaGreat
