/- The law's hosted: an act on a host, held against the document's answer. -/
import Derived.Test.YtadpibcgjgcjhaaGreatPart26
namespace Go.Proofs.YtadpibcgjgcjhaaGreat
open Go.ChangeShapes Go.WideShapes Go.ChangeAt Go.RowKit
set_option maxRecDepth 100000
attribute [local go_sem ↓] Go.wp_at_zero Go.wp_at_succ
variable {W w w1 w2 w' : World} {bh bp bf rh rm base : Nat} {G G' : Nat → G3} {bx : Nat → Nat} {v : Nat → Value} {h h' : Hs} {x : Gs} {n k : Nat} {F : Nat → Option Fl}

/-- Whose blocks are among them, whose guests are too. -/
theorem g_of_own {h1 : Hs} (H : ∀ (bh bp bf : Nat) (G : Nat → G3) (j : Nat), Own bh bp bf G h1 j → Own bh bp bf G h j) : ∀ i x, h1.g i = some x → ∃ y, h.g i = some y := fun i x hx => by
  have := H 0 0 0 (fun i => ⟨i + 1, i + 1, i + 1⟩) (i + 1) (Or.inr (Or.inr (Or.inr ⟨i, x, hx, Or.inl rfl⟩)))
  rcases this with e | e | e | ⟨i', y, hy, e⟩
  · omega
  · omega
  · omega
  · have : i' = i := by rcases e with e | e | e <;> simp only at e <;> omega
    subst this
    exact ⟨y, hy⟩
theorem ft_sub {h1 : Hs} (H : ∀ i x, h1.g i = some x → ∃ y, h.g i = some y) {j : Nat} (hj : RFt rh rm bx h1 j) : RFt rh rm bx h j := by
  rcases hj with e | e | ⟨i, x, hx, e⟩
  · exact Or.inl e
  · exact Or.inr (Or.inl e)
  · obtain ⟨y, hy⟩ := H i x hx
    exact Or.inr (Or.inr ⟨i, y, hy, e⟩)
/-- The program's act. -/
theorem HB.runD {f : Nat} {av : Array Value} {P : Ending → Prop} (b : HB W w n k bh bp bf rh rm base G h F bx v) (y : Ac) (v0 : 0 ≤ y.v) (v1 : y.v ≤ 255) {r : (Int × Int) × Hs} (hd : hDid h y = r) (hc : Calls Tryz.prog f av w fun e w' => P e ∧ DPost w bh bp bf G h r w') :
    Calls Tryz.prog f av w fun e w1 => P e ∧ (∃ bxT, HX W w w1 n k bh bp bf rh rm base h r.2 (fDid F n y).2 bxT v ∧ (∀ j, RFt rh rm bxT h j → RFt rh rm bx h j) ∧ ∀ j, j < 4 → bxT j = bx j) ∧ Upd (Own bh bp bf G h) w w1 := by
  refine hc.mono ?_
  rintro e w1 ⟨he, hp⟩
  subst hd
  exact ⟨he, ⟨_, b.mid y v0 v1 hp, fun j hj => (ft_tag b.inv).1 hj, fun j hj => tagB_low hj⟩, hp.2⟩
theorem HB.runM {f : Nat} {av : Array Value} {r : Int × Hs} (b : HB W w n k bh bp bf rh rm base G h F bx v) (y : Ac) (v0 : 0 ≤ y.v) (v1 : y.v ≤ 255) (hd : hDid h y = ((0, r.1), r.2)) (ho : ∀ j, Own bh bp bf G r.2 j → Own bh bp bf G h j) (hc : Calls Tryz.prog f av w (MPost w bh bp bf G h r)) :
    Calls Tryz.prog f av w fun e w1 => e = .returned (errV r.1) ∧ (∃ bxT, HX W w w1 n k bh bp bf rh rm base h r.2 (fDid F n y).2 bxT v ∧ (∀ j, RFt rh rm bxT h j → RFt rh rm bx h j) ∧ ∀ j, j < 4 → bxT j = bx j) ∧ Upd (Own bh bp bf G h) w w1 :=
  b.runD (P := fun e => e = .returned (errV r.1)) y v0 v1 hd (hc.mono fun _ _ ⟨he, hm, hu⟩ => ⟨he, dpost_of (Upd.refl _ _) hm ho hu⟩)
/-- The document's. -/
theorem HX.runR {f : Nat} {av : Array Value} {r : Int × Hs} {F1 : Nat → Option Fl} (b : HX W w w1 n k bh bp bf rh rm base h r.2 F1 bx v) (hg : ∀ i x, r.2.g i = some x → ∃ y, h.g i = some y) (hc : Calls Tryz.prog f av w1 (HPost w1 rh rm base bx h r)) :
    Calls Tryz.prog f av w1 fun e w2 => e = .returned (.int .i64 r.1) ∧ HBs W w2 n (k + 1) bh bp bf rh rm base ∧ Upd (RFt rh rm bx h) w1 w2 := by
  refine hc.mono ?_
  rintro e w2 ⟨he, ⟨v2, hr⟩, hu⟩
  obtain ⟨G1, hb⟩ := b.fin hr hu (fun _ _ => rfl) (fun j hj => Or.inl (ft_sub hg hj))
  exact ⟨he, ⟨_, _, _, _, _, hb⟩, hu⟩
theorem HX.runS {f : Nat} {av : Array Value} {r : (Bool × Int) × Hs} {F1 : Nat → Option Fl} (b : HX W w w1 n k bh bp bf rh rm base h r.2 F1 bx v) (hg : ∀ i x, r.2.g i = some x → ∃ y, h.g i = some y) (hc : Calls Tryz.prog f av w1 (SPost w1 rh rm base bx h r)) :
    Calls Tryz.prog f av w1 fun e w2 => e = .returned (.tuple #[.bool r.1.1, .int .i64 r.1.2]) ∧ HBs W w2 n (k + 1) bh bp bf rh rm base ∧ Upd (RFt rh rm bx h) w1 w2 := by
  refine hc.mono ?_
  rintro e w2 ⟨he, ⟨v2, hr⟩, hu⟩
  obtain ⟨G1, hb⟩ := b.fin hr hu (fun _ _ => rfl) (fun j hj => Or.inl (ft_sub hg hj))
  exact ⟨he, ⟨_, _, _, _, _, hb⟩, hu⟩
theorem HX.same {h1 : Hs} {F1 : Nat → Option Fl} (b : HX W w w1 n k bh bp bf rh rm base h h1 F1 bx v) (u : Upd (fun _ => False) w1 w2) : HX W w w2 n k bh bp bf rh rm base h h1 F1 bx v := by
  obtain ⟨G1, h1, h2, h3⟩ := b.ex
  exact ⟨⟨G1, h1.keep u (fun _ _ f => f), h2, h3⟩, b.r.same u, b.new, b.up.trans u (fun _ _ f => f)⟩
theorem HX.runG {f : Nat} {av : Array Value} {res : Int × Pl × Gs} {F1 : Nat → Option Fl} {j : Nat} (b : HX W w w1 n k bh bp bf rh rm base h (h.put j res.2) F1 bx v) (hi : HInv h (k : Int)) (hk : k ≤ 1000) (hx : h.g j = some x) (hc : ∀ v, RPre w1 (bx j) rm base v h.s x (oth h j) → Calls Tryz.prog f av w1 (RPost w1 (bx j) rm base v res)) :
    Calls Tryz.prog f av w1 fun e w2 => e = .returned (.int .i64 res.1) ∧ HBs W w2 n (k + 1) bh bp bf rh rm base ∧ Upd (RFt rh rm bx h) w1 w2 := by
  refine (RHo.go b.r hi (by omega) hx hc).mono ?_
  rintro e w2 ⟨he, ⟨v2, hr⟩, hu⟩
  have hu' : Upd (RFt rh rm bx h) w1 w2 := hu.wide (fun i e => by
    rcases e with e | e
    · exact Or.inr (Or.inl e)
    · exact Or.inr (Or.inr ⟨j, x, hx, e⟩))
  obtain ⟨G1, hb⟩ := b.fin hr hu' (fun _ _ => rfl) (fun i hi => Or.inl (ft_sub (fun i z hz => by
    by_cases e : i = j
    · subst e; exact ⟨x, hx⟩
    · exact ⟨z, by rw [← hz]; exact (setAt_other _ _ _ _ e).symm⟩) hi))
  exact ⟨he, ⟨_, _, _, _, _, hb⟩, hu'⟩
theorem HX.runL {F1 : Nat → Option Fl} {j : Nat} {addr : Int} (b : HX W w w1 n k bh bp bf rh rm base h (h.put j (gLoad h.s x addr).2) F1 bx v) (hi : HInv h (k : Int)) (hk : k ≤ 1000) (hx : h.g j = some x) :
    Calls Tryz.prog 49 #[.pointer (some ⟨bx j, 0, none⟩), .int .i64 addr] w1 fun e w2 => e = .returned (.tuple #[.int .u8 (gLoad h.s x addr).1.1, .int .i64 (gLoad h.s x addr).1.2]) ∧ HBs W w2 n (k + 1) bh bp bf rh rm base ∧ Upd (RFt rh rm bx h) w1 w2 := by
  refine ((b.r.pre hi (by omega) hx).load addr).mono ?_
  rintro e w2 ⟨he, hr, ⟨v2, hg, hf⟩, hu⟩
  have hu' : Upd (RFt rh rm bx h) w1 w2 := hu.wide (fun i e => by
    rcases e with e | e
    · exact Or.inr (Or.inl e)
    · exact Or.inr (Or.inr ⟨j, x, hx, e⟩))
  obtain ⟨G1, hb⟩ := b.fin (b.r.act hx hr hg hf hu) hu' (fun _ _ => rfl) (fun i hi => Or.inl (ft_sub (fun i z hz => by
    by_cases e : i = j
    · subst e; exact ⟨x, hx⟩
    · exact ⟨z, by rw [← hz]; exact (setAt_other _ _ _ _ e).symm⟩) hi))
  exact ⟨he, ⟨_, _, _, _, _, hb⟩, hu'⟩
theorem HB.more (b : HB W w n k bh bp bf rh rm base G h F bx v) : HBs W w n (k + 1) bh bp bf rh rm base := ⟨G, h, F, bx, v, b.s.more, b.r, b.dj, b.nv, b.new, b.up⟩
theorem HX.stay {F1 : Nat → Option Fl} (b : HX W w w1 n k bh bp bf rh rm base h h F1 bx v) : HBs W w1 n (k + 1) bh bp bf rh rm base := by
  obtain ⟨G1, hb⟩ := b.fin b.r (Upd.refl _ _) (fun _ _ => rfl) (fun j hj => Or.inl hj)
  exact ⟨_, _, _, _, _, hb⟩
theorem HX.runA {F1 : Nat → Option Fl} (b : HX W w w1 n k bh bp bf rh rm base h (hAdd h).2 F1 bx v) :
    Calls Tryz.prog 84 #[.pointer (some ⟨rh, 0, none⟩)] w1 fun e w2 => e = .returned (.tuple #[.int .i64 (hAdd h).1.1, .int .i64 (hAdd h).1.2]) ∧ HBs W w2 n (k + 1) bh bp bf rh rm base := by
  refine (rAdd_any b.r).mono ?_
  rintro e w2 ⟨he, ⟨bx2, v2, hr, e1, e2, e3⟩, hu⟩
  obtain ⟨G1, hb⟩ := b.fin hr (hu.wide (fun _ e => Or.inl e)) e2 (fun j hj => by
    rcases hj with e | e | ⟨i, x, hx, e⟩
    · exact Or.inl (Or.inl e)
    · exact Or.inl (Or.inr (Or.inl e))
    · cases hy : h.g i with
      | some y => rw [e1 i y hy] at e; exact Or.inl (Or.inr (Or.inr ⟨i, y, hy, e⟩))
      | none => exact Or.inr (by have := e3 i x hy hx; omega))
  exact ⟨he, ⟨_, _, _, _, _, hb⟩⟩
theorem give_c (m : HM w bh bp bf G h) {W' : Int} (hi : HInv h W') (n p : Int) : Calls Tryz.prog 89 #[.pointer (some ⟨bh, 0, none⟩), .int .i64 n, .int .i64 p] w (MPost w bh bp bf G h (hGive h n p false)) := by
  rw [give_false]
  exact hGive_m m hi n p
theorem code_of {t : Nat → Nat → Int} {W' : Int} (hf : HF h t F W') (hW : 0 ≤ W') (x : Ac) {r : Int × Hs} (hd : hDid h x = ((0, r.1), r.2)) : 0 ≤ r.1 := by
  have := hDid_code hf x hW
  rw [hd] at this
  exact this
set_option maxHeartbeats 8000000 in
theorem hosted_any (b : HB W w n k bh bp bf rh rm base G h F bx v) (hk : k ≤ 1000) (x : Ac) (v0 : 0 ≤ x.v) (v1 : x.v ≤ 255) :
    Calls Tryz.prog 29 #[.pointer (some ⟨bh, 0, none⟩), .pointer (some ⟨rh, 0, none⟩), .agg #[.string x.kind, .int .i64 x.n, .int .i64 x.a, .int .i64 x.b, .int .u8 x.v, .bool x.on]] w
      fun e w' => e = .returned (.bool true) ∧ HBs W w' n (k + 1) bh bp bf rh rm base := by
  have HOW : Hid (∀ j, Own bh bp bf G h j → j < w.heap.size) := fun j hj => b.s.m.ownLt hj
  have HFT : Hid (∀ j, RFt rh rm bx h j → j < w.heap.size) := fun j hj => b.r.ftLt hj
  obtain ⟨t, hf⟩ := b.s.hf
  have HFB : Hid (HF h t F (k : Int)) := hf
  go_enter Tryz.func29, Tryz.ntmps29
  go_upto_block 0 with fail
  have hB := BoxAt.new w x
  have HB1 : Hid (HB W (w.alloc (.cells #[.string x.kind, .int .i64 x.n, .int .i64 x.a, .int .i64 x.b, .int .u8 x.v, .bool x.on] 52)) n k bh bp bf rh rm base G h F bx v) := b.same ((Upd.refl (fun _ => False) w).alloc _)
  clear b hf
  revert hB HOW HFT HB1
  generalize w.alloc (.cells #[.string x.kind, .int .i64 x.n, .int .i64 x.a, .int .i64 x.b, .int .u8 x.v, .bool x.on] 52) = W1
  generalize w.heap.size = q
  intro HOW HFT hB HB1
  have NQ : Hid (¬ Own bh bp bf G h q) := fun e => Nat.lt_irrefl _ (HOW.out q e)
  have NR : Hid (¬ RFt rh rm bx h q) := fun e => Nat.lt_irrefl _ (HFT.out q e)
  have HBd : Hid (HB W W1.drew n k bh bp bf rh rm base G h F bx v) := HB1.out.same (Upd.refl _ _).drew
  clear HOW HFT
  by_cases kadd : (x.kind.toList == [97, 100, 100]) = true
  · have hkk : x.kind.toList = [97, 100, 100] := by simpa using kadd
    have HD : Hid (hDid h x = hAdd h) := show hDid h x = _ by unfold hDid; simp only [kadd, if_true]
    have HPC : Hid _ := HB1.out.runD (P := fun e => e = .returned (.tuple #[.int .i64 (hAdd h).1.1, errV (hAdd h).1.2])) x v0 v1 HD.out ((hAdd_m HB1.out.s.m).mono fun _ _ ⟨he, hm, hu⟩ => ⟨he, hm, hu⟩)
    have te : 0 ≤ (hAdd h).1.2 := (HFB.out.hadd (by omega)).2.2
    have t1 : ((hAdd h).1.1 == (hAdd h).1.1) = true := by simp
    clear hkk
    go_wp2_with fail
    refine Calls.mono HPC.out ?_
    rintro e w4 ⟨rfl, ⟨bx4, hx4, hft4, hbl4⟩, hu4⟩
    have HX4 : Hid _ := hx4.runA
    clear hx4 hft4 hbl4 hu4
    go_wp2_with fail
    refine Calls.mono HX4.out ?_
    rintro e w5 ⟨rfl, hb5⟩
    have HB5 : Hid _ := hb5
    clear hb5
    go_wp2_with fail
    refine (sameE _ _ te).mono ?_
    rintro e w6 ⟨rfl, rfl⟩
    go_wp2_with fail
    go_ret
    exact ⟨rfl, HB5.out⟩
  · have tadd : (x.kind.toList == [97, 100, 100]) = false := by simpa using kadd
    clear kadd
    by_cases kremove : (x.kind.toList == [114, 101, 109, 111, 118, 101]) = true
    · have hkk : x.kind.toList = [114, 101, 109, 111, 118, 101] := by simpa using kremove
      have tadd : (x.kind.toList == [97, 100, 100]) = false := by rw [hkk]; rfl
      have HD : Hid (hDid h x = ((0, (hRemove h x.n).1), (hRemove h x.n).2)) := show hDid h x = _ by unfold hDid; simp only [tadd, kremove, Bool.false_eq_true, if_false, if_true]
      have c1 := hB.c1
      have te : 0 ≤ (hRemove h x.n).1 := code_of HFB.out (by omega) x HD.out
      have HPC : Hid _ := HBd.out.runM x v0 v1 HD.out (fun j hj => own_remove hj) (hRemove_m HBd.out.s.m HBd.out.inv x.n)
      have HGO : Hid _ := g_of_own (h1 := (hRemove h x.n).2) (fun _ _ _ _ _ hj => own_remove hj)
      clear hkk
      go_wp2_with fail
      go_region_held3 (fun w' => w'.cell? ⟨q, 1, none⟩ = some (.int .i64 x.n)) (first | exact c1 | exact h4c | exact h5c)
        (first
          | (go_at_call 26; refine Calls.mono HPC.out ?_; rintro e w4 ⟨rfl, ⟨bx4, hx4, hft4, hbl4⟩, hu4⟩; have h4c : w4.cell? ⟨q, 1, none⟩ = some (.int .i64 x.n) := hu4.cell (show W1.drew.cell? _ = _ from c1) NQ.out; have nr4 : ¬ RFt rh rm bx4 h q := fun e => NR.out (hft4 q e))
          | (go_at_call 85; refine (hx4.runR HGO.out (rRemove_any hx4.r HBd.out.inv (by omega) x.n)).mono ?_; rintro e w5 ⟨rfl, hb5, hu5⟩; have h5c : w5.cell? ⟨q, 1, none⟩ = some (.int .i64 x.n) := hu5.cell h4c nr4)
          | (go_at_call 11; refine (sameE _ _ te).mono ?_; rintro e w6 ⟨rfl, rfl⟩))
      go_wp2_with fail
      go_ret
      exact ⟨rfl, hb5⟩
    · have tremove : (x.kind.toList == [114, 101, 109, 111, 118, 101]) = false := by simpa using kremove
      clear kremove
      by_cases kplug : (x.kind.toList == [112, 108, 117, 103]) = true
      · have hkk : x.kind.toList = [112, 108, 117, 103] := by simpa using kplug
        have tadd : (x.kind.toList == [97, 100, 100]) = false := by rw [hkk]; rfl
        have tremove : (x.kind.toList == [114, 101, 109, 111, 118, 101]) = false := by rw [hkk]; rfl
        have HD : Hid (hDid h x = ((0, (hPlug h x.n x.a).1), (hPlug h x.n x.a).2)) := show hDid h x = _ by unfold hDid; simp only [tadd, tremove, kplug, Bool.false_eq_true, if_false, if_true]
        have c1 := hB.c1
        have c2 := hB.c2
        have te : 0 ≤ (hPlug h x.n x.a).1 := code_of HFB.out (by omega) x HD.out
        have HPC : Hid _ := HBd.out.runM x v0 v1 HD.out (fun j hj => own_plug hj) (hPlug_m HBd.out.s.m HBd.out.inv HFB.out.blk x.n x.a)
        have HGO : Hid _ := g_of_own (h1 := (hPlug h x.n x.a).2) (fun _ _ _ _ _ hj => own_plug hj)
        clear hkk
        go_wp2_with fail
        go_region_held3 (fun w' => w'.cell? ⟨q, 1, none⟩ = some (.int .i64 x.n) ∧ w'.cell? ⟨q, 2, none⟩ = some (.int .i64 x.a)) (first | exact ⟨c1, c2⟩ | exact h4c | exact h5c)
          (first
            | (go_at_call 79; refine Calls.mono HPC.out ?_; rintro e w4 ⟨rfl, ⟨bx4, hx4, hft4, hbl4⟩, hu4⟩; have h4c : w4.cell? ⟨q, 1, none⟩ = some (.int .i64 x.n) ∧ w4.cell? ⟨q, 2, none⟩ = some (.int .i64 x.a) := ⟨hu4.cell (show W1.drew.cell? _ = _ from c1) NQ.out, hu4.cell (show W1.drew.cell? _ = _ from c2) NQ.out⟩; have nr4 : ¬ RFt rh rm bx4 h q := fun e => NR.out (hft4 q e))
            | (go_at_call 86; refine (hx4.runR HGO.out (rPlug_host hx4.r HBd.out.inv (by omega) x.n x.a)).mono ?_; rintro e w5 ⟨rfl, hb5, hu5⟩; have h5c : w5.cell? ⟨q, 1, none⟩ = some (.int .i64 x.n) ∧ w5.cell? ⟨q, 2, none⟩ = some (.int .i64 x.a) := ⟨hu5.cell h4c.1 nr4, hu5.cell h4c.2 nr4⟩)
            | (go_at_call 11; refine (sameE _ _ te).mono ?_; rintro e w6 ⟨rfl, rfl⟩))
        go_wp2_with fail
        go_ret
        exact ⟨rfl, hb5⟩
      · have tplug : (x.kind.toList == [112, 108, 117, 103]) = false := by simpa using kplug
        clear kplug
        by_cases kunplug : (x.kind.toList == [117, 110, 112, 108, 117, 103]) = true
        · have hkk : x.kind.toList = [117, 110, 112, 108, 117, 103] := by simpa using kunplug
          have tadd : (x.kind.toList == [97, 100, 100]) = false := by rw [hkk]; rfl
          have tremove : (x.kind.toList == [114, 101, 109, 111, 118, 101]) = false := by rw [hkk]; rfl
          have tplug : (x.kind.toList == [112, 108, 117, 103]) = false := by rw [hkk]; rfl
          have HD : Hid (hDid h x = ((0, (hUnplug h x.n x.a).1), (hUnplug h x.n x.a).2)) := show hDid h x = _ by unfold hDid; simp only [tadd, tremove, tplug, kunplug, Bool.false_eq_true, if_false, if_true]
          have c1 := hB.c1
          have c2 := hB.c2
          have te : 0 ≤ (hUnplug h x.n x.a).1 := code_of HFB.out (by omega) x HD.out
          have HPC : Hid _ := HBd.out.runM x v0 v1 HD.out (fun j hj => own_unplug hj) (hUnplug_m HBd.out.s.m HBd.out.inv x.n x.a)
          have HGO : Hid _ := g_of_own (h1 := (hUnplug h x.n x.a).2) (fun _ _ _ _ _ hj => own_unplug hj)
          clear hkk
          go_wp2_with fail
          go_region_held3 (fun w' => w'.cell? ⟨q, 1, none⟩ = some (.int .i64 x.n) ∧ w'.cell? ⟨q, 2, none⟩ = some (.int .i64 x.a)) (first | exact ⟨c1, c2⟩ | exact h4c | exact h5c)
            (first
              | (go_at_call 87; refine Calls.mono HPC.out ?_; rintro e w4 ⟨rfl, ⟨bx4, hx4, hft4, hbl4⟩, hu4⟩; have h4c : w4.cell? ⟨q, 1, none⟩ = some (.int .i64 x.n) ∧ w4.cell? ⟨q, 2, none⟩ = some (.int .i64 x.a) := ⟨hu4.cell (show W1.drew.cell? _ = _ from c1) NQ.out, hu4.cell (show W1.drew.cell? _ = _ from c2) NQ.out⟩; have nr4 : ¬ RFt rh rm bx4 h q := fun e => NR.out (hft4 q e))
              | (go_at_call 88; refine (hx4.runR HGO.out (rUnplug_host hx4.r HBd.out.inv (by omega) x.n x.a)).mono ?_; rintro e w5 ⟨rfl, hb5, hu5⟩; have h5c : w5.cell? ⟨q, 1, none⟩ = some (.int .i64 x.n) ∧ w5.cell? ⟨q, 2, none⟩ = some (.int .i64 x.a) := ⟨hu5.cell h4c.1 nr4, hu5.cell h4c.2 nr4⟩)
              | (go_at_call 11; refine (sameE _ _ te).mono ?_; rintro e w6 ⟨rfl, rfl⟩))
          go_wp2_with fail
          go_ret
          exact ⟨rfl, hb5⟩
        · have tunplug : (x.kind.toList == [117, 110, 112, 108, 117, 103]) = false := by simpa using kunplug
          clear kunplug
          by_cases kgive : (x.kind.toList == [103, 105, 118, 101]) = true
          · have hkk : x.kind.toList = [103, 105, 118, 101] := by simpa using kgive
            have tadd : (x.kind.toList == [97, 100, 100]) = false := by rw [hkk]; rfl
            have tremove : (x.kind.toList == [114, 101, 109, 111, 118, 101]) = false := by rw [hkk]; rfl
            have tplug : (x.kind.toList == [112, 108, 117, 103]) = false := by rw [hkk]; rfl
            have tunplug : (x.kind.toList == [117, 110, 112, 108, 117, 103]) = false := by rw [hkk]; rfl
            have HD : Hid (hDid h x = ((0, (hGive h x.n x.a false).1), (hGive h x.n x.a false).2)) := show hDid h x = _ by unfold hDid; simp only [tadd, tremove, tplug, tunplug, kgive, Bool.false_eq_true, if_false, if_true]
            have c1 := hB.c1
            have c2 := hB.c2
            have te : 0 ≤ (hGive h x.n x.a false).1 := code_of HFB.out (by omega) x HD.out
            have HPC : Hid _ := HBd.out.runM x v0 v1 HD.out (fun j hj => own_give hj) (give_c HBd.out.s.m HBd.out.inv x.n x.a)
            have HGO : Hid _ := g_of_own (h1 := (hGive h x.n x.a false).2) (fun _ _ _ _ _ hj => own_give hj)
            clear hkk
            go_wp2_with fail
            go_region_held3 (fun w' => w'.cell? ⟨q, 1, none⟩ = some (.int .i64 x.n) ∧ w'.cell? ⟨q, 2, none⟩ = some (.int .i64 x.a)) (first | exact ⟨c1, c2⟩ | exact h4c | exact h5c)
              (first
                | (go_at_call 89; refine Calls.mono HPC.out ?_; rintro e w4 ⟨rfl, ⟨bx4, hx4, hft4, hbl4⟩, hu4⟩; have h4c : w4.cell? ⟨q, 1, none⟩ = some (.int .i64 x.n) ∧ w4.cell? ⟨q, 2, none⟩ = some (.int .i64 x.a) := ⟨hu4.cell (show W1.drew.cell? _ = _ from c1) NQ.out, hu4.cell (show W1.drew.cell? _ = _ from c2) NQ.out⟩; have nr4 : ¬ RFt rh rm bx4 h q := fun e => NR.out (hft4 q e))
                | (go_at_call 90; refine (hx4.runR HGO.out (rGive_host hx4.r HBd.out.inv (by omega) x.n x.a false)).mono ?_; rintro e w5 ⟨rfl, hb5, hu5⟩; have h5c : w5.cell? ⟨q, 1, none⟩ = some (.int .i64 x.n) ∧ w5.cell? ⟨q, 2, none⟩ = some (.int .i64 x.a) := ⟨hu5.cell h4c.1 nr4, hu5.cell h4c.2 nr4⟩)
                | (go_at_call 11; refine (sameE _ _ te).mono ?_; rintro e w6 ⟨rfl, rfl⟩))
            go_wp2_with fail
            go_ret
            exact ⟨rfl, hb5⟩
          · have tgive : (x.kind.toList == [103, 105, 118, 101]) = false := by simpa using kgive
            clear kgive
            by_cases kback : (x.kind.toList == [98, 97, 99, 107]) = true
            · have hkk : x.kind.toList = [98, 97, 99, 107] := by simpa using kback
              have tadd : (x.kind.toList == [97, 100, 100]) = false := by rw [hkk]; rfl
              have tremove : (x.kind.toList == [114, 101, 109, 111, 118, 101]) = false := by rw [hkk]; rfl
              have tplug : (x.kind.toList == [112, 108, 117, 103]) = false := by rw [hkk]; rfl
              have tunplug : (x.kind.toList == [117, 110, 112, 108, 117, 103]) = false := by rw [hkk]; rfl
              have tgive : (x.kind.toList == [103, 105, 118, 101]) = false := by rw [hkk]; rfl
              have HD : Hid (hDid h x = ((0, (hGive h x.n x.a true).1), (hGive h x.n x.a true).2)) := show hDid h x = _ by unfold hDid; simp only [tadd, tremove, tplug, tunplug, tgive, kback, Bool.false_eq_true, if_false, if_true]
              have c1 := hB.c1
              have c2 := hB.c2
              have te : 0 ≤ (hGive h x.n x.a true).1 := code_of HFB.out (by omega) x HD.out
              have HPC : Hid _ := HBd.out.runM x v0 v1 HD.out (fun j hj => own_give hj) (hBack_m HBd.out.s.m HBd.out.inv HFB.out.hr.le x.n x.a)
              have HGO : Hid _ := g_of_own (h1 := (hGive h x.n x.a true).2) (fun _ _ _ _ _ hj => own_give hj)
              clear hkk
              go_wp2_with fail
              go_region_held3 (fun w' => w'.cell? ⟨q, 1, none⟩ = some (.int .i64 x.n) ∧ w'.cell? ⟨q, 2, none⟩ = some (.int .i64 x.a)) (first | exact ⟨c1, c2⟩ | exact h4c | exact h5c)
                (first
                  | (go_at_call 91; refine Calls.mono HPC.out ?_; rintro e w4 ⟨rfl, ⟨bx4, hx4, hft4, hbl4⟩, hu4⟩; have h4c : w4.cell? ⟨q, 1, none⟩ = some (.int .i64 x.n) ∧ w4.cell? ⟨q, 2, none⟩ = some (.int .i64 x.a) := ⟨hu4.cell (show W1.drew.cell? _ = _ from c1) NQ.out, hu4.cell (show W1.drew.cell? _ = _ from c2) NQ.out⟩; have nr4 : ¬ RFt rh rm bx4 h q := fun e => NR.out (hft4 q e))
                  | (go_at_call 90; refine (hx4.runR HGO.out (rGive_host hx4.r HBd.out.inv (by omega) x.n x.a true)).mono ?_; rintro e w5 ⟨rfl, hb5, hu5⟩; have h5c : w5.cell? ⟨q, 1, none⟩ = some (.int .i64 x.n) ∧ w5.cell? ⟨q, 2, none⟩ = some (.int .i64 x.a) := ⟨hu5.cell h4c.1 nr4, hu5.cell h4c.2 nr4⟩)
                  | (go_at_call 11; refine (sameE _ _ te).mono ?_; rintro e w6 ⟨rfl, rfl⟩))
              go_wp2_with fail
              go_ret
              exact ⟨rfl, hb5⟩
            · have tback : (x.kind.toList == [98, 97, 99, 107]) = false := by simpa using kback
              clear kback
              by_cases kscan : (x.kind.toList == [115, 99, 97, 110]) = true
              · have hkk : x.kind.toList = [115, 99, 97, 110] := by simpa using kscan
                have tadd : (x.kind.toList == [97, 100, 100]) = false := by rw [hkk]; rfl
                have tremove : (x.kind.toList == [114, 101, 109, 111, 118, 101]) = false := by rw [hkk]; rfl
                have tplug : (x.kind.toList == [112, 108, 117, 103]) = false := by rw [hkk]; rfl
                have tunplug : (x.kind.toList == [117, 110, 112, 108, 117, 103]) = false := by rw [hkk]; rfl
                have tgive : (x.kind.toList == [103, 105, 118, 101]) = false := by rw [hkk]; rfl
                have tback : (x.kind.toList == [98, 97, 99, 107]) = false := by rw [hkk]; rfl
                have tload : (x.kind.toList == [108, 111, 97, 100]) = false := by rw [hkk]; rfl
                have tstore : (x.kind.toList == [115, 116, 111, 114, 101]) = false := by rw [hkk]; rfl
                have troot : (x.kind.toList == [114, 111, 111, 116]) = false := by rw [hkk]; rfl
                have tforget : (x.kind.toList == [102, 111, 114, 103, 101, 116]) = false := by rw [hkk]; rfl
                have tdrop : (x.kind.toList == [100, 114, 111, 112]) = false := by rw [hkk]; rfl
                have HD : Hid (hDid h x = ((0, (hScan h x.n x.a).1.2), (hScan h x.n x.a).2)) := show hDid h x = _ by unfold hDid; simp only [tadd, tremove, tplug, tunplug, tgive, tback, tload, tstore, troot, tforget, tdrop, kscan, Bool.false_eq_true, if_false, if_true]
                have c1 := hB.c1
                have c2 := hB.c2
                have HPC : Hid _ := HB1.out.runD (P := fun e => e = .returned (.tuple #[.bool (hScan h x.n x.a).1.1, errV (hScan h x.n x.a).1.2])) x v0 v1 HD.out ((hScan_m HB1.out.s.m HFB.out x.n x.a).mono fun _ _ ⟨he, hm, hu⟩ => ⟨he, dpost_of (r := ((0, (hScan h x.n x.a).1.2), (hScan h x.n x.a).2)) (Upd.refl _ _) hm (fun j hj => own_scan HFB.out hj) hu⟩)
                have te : 0 ≤ (hScan h x.n x.a).1.2 := by have := hDid_code HFB.out x (by omega); rw [HD.out] at this; exact this
                have HGO : Hid _ := g_of_own (h1 := (hScan h x.n x.a).2) (fun _ _ _ _ _ hj => own_scan HFB.out hj)
                have t1 : ((hScan h x.n x.a).1.1 == (hScan h x.n x.a).1.1) = true := by simp
                clear hkk
                go_wp2_with fail
                refine Calls.mono HPC.out ?_
                rintro e w4 ⟨rfl, ⟨bx4, hx4, hft4, hbl4⟩, hu4⟩
                have d1 := hu4.cell c1 NQ.out
                have d2 := hu4.cell c2 NQ.out
                have HX4 : Hid _ := HX.runS (r := hScan h x.n x.a) hx4 HGO.out (rScan_any hx4.r HB1.out.inv (by omega) x.n x.a)
                clear hx4 hft4 hbl4 hu4 c1 c2
                go_wp2_with fail
                refine Calls.mono HX4.out ?_
                rintro e w5 ⟨rfl, hb5, hu5⟩
                have HB5 : Hid _ := hb5
                clear hb5 hu5
                go_wp2_with fail
                refine (sameE _ _ te).mono ?_
                rintro e w6 ⟨rfl, rfl⟩
                go_wp2_with fail
                go_ret
                exact ⟨rfl, HB5.out⟩
              · have tscan : (x.kind.toList == [115, 99, 97, 110]) = false := by simpa using kscan
                clear kscan
                by_cases kscanall : (x.kind.toList == [115, 99, 97, 110, 97, 108, 108]) = true
                · have hkk : x.kind.toList = [115, 99, 97, 110, 97, 108, 108] := by simpa using kscanall
                  have tadd : (x.kind.toList == [97, 100, 100]) = false := by rw [hkk]; rfl
                  have tremove : (x.kind.toList == [114, 101, 109, 111, 118, 101]) = false := by rw [hkk]; rfl
                  have tplug : (x.kind.toList == [112, 108, 117, 103]) = false := by rw [hkk]; rfl
                  have tunplug : (x.kind.toList == [117, 110, 112, 108, 117, 103]) = false := by rw [hkk]; rfl
                  have tgive : (x.kind.toList == [103, 105, 118, 101]) = false := by rw [hkk]; rfl
                  have tback : (x.kind.toList == [98, 97, 99, 107]) = false := by rw [hkk]; rfl
                  have tload : (x.kind.toList == [108, 111, 97, 100]) = false := by rw [hkk]; rfl
                  have tstore : (x.kind.toList == [115, 116, 111, 114, 101]) = false := by rw [hkk]; rfl
                  have troot : (x.kind.toList == [114, 111, 111, 116]) = false := by rw [hkk]; rfl
                  have tforget : (x.kind.toList == [102, 111, 114, 103, 101, 116]) = false := by rw [hkk]; rfl
                  have tdrop : (x.kind.toList == [100, 114, 111, 112]) = false := by rw [hkk]; rfl
                  have tscan : (x.kind.toList == [115, 99, 97, 110]) = false := by rw [hkk]; rfl
                  have HD : Hid (hDid h x = ((0, 0), (hScanTo h 64).2)) := show hDid h x = _ by unfold hDid; simp only [tadd, tremove, tplug, tunplug, tgive, tback, tload, tstore, troot, tforget, tdrop, tscan, kscanall, Bool.false_eq_true, if_false, if_true]
                  have HPC : Hid (∀ wX, HB W wX n k bh bp bf rh rm base G h F bx v → _) := fun wX B => HB.runD (P := fun e => e = .returned (.int .i64 (hScanTo h 64).1)) B x v0 v1 HD.out ((hScanAll_m B.s.m HFB.out).mono fun _ _ ⟨he, hm, hu⟩ => ⟨he, dpost_of (r := ((0, 0), (hScanTo h 64).2)) (Upd.refl _ _) hm (fun j hj => own_of (HFB.out.scans 64 (Nat.le_refl _)).2.2.2.1 hj) hu⟩)
                  have HGO : Hid _ := g_of_own (h1 := (hScanTo h 64).2) (fun _ _ _ _ _ hj => own_of (HFB.out.scans 64 (Nat.le_refl _)).2.2.2.1 hj)
                  have t1 : ((hScanTo h 64).1 == (hScanTo h 64).1) = true := by simp
                  have HP1 : Hid _ := HPC.out W1 HB1.out
                  have HP2 : Hid _ := HPC.out W1.drew HBd.out
                  clear hkk HPC
                  go_wp2_with fail
                  first
                    | (refine Calls.mono HP1.out ?_
                       rintro e w4 ⟨rfl, ⟨bx4, hx4, hft4, hbl4⟩, hu4⟩
                       have HX4 : Hid _ := HX.runR (r := hScanTo h 64) hx4 HGO.out (rScanAll_any hx4.r HFB.out (by omega))
                       clear hx4 hft4 hbl4 hu4
                       go_wp2_with fail
                       refine Calls.mono HX4.out ?_
                       rintro e w5 ⟨rfl, hb5, hu5⟩
                       go_wp2_with fail
                       go_ret
                       exact ⟨rfl, hb5⟩)
                    | (go_region_with (first | (go_at_call 28; refine Calls.mono HP2.out ?_; rintro e w4 ⟨rfl, ⟨bx4, hx4, hft4, hbl4⟩, hu4⟩) | (go_at_call 93; refine (HX.runR (r := hScanTo h 64) hx4 HGO.out (rScanAll_any hx4.r HFB.out (by omega))).mono ?_; rintro e w5 ⟨rfl, hb5, hu5⟩))
                       go_wp2_with fail
                       go_ret
                       exact ⟨rfl, hb5⟩)
                · have tscanall : (x.kind.toList == [115, 99, 97, 110, 97, 108, 108]) = false := by simpa using kscanall
                  clear kscanall
                  have c1 := hB.c1
                  have HWH : Hid _ := rWho_any HB1.out.r x.n
                  go_wp2_with fail
                  refine Calls.mono HWH.out ?_
                  rintro e w3 ⟨rfl, m3, hw3⟩
                  have HB3 : Hid (HB W w3 n k bh bp bf rh rm base G h F bx v) := by rw [hw3]; exact HB1.out.same ((Upd.refl _ _).drewN m3)
                  have hB3 : BoxAt w3 q x := by rw [hw3]; exact hB.upd ((Upd.refl (fun _ => False) W1).drewN m3) (fun f => f)
                  have HB3d : Hid (HB W w3.drew n k bh bp bf rh rm base G h F bx v) := HB3.out.same (Upd.refl _ _).drew
                  clear c1 hw3 HWH HB1 HBd hB
                  by_cases hw0 : 0 < hWho h x.n
                  · have hv : whoV h bx x.n = .pointer none := by unfold whoV; rw [if_pos hw0]
                    rw [hv]
                    have zz : decide (0 < hWho h x.n) = true := by simp; exact hw0
                    clear hv
                    by_cases kload : (x.kind.toList == [108, 111, 97, 100]) = true
                    · have hkk : x.kind.toList = [108, 111, 97, 100] := by simpa using kload
                      have tadd : (x.kind.toList == [97, 100, 100]) = false := by rw [hkk]; rfl
                      have tremove : (x.kind.toList == [114, 101, 109, 111, 118, 101]) = false := by rw [hkk]; rfl
                      have tplug : (x.kind.toList == [112, 108, 117, 103]) = false := by rw [hkk]; rfl
                      have tunplug : (x.kind.toList == [117, 110, 112, 108, 117, 103]) = false := by rw [hkk]; rfl
                      have tgive : (x.kind.toList == [103, 105, 118, 101]) = false := by rw [hkk]; rfl
                      have tback : (x.kind.toList == [98, 97, 99, 107]) = false := by rw [hkk]; rfl
                      have HD : Hid (hDid h x = hLoad h x.n x.a) := show hDid h x = _ by unfold hDid; simp only [tadd, tremove, tplug, tunplug, tgive, tback, kload, Bool.false_eq_true, if_false, if_true]
                      have c0 := hB3.c0
                      have c1 := hB3.c1
                      have c2 := hB3.c2
                      have hl : hLoad h x.n x.a = ((0, hWho h x.n), h) := by unfold hLoad; rw [if_pos hw0]
                      rw [hl] at HD
                      have hpc := (hLoad_m HB3.out.s.m HB3.out.inv x.n x.a (by omega))
                      rw [hl] at hpc
                      have HPC : Hid _ := HB3.out.runD (P := fun e => e = .returned (.tuple #[.int .u8 0, errV (hWho h x.n)])) x v0 v1 HD.out (hpc.mono fun _ _ ⟨he, hm, hu⟩ => ⟨he, dpost_of (r := ((0, hWho h x.n), h)) (Upd.refl _ _) hm (fun j hj => hj) hu⟩)
                      clear hpc hl hkk
                      have te : 0 ≤ hWho h x.n := by omega
                      clear hw0
                      go_wp2_with fail
                      refine Calls.mono HPC.out ?_
                      rintro e w4 ⟨rfl, ⟨bx4, hx4, hft4, hbl4⟩, hu4⟩
                      have HB5 : Hid _ := hx4.stay
                      clear hx4 hft4 hbl4 hu4
                      go_wp2_with fail
                      refine (sameE _ _ te).mono ?_
                      rintro e w6 ⟨rfl, rfl⟩
                      go_wp2_with fail
                      go_ret
                      exact ⟨rfl, HB5.out⟩
                    · have tload : (x.kind.toList == [108, 111, 97, 100]) = false := by simpa using kload
                      clear kload
                      by_cases kstore : (x.kind.toList == [115, 116, 111, 114, 101]) = true
                      · have hkk : x.kind.toList = [115, 116, 111, 114, 101] := by simpa using kstore
                        have tadd : (x.kind.toList == [97, 100, 100]) = false := by rw [hkk]; rfl
                        have tremove : (x.kind.toList == [114, 101, 109, 111, 118, 101]) = false := by rw [hkk]; rfl
                        have tplug : (x.kind.toList == [112, 108, 117, 103]) = false := by rw [hkk]; rfl
                        have tunplug : (x.kind.toList == [117, 110, 112, 108, 117, 103]) = false := by rw [hkk]; rfl
                        have tgive : (x.kind.toList == [103, 105, 118, 101]) = false := by rw [hkk]; rfl
                        have tback : (x.kind.toList == [98, 97, 99, 107]) = false := by rw [hkk]; rfl
                        have tload : (x.kind.toList == [108, 111, 97, 100]) = false := by rw [hkk]; rfl
                        have HD : Hid (hDid h x = ((0, (hStore h x.n x.a x.v).1), (hStore h x.n x.a x.v).2)) := show hDid h x = _ by unfold hDid; simp only [tadd, tremove, tplug, tunplug, tgive, tback, tload, kstore, Bool.false_eq_true, if_false, if_true]
                        have c0 := hB3.c0
                        have c1 := hB3.c1
                        have c2 := hB3.c2
                        have c4 := hB3.c4
                        have hl : hStore h x.n x.a x.v = (hWho h x.n, h) := by unfold hStore hAct; rw [if_pos hw0]
                        rw [hl] at HD
                        have hpc := (hStore_m HB3.out.s.m HB3.out.inv x.n x.a x.v v0 v1 (by omega))
                        rw [hl] at hpc
                        have HPC : Hid _ := HB3.out.runM (r := (hWho h x.n, h)) x v0 v1 HD.out (fun j hj => hj) hpc
                        clear hpc hl hkk
                        have te : 0 ≤ hWho h x.n := by omega
                        clear hw0
                        go_wp2_with fail
                        refine Calls.mono HPC.out ?_
                        rintro e w4 ⟨rfl, ⟨bx4, hx4, hft4, hbl4⟩, hu4⟩
                        have HB5 : Hid _ := hx4.stay
                        clear hx4 hft4 hbl4 hu4
                        go_wp2_with fail
                        refine (sameE _ _ te).mono ?_
                        rintro e w6 ⟨rfl, rfl⟩
                        go_wp2_with fail
                        go_ret
                        exact ⟨rfl, HB5.out⟩
                      · have tstore : (x.kind.toList == [115, 116, 111, 114, 101]) = false := by simpa using kstore
                        clear kstore
                        by_cases kroot : (x.kind.toList == [114, 111, 111, 116]) = true
                        · have hkk : x.kind.toList = [114, 111, 111, 116] := by simpa using kroot
                          have tadd : (x.kind.toList == [97, 100, 100]) = false := by rw [hkk]; rfl
                          have tremove : (x.kind.toList == [114, 101, 109, 111, 118, 101]) = false := by rw [hkk]; rfl
                          have tplug : (x.kind.toList == [112, 108, 117, 103]) = false := by rw [hkk]; rfl
                          have tunplug : (x.kind.toList == [117, 110, 112, 108, 117, 103]) = false := by rw [hkk]; rfl
                          have tgive : (x.kind.toList == [103, 105, 118, 101]) = false := by rw [hkk]; rfl
                          have tback : (x.kind.toList == [98, 97, 99, 107]) = false := by rw [hkk]; rfl
                          have tload : (x.kind.toList == [108, 111, 97, 100]) = false := by rw [hkk]; rfl
                          have tstore : (x.kind.toList == [115, 116, 111, 114, 101]) = false := by rw [hkk]; rfl
                          have HD : Hid (hDid h x = ((0, (hRoot h x.n x.a).1), (hRoot h x.n x.a).2)) := show hDid h x = _ by unfold hDid; simp only [tadd, tremove, tplug, tunplug, tgive, tback, tload, tstore, kroot, Bool.false_eq_true, if_false, if_true]
                          have c0 := hB3.c0
                          have c1 := hB3.c1
                          have c2 := hB3.c2
                          have hl : hRoot h x.n x.a = (hWho h x.n, h) := by unfold hRoot hAct; rw [if_pos hw0]
                          rw [hl] at HD
                          have hpc := (hSetRoot_m HB3.out.s.m HB3.out.inv x.n x.a)
                          rw [hl] at hpc
                          have HPC : Hid _ := HB3.out.runM (r := (hWho h x.n, h)) x v0 v1 HD.out (fun j hj => hj) hpc
                          clear hpc hl hkk
                          have te : 0 ≤ hWho h x.n := by omega
                          clear hw0
                          go_wp2_with fail
                          refine Calls.mono HPC.out ?_
                          rintro e w4 ⟨rfl, ⟨bx4, hx4, hft4, hbl4⟩, hu4⟩
                          have HB5 : Hid _ := hx4.stay
                          clear hx4 hft4 hbl4 hu4
                          go_wp2_with fail
                          refine (sameE _ _ te).mono ?_
                          rintro e w6 ⟨rfl, rfl⟩
                          go_wp2_with fail
                          go_ret
                          exact ⟨rfl, HB5.out⟩
                        · have troot : (x.kind.toList == [114, 111, 111, 116]) = false := by simpa using kroot
                          clear kroot
                          by_cases kforget : (x.kind.toList == [102, 111, 114, 103, 101, 116]) = true
                          · have hkk : x.kind.toList = [102, 111, 114, 103, 101, 116] := by simpa using kforget
                            have tadd : (x.kind.toList == [97, 100, 100]) = false := by rw [hkk]; rfl
                            have tremove : (x.kind.toList == [114, 101, 109, 111, 118, 101]) = false := by rw [hkk]; rfl
                            have tplug : (x.kind.toList == [112, 108, 117, 103]) = false := by rw [hkk]; rfl
                            have tunplug : (x.kind.toList == [117, 110, 112, 108, 117, 103]) = false := by rw [hkk]; rfl
                            have tgive : (x.kind.toList == [103, 105, 118, 101]) = false := by rw [hkk]; rfl
                            have tback : (x.kind.toList == [98, 97, 99, 107]) = false := by rw [hkk]; rfl
                            have tload : (x.kind.toList == [108, 111, 97, 100]) = false := by rw [hkk]; rfl
                            have tstore : (x.kind.toList == [115, 116, 111, 114, 101]) = false := by rw [hkk]; rfl
                            have troot : (x.kind.toList == [114, 111, 111, 116]) = false := by rw [hkk]; rfl
                            have HD : Hid (hDid h x = ((0, (hForget h x.n x.a).1), (hForget h x.n x.a).2)) := show hDid h x = _ by unfold hDid; simp only [tadd, tremove, tplug, tunplug, tgive, tback, tload, tstore, troot, kforget, Bool.false_eq_true, if_false, if_true]
                            have c0 := hB3.c0
                            have c1 := hB3.c1
                            have c2 := hB3.c2
                            have hl : hForget h x.n x.a = (hWho h x.n, h) := by unfold hForget hAct; rw [if_pos hw0]
                            rw [hl] at HD
                            have hpc := (hForget_m HB3.out.s.m HB3.out.inv x.n x.a)
                            rw [hl] at hpc
                            have HPC : Hid _ := HB3.out.runM (r := (hWho h x.n, h)) x v0 v1 HD.out (fun j hj => hj) hpc
                            clear hpc hl hkk
                            have te : 0 ≤ hWho h x.n := by omega
                            clear hw0
                            go_wp2_with fail
                            refine Calls.mono HPC.out ?_
                            rintro e w4 ⟨rfl, ⟨bx4, hx4, hft4, hbl4⟩, hu4⟩
                            have HB5 : Hid _ := hx4.stay
                            clear hx4 hft4 hbl4 hu4
                            go_wp2_with fail
                            refine (sameE _ _ te).mono ?_
                            rintro e w6 ⟨rfl, rfl⟩
                            go_wp2_with fail
                            go_ret
                            exact ⟨rfl, HB5.out⟩
                          · have tforget : (x.kind.toList == [102, 111, 114, 103, 101, 116]) = false := by simpa using kforget
                            clear kforget
                            by_cases kdrop : (x.kind.toList == [100, 114, 111, 112]) = true
                            · have hkk : x.kind.toList = [100, 114, 111, 112] := by simpa using kdrop
                              have tadd : (x.kind.toList == [97, 100, 100]) = false := by rw [hkk]; rfl
                              have tremove : (x.kind.toList == [114, 101, 109, 111, 118, 101]) = false := by rw [hkk]; rfl
                              have tplug : (x.kind.toList == [112, 108, 117, 103]) = false := by rw [hkk]; rfl
                              have tunplug : (x.kind.toList == [117, 110, 112, 108, 117, 103]) = false := by rw [hkk]; rfl
                              have tgive : (x.kind.toList == [103, 105, 118, 101]) = false := by rw [hkk]; rfl
                              have tback : (x.kind.toList == [98, 97, 99, 107]) = false := by rw [hkk]; rfl
                              have tload : (x.kind.toList == [108, 111, 97, 100]) = false := by rw [hkk]; rfl
                              have tstore : (x.kind.toList == [115, 116, 111, 114, 101]) = false := by rw [hkk]; rfl
                              have troot : (x.kind.toList == [114, 111, 111, 116]) = false := by rw [hkk]; rfl
                              have tforget : (x.kind.toList == [102, 111, 114, 103, 101, 116]) = false := by rw [hkk]; rfl
                              have HD : Hid (hDid h x = ((0, (hDrop h x.n x.a).1), (hDrop h x.n x.a).2)) := show hDid h x = _ by unfold hDid; simp only [tadd, tremove, tplug, tunplug, tgive, tback, tload, tstore, troot, tforget, kdrop, Bool.false_eq_true, if_false, if_true]
                              have c0 := hB3.c0
                              have c1 := hB3.c1
                              have c2 := hB3.c2
                              have hl : hDrop h x.n x.a = (hWho h x.n, h) := by unfold hDrop hAct; rw [if_pos hw0]
                              rw [hl] at HD
                              have hpc := (hForgetAll_m HB3.out.s.m HB3.out.inv x.n x.a)
                              rw [hl] at hpc
                              have HPC : Hid _ := HB3.out.runM (r := (hWho h x.n, h)) x v0 v1 HD.out (fun j hj => hj) hpc
                              clear hpc hl hkk
                              have te : 0 ≤ hWho h x.n := by omega
                              clear hw0
                              go_wp2_with fail
                              refine Calls.mono HPC.out ?_
                              rintro e w4 ⟨rfl, ⟨bx4, hx4, hft4, hbl4⟩, hu4⟩
                              have HB5 : Hid _ := hx4.stay
                              clear hx4 hft4 hbl4 hu4
                              go_wp2_with fail
                              refine (sameE _ _ te).mono ?_
                              rintro e w6 ⟨rfl, rfl⟩
                              go_wp2_with fail
                              go_ret
                              exact ⟨rfl, HB5.out⟩
                            · have tdrop : (x.kind.toList == [100, 114, 111, 112]) = false := by simpa using kdrop
                              clear kdrop
                              have c0 := hB3.c0
                              have c1 := hB3.c1
                              have c2 := hB3.c2
                              have hs : hState h x.n x.a = (0, hWho h x.n) := by unfold hState; rw [if_pos hw0]
                              have hl : hLeaf h x.n x.a = (lf0, hWho h x.n) := by unfold hLeaf; rw [if_pos hw0]
                              have hst := hState_any HB3.out.s.m HB3.out.inv x.n x.a
                              rw [hs] at hst
                              have HST : Hid _ := hst
                              have HLF : Hid (∀ w4, Upd (fun _ => False) w3 w4 → Calls Tryz.prog 100 #[.pointer (some ⟨bh, 0, none⟩), .int .i64 x.n, .int .i64 x.a] w4 (MRead w4 (.tuple #[.agg #[.bool false, .bool false, .int .i64 0], errV (hWho h x.n)]))) := fun w4 u => by have := hLeaf_any (HB3.out.same u).s.m HB3.out.inv x.n x.a; rw [hl] at this; exact this
                              have te : 0 ≤ hWho h x.n := by omega
                              clear hw0 hs hl hst
                              go_wp2_with fail
                              refine Calls.mono HST.out ?_
                              rintro e w4 ⟨rfl, hu4⟩
                              have d1 := hu4.cell c1 (fun f => f)
                              have d2 := hu4.cell c2 (fun f => f)
                              have HL4 : Hid _ := HLF.out w4 hu4
                              have HU4 : Hid _ := hu4
                              clear c1 c2 hu4 HLF HST
                              go_wp2_with fail
                              refine Calls.mono HL4.out ?_
                              rintro e w5 ⟨rfl, hu5⟩
                              obtain ⟨y0, y1, y2, z0, z1, z2⟩ := box0 w5 43
                              have HU5 : Hid (Upd (fun _ => False) w3 (w5.alloc (.cells #[.bool false, .bool false, .int .i64 0] 43))) := (HU4.out.trans hu5 (fun _ _ f => f)).alloc _
                              clear hu5 HL4 HU4 d1 d2
                              go_wp2_with fail
                              refine (sameE _ _ te).mono ?_
                              rintro e w6 ⟨rfl, rfl⟩
                              go_wp2_with fail
                              refine (sameE _ _ te).mono ?_
                              rintro e w7 ⟨rfl, rfl⟩
                              go_wp2_with fail
                              go_ret
                              exact ⟨rfl, (HB3.out.same HU5.out).more⟩
                  · obtain ⟨j, y, hjn, hj4, hxj, hat⟩ := hWho_zero (show hWho h x.n = 0 by have := hWho_le (h := h) x.n; omega)
                    have hz : hWho h x.n = 0 := by have := hWho_le (h := h) x.n; omega
                    have hv : whoV h bx x.n = .pointer (some ⟨bx j, 0, none⟩) := by unfold whoV; rw [if_neg hw0, hjn, Int.toNat_natCast]
                    rw [hv, hz]
                    have HXJ : Hid (h.g j = some y) := hxj
                    have HPO : Hid (∀ (r : Pl × Gs) (bh bp bf : Nat) (G : Nat → G3) (i : Nat), Own bh bp bf G (h.put j r) i → Own bh bp bf G h i) := fun r _ _ _ _ i hi => own_put hxj hi
                    clear hv
                    by_cases kload : (x.kind.toList == [108, 111, 97, 100]) = true
                    · have hkk : x.kind.toList = [108, 111, 97, 100] := by simpa using kload
                      have tadd : (x.kind.toList == [97, 100, 100]) = false := by rw [hkk]; rfl
                      have tremove : (x.kind.toList == [114, 101, 109, 111, 118, 101]) = false := by rw [hkk]; rfl
                      have tplug : (x.kind.toList == [112, 108, 117, 103]) = false := by rw [hkk]; rfl
                      have tunplug : (x.kind.toList == [117, 110, 112, 108, 117, 103]) = false := by rw [hkk]; rfl
                      have tgive : (x.kind.toList == [103, 105, 118, 101]) = false := by rw [hkk]; rfl
                      have tback : (x.kind.toList == [98, 97, 99, 107]) = false := by rw [hkk]; rfl
                      have HD : Hid (hDid h x = hLoad h x.n x.a) := show hDid h x = _ by unfold hDid; simp only [tadd, tremove, tplug, tunplug, tgive, tback, kload, Bool.false_eq_true, if_false, if_true]
                      have c0 := hB3.c0
                      have c1 := hB3.c1
                      have c2 := hB3.c2
                      have hl : hLoad h x.n x.a = ((gLoad h.s y x.a).1, h.put j (gLoad h.s y x.a).2) := by unfold hLoad; rw [if_neg hw0, hat, hjn, Int.toNat_natCast]
                      have hpc := (hLoad_m HB3.out.s.m HB3.out.inv x.n x.a (by omega))
                      rw [hl] at hpc
                      rw [hl] at HD
                      have te : 0 ≤ (gLoad h.s y x.a).1.2 := load_le x.a
                      have t1 : ((gLoad h.s y x.a).1.1 == (gLoad h.s y x.a).1.1) = true := by simp
                      have HPC : Hid _ := HB3.out.runD (P := fun e => e = .returned (.tuple #[.int .u8 (gLoad h.s y x.a).1.1, errV (gLoad h.s y x.a).1.2])) x v0 v1 HD.out (hpc.mono fun _ _ ⟨he, hm, hu⟩ => ⟨he, dpost_of (r := ((gLoad h.s y x.a).1, h.put j (gLoad h.s y x.a).2)) (Upd.refl _ _) hm (fun i hi => HPO.out _ _ _ _ _ i hi) hu⟩)
                      clear hpc hl hkk hw0 hz hjn hat hxj
                      go_wp2_with fail
                      refine Calls.mono HPC.out ?_
                      rintro e w4 ⟨rfl, ⟨bx4, hx4, hft4, hbl4⟩, hu4⟩
                      have d2 := hu4.cell c2 NQ.out
                      have hrl := hx4.runL HB3.out.inv (by omega) HXJ.out
                      rw [hbl4 j hj4] at hrl
                      have HRL : Hid _ := hrl
                      clear hx4 hft4 hbl4 hu4 c0 c1 c2 hrl
                      go_wp2_with fail
                      refine Calls.mono HRL.out ?_
                      rintro e w5 ⟨rfl, hb5, hu5⟩
                      have HB5 : Hid _ := hb5
                      clear hb5 hu5
                      go_wp2_with fail
                      refine (sameE _ _ te).mono ?_
                      rintro e w6 ⟨rfl, rfl⟩
                      go_wp2_with fail
                      go_ret
                      exact ⟨rfl, HB5.out⟩
                    · have tload : (x.kind.toList == [108, 111, 97, 100]) = false := by simpa using kload
                      clear kload
                      by_cases kstore : (x.kind.toList == [115, 116, 111, 114, 101]) = true
                      · have hkk : x.kind.toList = [115, 116, 111, 114, 101] := by simpa using kstore
                        have tadd : (x.kind.toList == [97, 100, 100]) = false := by rw [hkk]; rfl
                        have tremove : (x.kind.toList == [114, 101, 109, 111, 118, 101]) = false := by rw [hkk]; rfl
                        have tplug : (x.kind.toList == [112, 108, 117, 103]) = false := by rw [hkk]; rfl
                        have tunplug : (x.kind.toList == [117, 110, 112, 108, 117, 103]) = false := by rw [hkk]; rfl
                        have tgive : (x.kind.toList == [103, 105, 118, 101]) = false := by rw [hkk]; rfl
                        have tback : (x.kind.toList == [98, 97, 99, 107]) = false := by rw [hkk]; rfl
                        have tload : (x.kind.toList == [108, 111, 97, 100]) = false := by rw [hkk]; rfl
                        have HD : Hid (hDid h x = ((0, (hStore h x.n x.a x.v).1), (hStore h x.n x.a x.v).2)) := show hDid h x = _ by unfold hDid; simp only [tadd, tremove, tplug, tunplug, tgive, tback, tload, kstore, Bool.false_eq_true, if_false, if_true]
                        have c0 := hB3.c0
                        have c1 := hB3.c1
                        have c2 := hB3.c2
                        have c4 := hB3.c4
                        have hl : hStore h x.n x.a x.v = ((gStore h.s y x.a x.v).1, h.put j (gStore h.s y x.a x.v).2) := by unfold hStore hAct; rw [if_neg hw0, hat, hjn, Int.toNat_natCast]
                        have hpc := (hStore_m HB3.out.s.m HB3.out.inv x.n x.a x.v v0 v1 (by omega))
                        rw [hl] at hpc
                        rw [hl] at HD
                        have te : 0 ≤ (gStore h.s y x.a x.v).1 := code_of (r := ((gStore h.s y x.a x.v).1, h.put j (gStore h.s y x.a x.v).2)) HFB.out (by omega) x HD.out
                        have HPC : Hid _ := HB3.out.runM (r := ((gStore h.s y x.a x.v).1, h.put j (gStore h.s y x.a x.v).2)) x v0 v1 HD.out (fun i hi => HPO.out _ _ _ _ _ i hi) hpc
                        clear hpc hl hkk hw0 hz hjn hat hxj
                        go_wp2_with fail
                        refine Calls.mono HPC.out ?_
                        rintro e w4 ⟨rfl, ⟨bx4, hx4, hft4, hbl4⟩, hu4⟩
                        have d2 := hu4.cell c2 NQ.out
                        have d4 := hu4.cell c4 NQ.out
                        have hrl := HX.runG (res := gStore h.s y x.a x.v) hx4 HB3.out.inv (by omega) HXJ.out (fun v p => RPre.store p x.a x.v)
                        rw [hbl4 j hj4] at hrl
                        have HRL : Hid _ := hrl
                        clear hx4 hft4 hbl4 hu4 c0 c1 c2 hrl
                        go_wp2_with fail
                        refine Calls.mono HRL.out ?_
                        rintro e w5 ⟨rfl, hb5, hu5⟩
                        have HB5 : Hid _ := hb5
                        clear hb5 hu5
                        go_wp2_with fail
                        refine (sameE _ _ te).mono ?_
                        rintro e w6 ⟨rfl, rfl⟩
                        go_wp2_with fail
                        go_ret
                        exact ⟨rfl, HB5.out⟩
                      · have tstore : (x.kind.toList == [115, 116, 111, 114, 101]) = false := by simpa using kstore
                        clear kstore
                        by_cases kroot : (x.kind.toList == [114, 111, 111, 116]) = true
                        · have hkk : x.kind.toList = [114, 111, 111, 116] := by simpa using kroot
                          have tadd : (x.kind.toList == [97, 100, 100]) = false := by rw [hkk]; rfl
                          have tremove : (x.kind.toList == [114, 101, 109, 111, 118, 101]) = false := by rw [hkk]; rfl
                          have tplug : (x.kind.toList == [112, 108, 117, 103]) = false := by rw [hkk]; rfl
                          have tunplug : (x.kind.toList == [117, 110, 112, 108, 117, 103]) = false := by rw [hkk]; rfl
                          have tgive : (x.kind.toList == [103, 105, 118, 101]) = false := by rw [hkk]; rfl
                          have tback : (x.kind.toList == [98, 97, 99, 107]) = false := by rw [hkk]; rfl
                          have tload : (x.kind.toList == [108, 111, 97, 100]) = false := by rw [hkk]; rfl
                          have tstore : (x.kind.toList == [115, 116, 111, 114, 101]) = false := by rw [hkk]; rfl
                          have HD : Hid (hDid h x = ((0, (hRoot h x.n x.a).1), (hRoot h x.n x.a).2)) := show hDid h x = _ by unfold hDid; simp only [tadd, tremove, tplug, tunplug, tgive, tback, tload, tstore, kroot, Bool.false_eq_true, if_false, if_true]
                          have c0 := hB3.c0
                          have c1 := hB3.c1
                          have c2 := hB3.c2
                          have hl : hRoot h x.n x.a = ((onS h.s (gRoot y x.a)).1, h.put j (onS h.s (gRoot y x.a)).2) := by unfold hRoot hAct; rw [if_neg hw0, hat, hjn, Int.toNat_natCast]
                          have hpc := (hSetRoot_m HB3.out.s.m HB3.out.inv x.n x.a)
                          rw [hl] at hpc
                          rw [hl] at HD
                          have te : 0 ≤ (onS h.s (gRoot y x.a)).1 := code_of (r := ((onS h.s (gRoot y x.a)).1, h.put j (onS h.s (gRoot y x.a)).2)) HFB.out (by omega) x HD.out
                          have HPC : Hid _ := HB3.out.runM (r := ((onS h.s (gRoot y x.a)).1, h.put j (onS h.s (gRoot y x.a)).2)) x v0 v1 HD.out (fun i hi => HPO.out _ _ _ _ _ i hi) hpc
                          clear hpc hl hkk hw0 hz hjn hat hxj
                          go_wp2_with fail
                          refine Calls.mono HPC.out ?_
                          rintro e w4 ⟨rfl, ⟨bx4, hx4, hft4, hbl4⟩, hu4⟩
                          have d2 := hu4.cell c2 NQ.out
                          have hrl := HX.runG (res := onS h.s (gRoot y x.a)) hx4 HB3.out.inv (by omega) HXJ.out (fun v p => RPre.root p x.a)
                          rw [hbl4 j hj4] at hrl
                          have HRL : Hid _ := hrl
                          clear hx4 hft4 hbl4 hu4 c0 c1 c2 hrl
                          go_wp2_with fail
                          refine Calls.mono HRL.out ?_
                          rintro e w5 ⟨rfl, hb5, hu5⟩
                          have HB5 : Hid _ := hb5
                          clear hb5 hu5
                          go_wp2_with fail
                          refine (sameE _ _ te).mono ?_
                          rintro e w6 ⟨rfl, rfl⟩
                          go_wp2_with fail
                          go_ret
                          exact ⟨rfl, HB5.out⟩
                        · have troot : (x.kind.toList == [114, 111, 111, 116]) = false := by simpa using kroot
                          clear kroot
                          by_cases kforget : (x.kind.toList == [102, 111, 114, 103, 101, 116]) = true
                          · have hkk : x.kind.toList = [102, 111, 114, 103, 101, 116] := by simpa using kforget
                            have tadd : (x.kind.toList == [97, 100, 100]) = false := by rw [hkk]; rfl
                            have tremove : (x.kind.toList == [114, 101, 109, 111, 118, 101]) = false := by rw [hkk]; rfl
                            have tplug : (x.kind.toList == [112, 108, 117, 103]) = false := by rw [hkk]; rfl
                            have tunplug : (x.kind.toList == [117, 110, 112, 108, 117, 103]) = false := by rw [hkk]; rfl
                            have tgive : (x.kind.toList == [103, 105, 118, 101]) = false := by rw [hkk]; rfl
                            have tback : (x.kind.toList == [98, 97, 99, 107]) = false := by rw [hkk]; rfl
                            have tload : (x.kind.toList == [108, 111, 97, 100]) = false := by rw [hkk]; rfl
                            have tstore : (x.kind.toList == [115, 116, 111, 114, 101]) = false := by rw [hkk]; rfl
                            have troot : (x.kind.toList == [114, 111, 111, 116]) = false := by rw [hkk]; rfl
                            have HD : Hid (hDid h x = ((0, (hForget h x.n x.a).1), (hForget h x.n x.a).2)) := show hDid h x = _ by unfold hDid; simp only [tadd, tremove, tplug, tunplug, tgive, tback, tload, tstore, troot, kforget, Bool.false_eq_true, if_false, if_true]
                            have c0 := hB3.c0
                            have c1 := hB3.c1
                            have c2 := hB3.c2
                            have hl : hForget h x.n x.a = ((onS h.s (gForget y x.a)).1, h.put j (onS h.s (gForget y x.a)).2) := by unfold hForget hAct; rw [if_neg hw0, hat, hjn, Int.toNat_natCast]
                            have hpc := (hForget_m HB3.out.s.m HB3.out.inv x.n x.a)
                            rw [hl] at hpc
                            rw [hl] at HD
                            have te : 0 ≤ (onS h.s (gForget y x.a)).1 := code_of (r := ((onS h.s (gForget y x.a)).1, h.put j (onS h.s (gForget y x.a)).2)) HFB.out (by omega) x HD.out
                            have HPC : Hid _ := HB3.out.runM (r := ((onS h.s (gForget y x.a)).1, h.put j (onS h.s (gForget y x.a)).2)) x v0 v1 HD.out (fun i hi => HPO.out _ _ _ _ _ i hi) hpc
                            clear hpc hl hkk hw0 hz hjn hat hxj
                            go_wp2_with fail
                            refine Calls.mono HPC.out ?_
                            rintro e w4 ⟨rfl, ⟨bx4, hx4, hft4, hbl4⟩, hu4⟩
                            have d2 := hu4.cell c2 NQ.out
                            have hrl := HX.runG (res := onS h.s (gForget y x.a)) hx4 HB3.out.inv (by omega) HXJ.out (fun v p => RPre.forget p x.a)
                            rw [hbl4 j hj4] at hrl
                            have HRL : Hid _ := hrl
                            clear hx4 hft4 hbl4 hu4 c0 c1 c2 hrl
                            go_wp2_with fail
                            refine Calls.mono HRL.out ?_
                            rintro e w5 ⟨rfl, hb5, hu5⟩
                            have HB5 : Hid _ := hb5
                            clear hb5 hu5
                            go_wp2_with fail
                            refine (sameE _ _ te).mono ?_
                            rintro e w6 ⟨rfl, rfl⟩
                            go_wp2_with fail
                            go_ret
                            exact ⟨rfl, HB5.out⟩
                          · have tforget : (x.kind.toList == [102, 111, 114, 103, 101, 116]) = false := by simpa using kforget
                            clear kforget
                            by_cases kdrop : (x.kind.toList == [100, 114, 111, 112]) = true
                            · have hkk : x.kind.toList = [100, 114, 111, 112] := by simpa using kdrop
                              have tadd : (x.kind.toList == [97, 100, 100]) = false := by rw [hkk]; rfl
                              have tremove : (x.kind.toList == [114, 101, 109, 111, 118, 101]) = false := by rw [hkk]; rfl
                              have tplug : (x.kind.toList == [112, 108, 117, 103]) = false := by rw [hkk]; rfl
                              have tunplug : (x.kind.toList == [117, 110, 112, 108, 117, 103]) = false := by rw [hkk]; rfl
                              have tgive : (x.kind.toList == [103, 105, 118, 101]) = false := by rw [hkk]; rfl
                              have tback : (x.kind.toList == [98, 97, 99, 107]) = false := by rw [hkk]; rfl
                              have tload : (x.kind.toList == [108, 111, 97, 100]) = false := by rw [hkk]; rfl
                              have tstore : (x.kind.toList == [115, 116, 111, 114, 101]) = false := by rw [hkk]; rfl
                              have troot : (x.kind.toList == [114, 111, 111, 116]) = false := by rw [hkk]; rfl
                              have tforget : (x.kind.toList == [102, 111, 114, 103, 101, 116]) = false := by rw [hkk]; rfl
                              have HD : Hid (hDid h x = ((0, (hDrop h x.n x.a).1), (hDrop h x.n x.a).2)) := show hDid h x = _ by unfold hDid; simp only [tadd, tremove, tplug, tunplug, tgive, tback, tload, tstore, troot, tforget, kdrop, Bool.false_eq_true, if_false, if_true]
                              have c0 := hB3.c0
                              have c1 := hB3.c1
                              have c2 := hB3.c2
                              have hl : hDrop h x.n x.a = ((onS h.s (gForgetAll y x.a)).1, h.put j (onS h.s (gForgetAll y x.a)).2) := by unfold hDrop hAct; rw [if_neg hw0, hat, hjn, Int.toNat_natCast]
                              have hpc := (hForgetAll_m HB3.out.s.m HB3.out.inv x.n x.a)
                              rw [hl] at hpc
                              rw [hl] at HD
                              have te : 0 ≤ (onS h.s (gForgetAll y x.a)).1 := code_of (r := ((onS h.s (gForgetAll y x.a)).1, h.put j (onS h.s (gForgetAll y x.a)).2)) HFB.out (by omega) x HD.out
                              have HPC : Hid _ := HB3.out.runM (r := ((onS h.s (gForgetAll y x.a)).1, h.put j (onS h.s (gForgetAll y x.a)).2)) x v0 v1 HD.out (fun i hi => HPO.out _ _ _ _ _ i hi) hpc
                              clear hpc hl hkk hw0 hz hjn hat hxj
                              go_wp2_with fail
                              refine Calls.mono HPC.out ?_
                              rintro e w4 ⟨rfl, ⟨bx4, hx4, hft4, hbl4⟩, hu4⟩
                              have d2 := hu4.cell c2 NQ.out
                              have hrl := HX.runG (res := onS h.s (gForgetAll y x.a)) hx4 HB3.out.inv (by omega) HXJ.out (fun v p => RPre.forgetAll p x.a)
                              rw [hbl4 j hj4] at hrl
                              have HRL : Hid _ := hrl
                              clear hx4 hft4 hbl4 hu4 c0 c1 c2 hrl
                              go_wp2_with fail
                              refine Calls.mono HRL.out ?_
                              rintro e w5 ⟨rfl, hb5, hu5⟩
                              have HB5 : Hid _ := hb5
                              clear hb5 hu5
                              go_wp2_with fail
                              refine (sameE _ _ te).mono ?_
                              rintro e w6 ⟨rfl, rfl⟩
                              go_wp2_with fail
                              go_ret
                              exact ⟨rfl, HB5.out⟩
                            · have tdrop : (x.kind.toList == [100, 114, 111, 112]) = false := by simpa using kdrop
                              clear kdrop
                              have c0 := hB3.c0
                              have c1 := hB3.c1
                              have c2 := hB3.c2
                              have hs : hState h x.n x.a = stR y.m x.a := by unfold hState; rw [if_neg hw0, hat]
                              have hl : hLeaf h x.n x.a = lfR y.m x.a := by unfold hLeaf; rw [if_neg hw0, hat]
                              have hst := hState_any HB3.out.s.m HB3.out.inv x.n x.a
                              rw [hs] at hst
                              have hlf := fun w4 (u : Upd (fun _ => False) w3 w4) => hLeaf_any (HB3.out.same u).s.m HB3.out.inv x.n x.a
                              rw [hl] at hlf
                              have HON : Hid (∀ w, Calls Tryz.prog 101 #[.int .i64 x.a] w fun e w' => e = .returned (.bool (onB x.a)) ∧ w' = w) := fun w => on_any w x.a
                              clear hw0 hs hl hz hat hjn hxj
                              cases hon : onB x.a with
                              | false =>
                                have hs2 : stR y.m x.a = (0, 1) := by unfold stR; rw [hon]; rfl
                                have hl2 : lfR y.m x.a = (lf0, 1) := by unfold lfR; rw [hon]; rfl
                                rw [hs2] at hst
                                rw [hl2] at hlf
                                rw [hon] at HON
                                have HST : Hid _ := hst
                                have HLF : Hid (∀ w4, Upd (fun _ => False) w3 w4 → Calls Tryz.prog 100 #[.pointer (some ⟨bh, 0, none⟩), .int .i64 x.n, .int .i64 x.a] w4 (MRead w4 (.tuple #[.agg #[.bool false, .bool false, .int .i64 0], errV 1]))) := hlf
                                clear hst hlf hs2 hl2 hon
                                go_wp2_with fail
                                refine Calls.mono HST.out ?_
                                rintro e w4 ⟨rfl, hu4⟩
                                have d1 := hu4.cell c1 (fun f => f)
                                have d2 := hu4.cell c2 (fun f => f)
                                have HL4 : Hid _ := HLF.out w4 hu4
                                have HU4 : Hid _ := hu4
                                clear c0 c1 c2 hu4 HLF HST
                                go_wp2_with fail
                                refine Calls.mono HL4.out ?_
                                rintro e w5 ⟨rfl, hu5⟩
                                obtain ⟨y0, y1, y2, z0, z1, z2⟩ := box0 w5 43
                                have HU5 : Hid (Upd (fun _ => False) w3 (w5.alloc (.cells #[.bool false, .bool false, .int .i64 0] 43))) := (HU4.out.trans hu5 (fun _ _ f => f)).alloc _
                                have d3 := (hu5.alloc (.cells #[.bool false, .bool false, .int .i64 0] 43)).cell d2 (fun f => f)
                                clear hu5 HL4 HU4 d1 d2
                                go_wp2_with fail
                                refine Calls.mono (HON.out _) ?_
                                rintro e w6 ⟨rfl, hw6⟩
                                subst hw6
                                go_wp2_with fail
                                refine (sameE 1 _ (by omega)).mono ?_
                                rintro e w6 ⟨rfl, rfl⟩
                                go_wp2_with fail
                                refine (sameE 1 _ (by omega)).mono ?_
                                rintro e w7 ⟨rfl, rfl⟩
                                go_wp2_with fail
                                go_ret
                                exact ⟨rfl, (HB3.out.same HU5.out).more⟩
                              | true =>
                                obtain ⟨p0, p1⟩ := (onB_iff x.a).1 hon
                                obtain ⟨p, hp⟩ := Int.eq_ofNat_of_zero_le p0
                                have hp16 : p < 16 := by omega
                                have hs2 : stR y.m x.a = (y.m.st p, 0) := by unfold stR; rw [hon, hp, Int.toNat_natCast]; rfl
                                have hl2 : lfR y.m x.a = (y.m.lf p, 0) := by unfold lfR; rw [hon, hp, Int.toNat_natCast]; rfl
                                rw [hs2] at hst
                                rw [hl2] at hlf
                                rw [hon] at HON
                                simp only [errV_zero] at hst hlf
                                have HST : Hid _ := hst
                                have HLF : Hid _ := hlf
                                have hmp := (HB3.out.r.gu j y HXJ.out).mp
                                have HMP : Hid (RMap w3 (bx j) rm _) := hmp
                                rw [hp] at c2
                                rw [hp] at HST HLF HON
                                have HPX : Hid _ := hp
                                clear hst hlf hs2 hl2 hon hmp hp p0 p1
                                go_wp2_with fail
                                refine Calls.mono HST.out ?_
                                rintro e w4 ⟨rfl, hu4⟩
                                have d1 := hu4.cell c1 (fun f => f)
                                have d2 := hu4.cell c2 (fun f => f)
                                have HL4 : Hid _ := HLF.out w4 hu4
                                have HU4 : Hid _ := hu4
                                clear c0 c1 c2 hu4 HLF HST
                                go_wp2_with fail
                                refine Calls.mono HL4.out ?_
                                rintro e w5 ⟨rfl, hu5⟩
                                obtain ⟨y0, y1, y2, z0, z1, z2⟩ := box0 w5 43
                                have HU5 : Hid (Upd (fun _ => False) w3 (w5.alloc (.cells #[.bool (y.m.lf p).there, .bool (y.m.lf p).wr, .int .i64 (y.m.lf p).fr] 43))) := (HU4.out.trans hu5 (fun _ _ f => f)).alloc _
                                have HD3 : Hid _ := (hu5.alloc (.cells #[.bool (y.m.lf p).there, .bool (y.m.lf p).wr, .int .i64 (y.m.lf p).fr] 43)).cell d2 (fun f => f)
                                have HLX : Hid _ := LfAt.new w5 43 (y.m.lf p)
                                clear hu5 HL4 HU4 d1 d2
                                have d3 := HD3.out
                                go_wp2_with fail
                                refine Calls.mono (HON.out _) ?_
                                rintro e w6 ⟨rfl, hw6⟩
                                subst hw6
                                clear y0 y1 y2 z0 z1 z2 d3
                                revert HU5 HD3 HLX
                                generalize w5.alloc (.cells #[.bool (y.m.lf p).there, .bool (y.m.lf p).wr, .int .i64 (y.m.lf p).fr] 43) = w6
                                generalize w5.heap.size = qx
                                intro HU5 HD3 HLX
                                have d3 := HD3.out
                                have f0 := HLX.out.c0
                                have f1 := HLX.out.c1
                                have f2 := HLX.out.c2
                                have hm6 := HMP.out.upd HU5.out (fun f => f)
                                have m1 := hm6.st p hp16
                                have m2 := hm6.th p hp16
                                have m3 := hm6.wr p hp16
                                have m4 := hm6.fr p hp16
                                simp only at m1 m2 m3 m4
                                have p0 : (0 : Int) ≤ (p : Int) := by omega
                                have p1 : (p : Int) < 16 := by omega
                                clear hm6
                                go_wp2_with fail
                                go_quiet ((go_at_call 11; exact Calls.quiet_of_same (same0 _)))
                                go_wp2_with fail
                                go_ret
                                exact ⟨rfl, (HB3.out.same (HU5.out.drewN nq)).more⟩
end Go.Proofs.YtadpibcgjgcjhaaGreat
