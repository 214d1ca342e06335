/- The law's flat memory: At. -/
import Derived.Test.YtadpibcgjgcjhaaGreatPart23
namespace Go.Proofs.YtadpibcgjgcjhaaGreat
open Go.ChangeShapes Go.WideShapes Go.ChangeAt Go.RowKit
set_option maxRecDepth 100000
attribute [local go_sem ↓] Go.wp_at_zero Go.wp_at_succ
variable {w w' : World} {v v' : Value} {es : List En} {bF : Nat} {f f' : Fl}

/-- An entry's box. -/
structure BoxE (w : World) (q : Nat) (x : En) : Prop where
  c0 : w.cell? ⟨q, 0, none⟩ = some (.int .i64 x.root)
  c1 : w.cell? ⟨q, 1, none⟩ = some (.int .i64 x.page)
  c2 : w.cell? ⟨q, 2, none⟩ = some (.int .i64 x.dest)
  c3 : w.cell? ⟨q, 3, none⟩ = some (.bool x.may)
  c4 : w.cell? ⟨q, 4, none⟩ = some (.bool x.lf.there)
  c5 : w.cell? ⟨q, 5, none⟩ = some (.bool x.lf.wr)
  c6 : w.cell? ⟨q, 6, none⟩ = some (.int .i64 x.lf.fr)
  z : ∀ j, w.frozen? ⟨q, j, none⟩ = false
theorem BoxE.lt {q : Nat} {x : En} (b : BoxE w q x) : q < w.heap.size := World.block_lt_of_cell? w _ b.c0
theorem BoxE.new (w : World) (x : En) (t : TypeId) : BoxE (w.alloc (.cells #[.int .i64 x.root, .int .i64 x.page, .int .i64 x.dest, .bool x.may, .bool x.lf.there, .bool x.lf.wr, .int .i64 x.lf.fr] t)) w.heap.size x := by
  refine ⟨?_, ?_, ?_, ?_, ?_, ?_, ?_, fun j => World.frozen?_alloc_new _ _ _ _⟩
  all_goals rw [World.cell?_alloc_new]; rfl
theorem BoxE.upd {S : Nat → Prop} {q : Nat} {x : En} (b : BoxE w q x) (u : Upd S w w') (hq : ¬ S q) : BoxE w' q x :=
  ⟨u.cell b.c0 hq, u.cell b.c1 hq, u.cell b.c2 hq, u.cell b.c3 hq, u.cell b.c4 hq, u.cell b.c5 hq, u.cell b.c6 hq, fun o => by rw [World.frozen?_of_block (w := w) (u.block q b.lt hq)]; exact b.z o⟩
/-- An entry laid into a box. -/
def putE (w : World) (q : Nat) (x : En) : World := ((((((w.setCell ⟨q, 0, none⟩ (.int .i64 x.root)).setCell ⟨q, 1, none⟩ (.int .i64 x.page)).setCell ⟨q, 2, none⟩ (.int .i64 x.dest)).setCell ⟨q, 3, none⟩ (.bool x.may)).setCell ⟨q, 4, none⟩ (.bool x.lf.there)).setCell ⟨q, 5, none⟩ (.bool x.lf.wr)).setCell ⟨q, 6, none⟩ (.int .i64 x.lf.fr)
theorem putE_upd (w : World) (q : Nat) (x : En) : Upd (fun k => k = q) w (putE w q x) :=
  ((((((Upd.one w q 0 _).trans (Upd.one _ q 1 _) (fun _ _ e => e)).trans (Upd.one _ q 2 _) (fun _ _ e => e)).trans (Upd.one _ q 3 _) (fun _ _ e => e)).trans (Upd.one _ q 4 _) (fun _ _ e => e)).trans (Upd.one _ q 5 _) (fun _ _ e => e)).trans (Upd.one _ q 6 _) (fun _ _ e => e)
theorem BoxE.put {q : Nat} {x : En} (b : BoxE w q x) (y : En) : BoxE (putE w q y) q y := by
  have hs : ∀ (w : World) (o : Nat) (u u' : Value), w.cell? ⟨q, o, none⟩ = some u → (w.setCell ⟨q, o, none⟩ u').cell? ⟨q, o, none⟩ = some u' := fun w o u u' h => World.cell?_setCell_same _ _ _ h
  have ho : ∀ (w : World) (o o' : Nat) (u u' : Value), o ≠ o' → w.cell? ⟨q, o, none⟩ = some u → (w.setCell ⟨q, o', none⟩ u').cell? ⟨q, o, none⟩ = some u := fun w o o' u u' h1 h2 => by rw [World.cell?_setCell_other _ _ _ _ (addr_ne (Or.inr (by omega))), h2]
  unfold putE
  refine ⟨?_, ?_, ?_, ?_, ?_, ?_, ?_, fun j => by simp only [World.frozen?_setCell]; exact b.z j⟩
  · exact ho _ _ _ _ _ (by omega) (ho _ _ _ _ _ (by omega) (ho _ _ _ _ _ (by omega) (ho _ _ _ _ _ (by omega) (ho _ _ _ _ _ (by omega) (ho _ _ _ _ _ (by omega) (hs _ _ _ _ b.c0))))))
  · exact ho _ _ _ _ _ (by omega) (ho _ _ _ _ _ (by omega) (ho _ _ _ _ _ (by omega) (ho _ _ _ _ _ (by omega) (ho _ _ _ _ _ (by omega) (hs _ _ _ _ (ho _ _ _ _ _ (by omega) b.c1))))))
  · exact ho _ _ _ _ _ (by omega) (ho _ _ _ _ _ (by omega) (ho _ _ _ _ _ (by omega) (ho _ _ _ _ _ (by omega) (hs _ _ _ _ (ho _ _ _ _ _ (by omega) (ho _ _ _ _ _ (by omega) b.c2))))))
  · exact ho _ _ _ _ _ (by omega) (ho _ _ _ _ _ (by omega) (ho _ _ _ _ _ (by omega) (hs _ _ _ _ (ho _ _ _ _ _ (by omega) (ho _ _ _ _ _ (by omega) (ho _ _ _ _ _ (by omega) b.c3))))))
  · exact ho _ _ _ _ _ (by omega) (ho _ _ _ _ _ (by omega) (hs _ _ _ _ (ho _ _ _ _ _ (by omega) (ho _ _ _ _ _ (by omega) (ho _ _ _ _ _ (by omega) (ho _ _ _ _ _ (by omega) b.c4))))))
  · exact ho _ _ _ _ _ (by omega) (hs _ _ _ _ (ho _ _ _ _ _ (by omega) (ho _ _ _ _ _ (by omega) (ho _ _ _ _ _ (by omega) (ho _ _ _ _ _ (by omega) (ho _ _ _ _ _ (by omega) b.c5))))))
  · exact hs _ _ _ _ (ho _ _ _ _ _ (by omega) (ho _ _ _ _ _ (by omega) (ho _ _ _ _ _ (by omega) (ho _ _ _ _ _ (by omega) (ho _ _ _ _ _ (by omega) (ho _ _ _ _ _ (by omega) b.c6))))))
theorem fat_off (r : RFl w bF v f) (addr : Int) (wt : Bool) (h : addr < 0 ∨ 255 < addr) : Calls Tryz.prog 108 #[.pointer (some ⟨bF, 0, none⟩), .int .i64 addr, .bool wt] w fun e w' => e = .returned (.tuple #[.int .i64 0, .int .i64 1]) ∧ FlPost w bF v f w' := by
  have HP : Hid _ := fun w' (u : Upd (fun _ => False) w w') => FlPost.same r u
  clear r
  by_cases h0 : addr < 0
  · have d : decide (addr < 0) = true := by simp; exact h0
    clear h h0
    go_enter Tryz.func108, Tryz.ntmps108
    go_wp2_with fail
    go_ret2
    exact ⟨rfl, HP.out _ (Upd.refl _ _)⟩
  · have d : decide (addr < 0) = false := by simp; omega
    have d2 : decide (255 < addr) = true := by simp; omega
    clear h h0
    go_enter Tryz.func108, Tryz.ntmps108
    go_wp2_with fail
    go_ret2
    exact ⟨rfl, HP.out _ (Upd.refl _ _)⟩
theorem fat_plain (r : RFl w bF v f) (k : Nat) (hk : k ≤ 255) (wt : Bool) (hr : f.root = -1) : Calls Tryz.prog 108 #[.pointer (some ⟨bF, 0, none⟩), .int .i64 (k : Int), .bool wt] w fun e w' => e = .returned (.tuple #[.int .i64 ((k : Int) / 16), .int .i64 (pgCode (f.st (k / 16)))]) ∧ FlPost w bF v f w' := by
  have HP : Hid _ := fun w' (u : Upd (fun _ => False) w w') => FlPost.same r u
  have hpg := page_any r (show k / 16 < 16 by omega)
  rw [show ((k / 16 : Nat) : Int) = (k : Int) / 16 by omega] at hpg
  have HPG : Hid _ := hpg
  have crt := r.rt
  rw [hr] at crt
  have d1 : decide ((k : Int) < 0) = false := by simp
  have d2 : decide ((255 : Int) < (k : Int)) = false := by simp; omega
  clear r hr hpg
  go_enter Tryz.func108, Tryz.ntmps108
  go_wp2_with fail
  refine Calls.mono HPG.out ?_
  rintro e w1 ⟨rfl, hw1⟩
  subst hw1
  go_wp2_with fail
  go_ret2
  exact ⟨rfl, HP.out _ (Upd.refl _ _)⟩
set_option maxHeartbeats 4000000 in
theorem fat_walk (r : RFl w bF v f) (ok : FlOk f) (k : Nat) (hk : k ≤ 255) (wt : Bool) (hr : f.root ≠ -1) : Calls Tryz.prog 108 #[.pointer (some ⟨bF, 0, none⟩), .int .i64 (k : Int), .bool wt] w fun e w' => e = .returned (.tuple #[.int .i64 (fAt f k wt).1.1, .int .i64 (fAt f k wt).1.2]) ∧ FlPost w bF v (fAt f k wt).2 w' := by
  have HOK : Hid _ := ok
  have crt := r.rt
  have ccv := r.cv
  have d1 : decide ((k : Int) < 0) = false := by simp
  have d2 : decide ((255 : Int) < (k : Int)) = false := by simp; omega
  have d3 : (f.root == -1) = false := beq_eq_false_iff_ne.2 hr
  obtain ⟨a, cap, rfl, hc1, hc2, hcc⟩ := r.sl.form
  have HCC : Hid _ := hcc
  have HR : Hid (RFl w bF (.slice a f.c.length cap) f) := r
  have HB0 : Hid (BoxE (w.alloc (.cells #[.int .i64 0, .int .i64 0, .int .i64 (-1), .bool false, .bool false, .bool false, .int .i64 0] 94)) w.heap.size enM) := BoxE.new w enM 94
  have HU0 : Hid (Upd (fun _ => False) w (w.alloc (.cells #[.int .i64 0, .int .i64 0, .int .i64 (-1), .bool false, .bool false, .bool false, .int .i64 0] 94))) := (Upd.refl _ _).alloc _
  have HQ : Hid (∀ j, FOwn bF (.slice a f.c.length cap) j → j < w.heap.size) := fun j hj => r.lt hj
  have HGQ : Hid (∀ j, j < w.heap.size → j ≠ w.heap.size) := fun j hj => by omega
  have hsp := cand_end ok.di f.root ((k : Int) / 16)
  have HSP : Hid _ := hsp
  have hl4 := ok.len
  have hfa : fAt f k wt = if 0 ≤ fndI f.c f.root ((k : Int) / 16) then fStep f (atE f.c (fndI f.c f.root ((k : Int) / 16)).toNat) true wt
    else if 0 < pgCode (f.st f.root.toNat) then ((0, pgCode (f.st f.root.toNat)), f)
    else if f.b f.root.toNat ((k : Int) / 16).toNat < 128 then ((0, 5), f)
    else fStep f (gEn f.root ((k : Int) / 16) (f.b f.root.toNat ((k : Int) / 16).toNat)) false wt := by
    unfold fAt
    rw [if_neg (by omega), if_neg hr]
  have HFA : Hid _ := hfa
  have HRN : Hid _ := hr
  clear r ok hcc hsp hfa hr
  go_enter Tryz.func108, Tryz.ntmps108
  go_wp2_with fail
  revert HB0 HU0
  generalize w.alloc (.cells #[.int .i64 0, .int .i64 0, .int .i64 (-1), .bool false, .bool false, .bool false, .int .i64 0] 94) = w1
  intro HB0 HU0
  have HRU : Hid (∀ wr, Upd (fun j => j = w.heap.size) w1 wr → RFl wr bF (.slice a f.c.length cap) f ∧ Upd (fun _ => False) w wr) := fun wr u => ⟨(HR.out.upd HU0.out (fun _ _ f => f)).upd u (fun j hj e => by have := HQ.out j hj; omega), HU0.out.trans u (fun i hi e => by omega)⟩
  revert HB0 HRU HQ HGQ
  generalize hqq : w.heap.size = q
  have HQQ : Hid _ := hqq
  clear hqq
  intro HQ HGQ HB0 HRU
  clear crt ccv
  go_loopg [10] f.c.length (fun g iv wr => ∃ i : Nat, i + g = f.c.length ∧ iv = .int .i64 i ∧ Hid (BoxE wr q (cand f.c f.root ((k : Int) / 16) i)) ∧ Hid (Upd (fun j => j = q) w1 wr))
  case atStart => exact ⟨0, by omega, rfl, HB0.out, Upd.refl _ _⟩
  case round =>
    clear HB0
    obtain ⟨i, hi, rfl, HB, HU⟩ := hrel
    have HII : Hid _ := hi
    clear hi
    obtain ⟨hrf, huw⟩ := HRU.out wr HU.out
    have crt := hrf.rt
    have ccv := hrf.cv
    have HRF : Hid (RFl wr bF (.slice a f.c.length cap) f) := hrf
    have HUW : Hid (Upd (fun _ => False) w wr) := huw
    clear hrf
    by_cases hlt : i < f.c.length
    · obtain ⟨g, o, rfl, hglt, hcell⟩ := HCC.out i hlt
      have i0 : (0 : Int) ≤ (i : Int) := by omega
      have i1 : (i : Int) < (f.c.length : Int) := by omega
      have e0 := huw.cell (show w.cell? ⟨g, o + i * 7, none⟩ = some (.int .i64 (atE f.c i).root) from hcell 0 (by omega)) (fun f => f)
      have e1 := huw.cell (show w.cell? ⟨g, o + i * 7 + 1, none⟩ = some (.int .i64 (atE f.c i).page) by rw [Nat.add_assoc]; exact hcell 1 (by omega)) (fun f => f)
      have e2 := huw.cell (show w.cell? ⟨g, o + i * 7 + 2, none⟩ = some (.int .i64 (atE f.c i).dest) by rw [Nat.add_assoc]; exact hcell 2 (by omega)) (fun f => f)
      have e3 := huw.cell (show w.cell? ⟨g, o + i * 7 + 3, none⟩ = some (.bool (atE f.c i).may) by rw [Nat.add_assoc]; exact hcell 3 (by omega)) (fun f => f)
      have e4 := huw.cell (show w.cell? ⟨g, o + i * 7 + 4, none⟩ = some (.bool (atE f.c i).lf.there) by rw [Nat.add_assoc]; exact hcell 4 (by omega)) (fun f => f)
      have e5 := huw.cell (show w.cell? ⟨g, o + i * 7 + 5, none⟩ = some (.bool (atE f.c i).lf.wr) by rw [Nat.add_assoc]; exact hcell 5 (by omega)) (fun f => f)
      have e6 := huw.cell (show w.cell? ⟨g, o + i * 7 + 6, none⟩ = some (.int .i64 (atE f.c i).lf.fr) by rw [Nat.add_assoc]; exact hcell 6 (by omega)) (fun f => f)
      have hst : cand f.c f.root ((k : Int) / 16) (i + 1) = if isAt f.root ((k : Int) / 16) (atE f.c i) = true then atE f.c i else cand f.c f.root ((k : Int) / 16) i := rfl
      have HST : Hid _ := hst
      have hat : isAt f.root ((k : Int) / 16) (atE f.c i) = (((atE f.c i).root == f.root) && ((atE f.c i).page == (k : Int) / 16)) := rfl
      clear hst hcell huw
      cases b1 : ((atE f.c i).root == f.root) with
      | false =>
        rw [b1] at hat
        have HAT : Hid _ := hat
        clear hat
        go_wp2_with fail
        go_quiet (fail)
        go_wp2_with fail
        go_roundg (f.c.length - (i + 1))
        case rel => exact ⟨i + 1, by omega, by go_num, by rw [HST.out, if_neg (by rw [HAT.out]; simp)]; exact HB.out.upd ((Upd.refl (fun _ => False) _).drewN nq) (fun f => f), HU.out.drewN nq⟩
        case measure => have := HII.out; omega
      | true =>
        cases b2 : ((atE f.c i).page == (k : Int) / 16) with
        | false =>
          rw [b1, b2] at hat
          have HAT : Hid _ := hat
          clear hat
          go_wp2_with fail
          go_quiet (fail)
          go_wp2_with fail
          go_roundg (f.c.length - (i + 1))
          case rel => exact ⟨i + 1, by omega, by go_num, by rw [HST.out, if_neg (by rw [HAT.out]; simp)]; exact HB.out.upd ((Upd.refl (fun _ => False) _).drewN nq) (fun f => f), HU.out.drewN nq⟩
          case measure => have := HII.out; omega
        | true =>
          rw [b1, b2] at hat
          have HAT : Hid _ := hat
          have y0 := HB.out.c0
          have y1 := HB.out.c1
          have y2 := HB.out.c2
          have y3 := HB.out.c3
          have y4 := HB.out.c4
          have y5 := HB.out.c5
          have y6 := HB.out.c6
          have z0 := HB.out.z 0
          have z1 := HB.out.z 1
          have z2 := HB.out.z 2
          have z3 := HB.out.z 3
          have z4 := HB.out.z 4
          have z5 := HB.out.z 5
          have z6 := HB.out.z 6
          clear hat
          generalize atE f.c i = ex at *
          generalize cand f.c f.root ((k : Int) / 16) i = ec at *
          go_wp2_with fail
          go_quiet (fail)
          go_wp2_with fail
          go_roundg (f.c.length - (i + 1))
          case rel => exact ⟨i + 1, by omega, by go_num, by rw [HST.out, if_pos (by rw [HAT.out]; rfl)]; exact (HB.out.upd ((Upd.refl (fun _ => False) _).drewN nq) (fun f => f)).put ex, (HU.out.drewN nq).trans (putE_upd _ q ex) (fun _ _ e => e)⟩
          case measure => have := HII.out; omega
    · obtain rfl : i = f.c.length := by have := HII.out; omega
      rcases HSP.out with ⟨s1, s2, s3⟩ | ⟨s1, s3⟩
      · rw [s3] at HB
        have hen := HOK.out.en _ (atE_mem s2)
        have HF2 : Hid (fAt f k wt = fStep f (atE f.c (fndI f.c f.root ((k : Int) / 16)).toNat) true wt) := show _ = _ by rw [HFA.out, if_pos s1]
        generalize atE f.c (fndI f.c f.root ((k : Int) / 16)).toNat = ex at *
        obtain ⟨d, hd⟩ := Int.eq_ofNat_of_zero_le hen.1
        have hd16 : d < 16 := by omega
        have y2 := HB.out.c2
        rw [hd] at y2
        have y3 := HB.out.c3
        have HPG : Hid _ := page_any HRF.out hd16
        have HPC : Hid (pgCode (f.st ex.dest.toNat) = pgCode (f.st d)) := show _ = _ by rw [hd, Int.toNat_natCast]
        have HDE : Hid (ex.dest = (d : Int)) := hd
        have hpc := pgCode_le (f.st d)
        have dn : decide ((d : Int) < 0) = false := by simp
        generalize pgCode (f.st d) = pc at *
        clear hd s1 s2 s3 hen huw HCC HSP HFA
        cases wt with
        | false =>
          have HMAY : Hid ((false && !ex.may) = false) := rfl
          go_wp2_with fail
          refine Calls.mono HPG.out ?_
          rintro e w5 ⟨rfl, hw5⟩
          subst hw5
          by_cases hp : 0 < pc
          · have d5 : decide (0 < pc) = true := by simp; exact hp
            go_wp2_with fail
            go_ret2
            rw [HF2.out]
            unfold fStep
            rw [if_neg (by simp [HMAY.out]), HPC.out, if_pos (by omega)]
            exact ⟨rfl, FlPost.same HR.out HUW.out⟩
          · have d5 : decide (0 < pc) = false := by simp; omega
            go_wp2_with fail
            go_ret2
            rw [HF2.out]
            unfold fStep
            rw [if_neg (by simp [HMAY.out]), HPC.out, if_neg (by omega)]
            exact ⟨by rw [HDE.out]; rfl, FlPost.same HR.out HUW.out⟩
        | true =>
          cases hmay : ex.may with
          | false =>
            rw [hmay] at y3
            have HMY : Hid _ := hmay
            clear hmay
            go_wp2_with fail
            go_ret2
            rw [HF2.out]
            unfold fStep
            rw [if_pos (by simp [HMY.out])]
            exact ⟨rfl, FlPost.same HR.out HUW.out⟩
          | true =>
            rw [hmay] at y3
            have HMAY : Hid ((true && !ex.may) = false) := show _ = _ by rw [hmay]; rfl
            clear hmay
            go_wp2_with fail
            refine Calls.mono HPG.out ?_
            rintro e w5 ⟨rfl, hw5⟩
            subst hw5
            by_cases hp : 0 < pc
            · have d5 : decide (0 < pc) = true := by simp; exact hp
              go_wp2_with fail
              go_ret2
              rw [HF2.out]
              unfold fStep
              rw [if_neg (by simp [HMAY.out]), HPC.out, if_pos (by omega)]
              exact ⟨rfl, FlPost.same HR.out HUW.out⟩
            · have d5 : decide (0 < pc) = false := by simp; omega
              go_wp2_with fail
              go_ret2
              rw [HF2.out]
              unfold fStep
              rw [if_neg (by simp [HMAY.out]), HPC.out, if_neg (by omega)]
              exact ⟨by rw [HDE.out]; rfl, FlPost.same HR.out HUW.out⟩
      · rw [s3] at HB
        have hr0 := HOK.out.r0
        have hr1 := HOK.out.r1
        obtain ⟨rr, hrr⟩ := Int.eq_ofNat_of_zero_le (show 0 ≤ f.root by have hne : ¬ f.root = -1 := HRN.out; omega)
        have hr16 : rr < 16 := by omega
        have hk16 : k / 16 < 16 := by omega
        have HRR : Hid _ := hrr
        rw [hrr] at crt
        have HF2 : Hid (fAt f k wt = if 0 < pgCode (f.st rr) then ((0, pgCode (f.st rr)), f) else if f.b rr (k / 16) < 128 then ((0, 5), f) else fStep f (gEn rr ((k : Int) / 16) (f.b rr (k / 16))) false wt) := show _ = _ by
          rw [HFA.out, if_neg (by omega), hrr, Int.toNat_natCast, show ((k : Int) / 16).toNat = k / 16 by omega]
        have HPG : Hid _ := page_any HRF.out hr16
        have hpc := pgCode_le (f.st rr)
        have y0 := HB.out.c0
        have y1 := HB.out.c1
        have y2 := HB.out.c2
        have y3 := HB.out.c3
        have y4 := HB.out.c4
        have y5 := HB.out.c5
        have y6 := HB.out.c6
        have z0 := HB.out.z 0
        have z1 := HB.out.z 1
        have z2 := HB.out.z 2
        have z3 := HB.out.z 3
        have z4 := HB.out.z 4
        have z5 := HB.out.z 5
        have z6 := HB.out.z 6
        simp only [enM, lf0] at y0 y1 y2 y3 y4 y5 y6
        have b0 := HRF.out.b rr (k / 16) hr16 hk16
        obtain ⟨bl, bh⟩ := HOK.out.b rr (k / 16) hr16 hk16
        have i0 : (0 : Int) ≤ (rr : Int) := by omega
        have i1 : (rr : Int) < 16 := by omega
        have i2 : (0 : Int) ≤ (k : Int) / 16 := by omega
        have i3 : (k : Int) / 16 < 16 := by omega
        have hkk : ((k : Int) / 16).toNat = k / 16 := by omega
        generalize pgCode (f.st rr) = pc at *
        generalize f.b rr (k / 16) = bb at *
        clear huw HCC HSP HFA hr0 hr1 s3 hrr
        go_wp2_with fail
        refine Calls.mono HPG.out ?_
        rintro e w5 ⟨rfl, hw5⟩
        subst hw5
        by_cases hp : 0 < pc
        · have d5 : decide (0 < pc) = true := by simp; exact hp
          rw [if_pos hp] at HF2
          go_wp2_with fail
          go_ret2
          rw [HF2.out]
          exact ⟨rfl, FlPost.same HR.out HUW.out⟩
        · have d5 : decide (0 < pc) = false := by simp; omega
          rw [if_neg hp] at HF2
          by_cases h128 : bb < 128
          · have d6 : decide (bb < 128) = true := by simp; exact h128
            rw [if_pos h128] at HF2
            go_wp2_with fail
            go_quiet (fail)
            go_wp2_with fail
            go_ret2
            rw [HF2.out]
            exact ⟨rfl, FlPost.same HR.out (HUW.out.drewN nq)⟩
          · have d6 : decide (bb < 128) = false := by simp; omega
            rw [if_neg h128] at HF2
            go_wp2_with fail
            go_quiet (fail)
            go_upto_region 21 with fail
            have HUX1 : Hid (Upd (fun j => j = q) w1 (putE (w5.drewN nq) q (gEn rr ((k : Int) / 16) bb))) := (HU.out.drewN nq).trans (putE_upd _ q _) (fun _ _ e => e)
            have HBX : Hid (BoxE (putE (w5.drewN nq) q (gEn rr ((k : Int) / 16) bb)) q (gEn rr ((k : Int) / 16) bb)) := (HB.out.upd ((Upd.refl (fun _ => False) w5).drewN nq) (fun f => f)).put _
            have HRX : Hid (RFl (putE (w5.drewN nq) q (gEn rr ((k : Int) / 16) bb)) bF (.slice a f.c.length cap) f) := (HRU.out _ HUX1.out).1
            have HUX : Hid (Upd (fun _ => False) w (putE (w5.drewN nq) q (gEn rr ((k : Int) / 16) bb))) := (HRU.out _ HUX1.out).2
            have HF3 : Hid (fAt f k wt = fStep f (gEn rr ((k : Int) / 16) bb) false wt) := HF2.out
            have hge : (((((((w5.drewN nq).setCell ⟨q, 0, none⟩ (.int .i64 (rr : Int))).setCell ⟨q, 1, none⟩ (.int .i64 ((k : Int) / 16))).setCell ⟨q, 2, none⟩ (.int .i64 (bb % 16))).setCell ⟨q, 3, none⟩ (.bool (bb / 64 % 2 == 1))).setCell ⟨q, 4, none⟩ (.bool false)).setCell ⟨q, 5, none⟩ (.bool false)).setCell ⟨q, 6, none⟩ (.int .i64 0) = putE (w5.drewN nq) q (gEn rr ((k : Int) / 16) bb) := rfl
            rw [hge]
            clear hge HUX1 HF2 HB HRF HUW y0 y1 y2 y3 y4 y5 y6 z0 z1 z2 z3 z4 z5 z6 b0 crt ccv HU HPG d5 hp
            revert HBX HRX HUX
            generalize putE (w5.drewN nq) q (gEn rr ((k : Int) / 16) bb) = wx
            intro HBX HRX HUX
            obtain ⟨d, hd⟩ := Int.eq_ofNat_of_zero_le (show 0 ≤ bb % 16 by omega)
            have hd16 : d < 16 := by omega
            obtain ⟨my, hmy⟩ : ∃ my, (bb / 64 % 2 == 1) = my := ⟨_, rfl⟩
            have hy : gEn (rr : Int) ((k : Int) / 16) bb = (⟨(rr : Int), (k : Int) / 16, (d : Int), my, lf0⟩ : En) := by unfold gEn; rw [hd, hmy]
            rw [hy] at HBX HF3
            have c0 : wx.cell? ⟨q, 0, none⟩ = some (.int .i64 (rr : Int)) := HBX.out.c0
            have c1 : wx.cell? ⟨q, 1, none⟩ = some (.int .i64 ((k : Int) / 16)) := HBX.out.c1
            have c2 : wx.cell? ⟨q, 2, none⟩ = some (.int .i64 (d : Int)) := HBX.out.c2
            have c3 : wx.cell? ⟨q, 3, none⟩ = some (.bool my) := HBX.out.c3
            have c4 : wx.cell? ⟨q, 4, none⟩ = some (.bool false) := HBX.out.c4
            have c5 : wx.cell? ⟨q, 5, none⟩ = some (.bool false) := HBX.out.c5
            have c6 : wx.cell? ⟨q, 6, none⟩ = some (.int .i64 0) := HBX.out.c6
            have ccv := HRX.out.cv
            have HPG2 : Hid _ := page_any HRX.out hd16
            have HPC2 : Hid (pgCode (f.st ((⟨(rr : Int), (k : Int) / 16, (d : Int), my, lf0⟩ : En)).dest.toNat) = pgCode (f.st d)) := show pgCode (f.st ((d : Int)).toNat) = _ by rw [Int.toNat_natCast]
            have hpc2 := pgCode_le (f.st d)
            have HS1 : Hid (fndI f.c (rr : Int) ((k : Int) / 16) = -1) := show _ = _ by rw [← HRR.out]; exact s1
            generalize pgCode (f.st d) = pc2 at *
            have HUA : Hid (Upd (fun _ => False) wx (wx.alloc (.cells #[.int .i64 (rr : Int), .int .i64 ((k : Int) / 16), .int .i64 (d : Int), .bool my, .bool false, .bool false, .int .i64 0] 94)).drew) := ((Upd.refl (fun _ => False) wx).alloc _).drew
            have HR2 : Hid (RFl (wx.alloc (.cells #[.int .i64 (rr : Int), .int .i64 ((k : Int) / 16), .int .i64 (d : Int), .bool my, .bool false, .bool false, .int .i64 0] 94)).drew bF (.slice a f.c.length cap) f) := HRX.out.upd HUA.out (fun _ _ f => f)
            have HSL : Hid (SlO (wx.alloc (.cells #[.int .i64 (rr : Int), .int .i64 ((k : Int) / 16), .int .i64 (d : Int), .bool my, .bool false, .bool false, .int .i64 0] 94)).drew (.slice a f.c.length cap) f.c) := HR2.out.sl
            have HNW : Hid (∀ j u, (enCells (⟨(rr : Int), (k : Int) / 16, (d : Int), my, lf0⟩ : En))[j]? = some u → (wx.alloc (.cells #[.int .i64 (rr : Int), .int .i64 ((k : Int) / 16), .int .i64 (d : Int), .bool my, .bool false, .bool false, .int .i64 0] 94)).drew.cell? ((⟨wx.heap.size, 0, none⟩ : Addr).add j) = some u) := fun j u hj => newsE wx (⟨(rr : Int), (k : Int) / 16, (d : Int), my, lf0⟩ : En) 94 j u hj
            have HCV : Hid ((wx.alloc (.cells #[.int .i64 (rr : Int), .int .i64 ((k : Int) / 16), .int .i64 (d : Int), .bool my, .bool false, .bool false, .int .i64 0] 94)).drew.cell? ⟨bF, 273, none⟩ = some (.slice a f.c.length cap)) := HR2.out.cv
            have HNE : Hid (¬ (Value.slice a f.c.length cap).ownBlock = some bF) := HR2.out.ne
            have HBL : Hid (bF < (wx.alloc (.cells #[.int .i64 (rr : Int), .int .i64 ((k : Int) / 16), .int .i64 (d : Int), .bool my, .bool false, .bool false, .int .i64 0] 94)).drew.heap.size) := HR2.out.lt (Or.inl rfl)
            have HZC : Hid ((wx.alloc (.cells #[.int .i64 (rr : Int), .int .i64 ((k : Int) / 16), .int .i64 (d : Int), .bool my, .bool false, .bool false, .int .i64 0] 94)).drew.frozen? ⟨bF, 273, none⟩ = false) := HR2.out.z 273
            have hqn : ∀ j, FOwn bF (.slice a f.c.length cap) j → j ≠ q := fun j hj e => by have := HQ.out j hj; omega
            have HBQ : Hid (∀ w3, Upd (FOwn bF (.slice a f.c.length cap)) (wx.alloc (.cells #[.int .i64 (rr : Int), .int .i64 ((k : Int) / 16), .int .i64 (d : Int), .bool my, .bool false, .bool false, .int .i64 0] 94)).drew w3 → w3.cell? ⟨q, 2, none⟩ = some (.int .i64 (d : Int))) := fun w3 u => u.cell (HUA.out.cell c2 (fun f => f)) (fun e => hqn q e rfl)
            clear hqn
            obtain ⟨i, hi, he⟩ := Option.map_eq_some_iff.1 infoEn
            simp only [Prod.mk.injEq] at he
            obtain ⟨he1, he2, he3⟩ := he
            have HE1 : Hid _ := he1
            have HE2 : Hid _ := he2
            have HE3 : Hid _ := he3
            have HI : Hid _ := hi
            clear he1 he2 he3 hi hy hd hmy HBX HRX s1
            cases wt with
            | false =>
              go_wp2_with fail
              refine Calls.mono HPG2.out ?_
              rintro e w6 ⟨rfl, hw6⟩
              subst hw6
              by_cases hp2 : 0 < pc2
              · have d5 : decide (0 < pc2) = true := by simp; exact hp2
                go_wp2_with fail
                go_ret2
                rw [HF3.out]
                unfold fStep
                rw [if_neg (by simp), HPC2.out, if_pos (by omega)]
                exact ⟨rfl, FlPost.same HR.out HUX.out⟩
              · have d5 : decide (0 < pc2) = false := by simp; omega
                go_wp2_with fail
                have ccv2 := HCV.out
                go_region_law (refine step_append_o rfl (.tmp 131) (.tmp 133) 47 rfl i (.agg zeroEn) Tryz.underlying47 HI.out HE3.out HE1.out HE2.out (by rfl) (by first | rfl | simp [Act.eval, Act.put]) HSL.out ⟨w6.heap.size, 0, none⟩ 1 (⟨(rr : Int), (k : Int) / 16, (d : Int), my, lf0⟩ : En) (by first | rfl | simp [Act.eval, Act.put]) HNW.out (by omega) ?_; intro g2 o2 cap2 w2 hs2 hu2 hg2; have t1 := hu2.cell (show (w6.alloc (.cells #[.int .i64 (rr : Int), .int .i64 ((k : Int) / 16), .int .i64 (d : Int), .bool my, .bool false, .bool false, .int .i64 0] 94)).drew.cell? ⟨bF, 273, none⟩ = _ from HCV.out) HNE.out; have t2 : w2.frozen? ⟨bF, 273, none⟩ = false := (World.frozen?_of_block (w := (w6.alloc (.cells #[.int .i64 (rr : Int), .int .i64 ((k : Int) / 16), .int .i64 (d : Int), .bool my, .bool false, .bool false, .int .i64 0] 94)).drew) (hu2.block bF HBL.out HNE.out)).trans HZC.out)
                all_goals (
                  obtain ⟨hr3, hu3⟩ := HR2.out.list2 hu2 hs2 (fun j hj => by
                    obtain rfl : g2 = j := Option.some.inj hj
                    exact hg2)
                  have HR3 : Hid (RFl (w2.setCell ⟨bF, 273, none⟩ (.slice (some ⟨g2, o2, none⟩) (f.c.length + 1) cap2)) bF (.slice (some ⟨g2, o2, none⟩) (f.c.length + 1) cap2) { f with c := f.c ++ [(⟨(rr : Int), (k : Int) / 16, (d : Int), my, lf0⟩ : En)] }) := hr3
                  have HU3 : Hid _ := hu3
                  have HG2 : Hid _ := hg2
                  obtain ⟨hcp1, hcp2⟩ := hs2.cap
                  rw [List.length_append, List.length_singleton] at hcp1
                  clear hs2 hu2 hr3 hu3 hg2 t1 t2 ccv2 ccv HSL HNW HCV HZC HBL HNE c0 c1 c3 c4 c5 c6
                  revert HR3 HU3
                  generalize w2.setCell ⟨bF, 273, none⟩ (.slice (some ⟨g2, o2, none⟩) (f.c.length + 1) cap2) = w3
                  intro HR3 HU3
                  have s273 := HR3.out.cv
                  have z273 := HR3.out.z 273
                  by_cases h5 : f.c.length = 4
                  · have d7 : decide ((4 : Int) < ((f.c.length + 1 : Nat) : Int)) = true := by simp; omega
                    have d8 : decide ((4 : Int) < (f.c.length : Int) + 1) = true := by simp; omega
                    have n1 : ¬ cap2 = 1 := by omega
                    have n2 : 1 ≤ cap2 := by omega
                    obtain ⟨hr4, hu4⟩ := HR3.out.list2 (Upd.refl _ w3) (HR3.out.sl.rest (m := 4) (c := cap2 - 1) (by rw [List.length_append]; simp) (by omega) (by omega)) (fun j hj => Or.inl hj)
                    have HR4 : Hid (RFl (w3.setCell ⟨bF, 273, none⟩ (.slice (some ⟨g2, o2 + 7, none⟩) 4 (cap2 - 1))) bF (.slice (some ⟨g2, o2 + 7, none⟩) 4 (cap2 - 1)) _) := hr4
                    have HU4 : Hid (Upd (FOwn bF (.slice a f.c.length cap)) _ (w3.setCell ⟨bF, 273, none⟩ (.slice (some ⟨g2, o2 + 7, none⟩) 4 (cap2 - 1)))) := HU3.out.trans (Upd.one w3 bF 273 _) (fun _ _ e => Or.inl e)
                    have c2' := HBQ.out _ HU4.out
                    have HH5 : Hid _ := h5
                    clear hr4 hu4
                    go_wp2_with fail
                    go_ret2
                    rw [HF3.out]
                    unfold fStep
                    rw [if_neg (by simp), HPC2.out, if_neg (by omega)]
                    refine ⟨rfl, ?_⟩
                    show FlPost w bF _ { f with c := putC f.c _ } _
                    rw [putC_new HS1.out, if_pos (by omega), show (Value.slice a 4 cap) = .slice a f.c.length cap by rw [HH5.out]]
                    exact FlPost.of (HUX.out.trans HUA.out (fun _ _ f => f)) HR4.out HU4.out (fun j hj => by
                      obtain rfl : g2 = j := Option.some.inj hj
                      exact HG2.out)
                  · have d7 : decide ((4 : Int) < ((f.c.length + 1 : Nat) : Int)) = false := by simp; omega
                    have d8 : decide ((4 : Int) < (f.c.length : Int) + 1) = false := by simp; omega
                    have c2' := HBQ.out w3 HU3.out
                    go_wp2_with fail
                    go_ret2
                    rw [HF3.out]
                    unfold fStep
                    rw [if_neg (by simp), HPC2.out, if_neg (by omega)]
                    refine ⟨rfl, ?_⟩
                    show FlPost w bF _ { f with c := putC f.c _ } _
                    rw [putC_new HS1.out, if_neg (by omega)]
                    exact FlPost.of (HUX.out.trans HUA.out (fun _ _ f => f)) HR3.out HU3.out (fun j hj => by
                      obtain rfl : g2 = j := Option.some.inj hj
                      exact HG2.out))
            | true =>
              cases my with
              | false =>
                go_wp2_with fail
                go_ret2
                rw [HF3.out]
                unfold fStep
                rw [if_pos (by simp)]
                exact ⟨rfl, FlPost.same HR.out HUX.out⟩
              | true =>
                go_wp2_with fail
                refine Calls.mono HPG2.out ?_
                rintro e w6 ⟨rfl, hw6⟩
                subst hw6
                by_cases hp2 : 0 < pc2
                · have d5 : decide (0 < pc2) = true := by simp; exact hp2
                  go_wp2_with fail
                  go_ret2
                  rw [HF3.out]
                  unfold fStep
                  rw [if_neg (by simp), HPC2.out, if_pos (by omega)]
                  exact ⟨rfl, FlPost.same HR.out HUX.out⟩
                · have d5 : decide (0 < pc2) = false := by simp; omega
                  go_wp2_with fail
                  have ccv2 := HCV.out
                  go_region_law (refine step_append_o rfl (.tmp 131) (.tmp 133) 47 rfl i (.agg zeroEn) Tryz.underlying47 HI.out HE3.out HE1.out HE2.out (by rfl) (by first | rfl | simp [Act.eval, Act.put]) HSL.out ⟨w6.heap.size, 0, none⟩ 1 (⟨(rr : Int), (k : Int) / 16, (d : Int), true, lf0⟩ : En) (by first | rfl | simp [Act.eval, Act.put]) HNW.out (by omega) ?_; intro g2 o2 cap2 w2 hs2 hu2 hg2; have t1 := hu2.cell (show (w6.alloc (.cells #[.int .i64 (rr : Int), .int .i64 ((k : Int) / 16), .int .i64 (d : Int), .bool true, .bool false, .bool false, .int .i64 0] 94)).drew.cell? ⟨bF, 273, none⟩ = _ from HCV.out) HNE.out; have t2 : w2.frozen? ⟨bF, 273, none⟩ = false := (World.frozen?_of_block (w := (w6.alloc (.cells #[.int .i64 (rr : Int), .int .i64 ((k : Int) / 16), .int .i64 (d : Int), .bool true, .bool false, .bool false, .int .i64 0] 94)).drew) (hu2.block bF HBL.out HNE.out)).trans HZC.out)
                  all_goals (
                    obtain ⟨hr3, hu3⟩ := HR2.out.list2 hu2 hs2 (fun j hj => by
                      obtain rfl : g2 = j := Option.some.inj hj
                      exact hg2)
                    have HR3 : Hid (RFl (w2.setCell ⟨bF, 273, none⟩ (.slice (some ⟨g2, o2, none⟩) (f.c.length + 1) cap2)) bF (.slice (some ⟨g2, o2, none⟩) (f.c.length + 1) cap2) { f with c := f.c ++ [(⟨(rr : Int), (k : Int) / 16, (d : Int), true, lf0⟩ : En)] }) := hr3
                    have HU3 : Hid _ := hu3
                    have HG2 : Hid _ := hg2
                    obtain ⟨hcp1, hcp2⟩ := hs2.cap
                    rw [List.length_append, List.length_singleton] at hcp1
                    clear hs2 hu2 hr3 hu3 hg2 t1 t2 ccv2 ccv HSL HNW HCV HZC HBL HNE c0 c1 c3 c4 c5 c6
                    revert HR3 HU3
                    generalize w2.setCell ⟨bF, 273, none⟩ (.slice (some ⟨g2, o2, none⟩) (f.c.length + 1) cap2) = w3
                    intro HR3 HU3
                    have s273 := HR3.out.cv
                    have z273 := HR3.out.z 273
                    by_cases h5 : f.c.length = 4
                    · have d7 : decide ((4 : Int) < ((f.c.length + 1 : Nat) : Int)) = true := by simp; omega
                      have d8 : decide ((4 : Int) < (f.c.length : Int) + 1) = true := by simp; omega
                      have n1 : ¬ cap2 = 1 := by omega
                      have n2 : 1 ≤ cap2 := by omega
                      obtain ⟨hr4, hu4⟩ := HR3.out.list2 (Upd.refl _ w3) (HR3.out.sl.rest (m := 4) (c := cap2 - 1) (by rw [List.length_append]; simp) (by omega) (by omega)) (fun j hj => Or.inl hj)
                      have HR4 : Hid (RFl (w3.setCell ⟨bF, 273, none⟩ (.slice (some ⟨g2, o2 + 7, none⟩) 4 (cap2 - 1))) bF (.slice (some ⟨g2, o2 + 7, none⟩) 4 (cap2 - 1)) _) := hr4
                      have HU4 : Hid (Upd (FOwn bF (.slice a f.c.length cap)) _ (w3.setCell ⟨bF, 273, none⟩ (.slice (some ⟨g2, o2 + 7, none⟩) 4 (cap2 - 1)))) := HU3.out.trans (Upd.one w3 bF 273 _) (fun _ _ e => Or.inl e)
                      have c2' := HBQ.out _ HU4.out
                      have HH5 : Hid _ := h5
                      clear hr4 hu4
                      go_wp2_with fail
                      go_ret2
                      rw [HF3.out]
                      unfold fStep
                      rw [if_neg (by simp), HPC2.out, if_neg (by omega)]
                      refine ⟨rfl, ?_⟩
                      show FlPost w bF _ { f with c := putC f.c _ } _
                      rw [putC_new HS1.out, if_pos (by omega), show (Value.slice a 4 cap) = .slice a f.c.length cap by rw [HH5.out]]
                      exact FlPost.of (HUX.out.trans HUA.out (fun _ _ f => f)) HR4.out HU4.out (fun j hj => by
                        obtain rfl : g2 = j := Option.some.inj hj
                        exact HG2.out)
                    · have d7 : decide ((4 : Int) < ((f.c.length + 1 : Nat) : Int)) = false := by simp; omega
                      have d8 : decide ((4 : Int) < (f.c.length : Int) + 1) = false := by simp; omega
                      have c2' := HBQ.out w3 HU3.out
                      go_wp2_with fail
                      go_ret2
                      rw [HF3.out]
                      unfold fStep
                      rw [if_neg (by simp), HPC2.out, if_neg (by omega)]
                      refine ⟨rfl, ?_⟩
                      show FlPost w bF _ { f with c := putC f.c _ } _
                      rw [putC_new HS1.out, if_neg (by omega)]
                      exact FlPost.of (HUX.out.trans HUA.out (fun _ _ f => f)) HR3.out HU3.out (fun j hj => by
                        obtain rfl : g2 = j := Option.some.inj hj
                        exact HG2.out))
end Go.Proofs.YtadpibcgjgcjhaaGreat
/- The law's flat memory: Forget. -/
namespace Go.Proofs.YtadpibcgjgcjhaaGreat
open Go.ChangeShapes Go.WideShapes Go.ChangeAt Go.RowKit
set_option maxRecDepth 100000
attribute [local go_sem ↓] Go.wp_at_zero Go.wp_at_succ
variable {w w' : World} {v v' : Value} {es : List En} {bF : Nat} {f f' : Fl}

/-- What is forgotten: of a root, of one page or (below 0) of all. -/
def gone (r p : Int) (e : En) : Bool := (e.root == r) && !(decide (0 ≤ p) && (e.page != p))
theorem gone_at {r p : Int} (hp : 0 ≤ p) (e : En) : gone r p e = isAt r p e := by
  unfold gone isAt
  have : decide (0 ≤ p) = true := by simpa using hp
  rw [this]
  simp [bne]
theorem gone_all (r : Int) (e : En) : gone r (-1) e = (e.root == r) := by
  unfold gone
  simp
theorem keep_gone (es : List En) (r p : Int) : keepTo (fun i => !gone r p (atE es i)) es es.length = flt (gone r p) es := by
  rw [keepTo_flt _ (gone r p) es (fun _ _ => rfl) es.length (Nat.le_refl _), fltTo_all]
/-- Another list. -/
theorem RFl.list (r : RFl w bF v f) {w1 : World} {v1 : Value} {es : List En} (u : Upd (fun _ => False) w w1) (hs : SlO w1 v1 es) (hn : ∀ k, v1.ownBlock = some k → w.heap.size ≤ k) : FlPost w bF v { f with c := es } (w1.setCell ⟨bF, 273, none⟩ v1) := by
  have r1 := r.upd u (fun _ _ f => f)
  have hb : bF < w.heap.size := r.lt (Or.inl rfl)
  have ho : ∀ (o : Nat) (x : Value), o ≠ 273 → w1.cell? ⟨bF, o, none⟩ = some x → (w1.setCell ⟨bF, 273, none⟩ v1).cell? ⟨bF, o, none⟩ = some x := fun o x h1 h2 => by rw [World.cell?_setCell_other _ _ _ _ (addr_ne (Or.inr (by omega))), h2]
  have uq := Upd.one w1 bF 273 v1
  refine ⟨⟨v1, ⟨fun k hk => ho _ _ (by omega) (r1.st k hk), fun k i hk hi => ho _ _ (by omega) (r1.b k i hk hi), ho _ _ (by omega) r1.rt, World.cell?_setCell_same _ _ _ r1.cv, hs.upd uq (fun k hk e => by have := hn k hk; omega), fun e => (by have := hn bF e; omega), fun o => (by rw [World.frozen?_setCell]; exact r1.z o)⟩, fun k hk => ?_⟩, ?_⟩
  · rcases hk with e | e
    · exact Or.inl (Or.inl e)
    · exact Or.inr (hn k e)
  · exact Upd.trans ⟨u.os, u.tape, u.output, u.size, fun k hk _ => u.block k hk (fun f => f)⟩ uq (fun i _ e => Or.inl e)
set_option maxHeartbeats 2000000 in
theorem fForget_any (r : RFl w bF v f) (ok : FlOk f) (rt pg : Int) : Calls Tryz.prog 109 #[.pointer (some ⟨bF, 0, none⟩), .int .i64 rt, .int .i64 pg] w fun e w' => e = .returned (.tuple #[]) ∧ FlPost w bF v { f with c := flt (gone rt pg) f.c } w' := by
  have HR : Hid (RFl w bF v f) := r
  have hl4 := ok.len
  have ccv := r.cv
  obtain ⟨a, cap, rfl, hc1, hc2, hcc⟩ := r.sl.form
  have HCC : Hid _ := hcc
  have zc := r.z 273
  generalize hes : f.c = es at *
  have HES : Hid _ := hes
  clear r ok hcc hes
  go_enter Tryz.func109, Tryz.ntmps109
  go_wp2_with fail
  go_loopg [6, 7] es.length (fun g l i wi => ∃ k : Nat, k + g = es.length ∧ i = .int .i64 k ∧ SlC wi w.heap.size l (keepTo (fun i => !gone rt pg (atE es i)) es k) ∧ Upd (fun _ => False) w wi)
  case atStart => exact ⟨0, by omega, rfl, SlC.nil _ _, Upd.refl _ _⟩
  case round =>
    obtain ⟨k, hk, rfl, hS, hu⟩ := hrel
    have HK : Hid _ := hk
    have cc := hu.cell ccv (fun f => f)
    by_cases hlt : k < es.length
    · clear hk
      obtain ⟨g, o, rfl, hglt, hcell⟩ := HCC.out k hlt
      have hkl := keepTo_length (fun i => !gone rt pg (atE es i)) es k
      have hstep : keepTo (fun i => !gone rt pg (atE es i)) es (k + 1) = keepTo (fun i => !gone rt pg (atE es i)) es k ++ if (!gone rt pg (atE es k)) = true then [atE es k] else [] := rfl
      have HST : Hid _ := hstep
      clear hstep
      have k0 : (0 : Int) ≤ (k : Int) := by omega
      have k1 : (k : Int) < (es.length : Int) := by omega
      have hgd : gone rt pg (atE es k) = (((atE es k).root == rt) && !(decide (0 ≤ pg) && ((atE es k).page != pg))) := rfl
      cases b1 : ((atE es k).root == rt) with
      | false =>
        have d1 : ((atE es k).root != rt) = true := by simp only [bne, b1]; rfl
        have hg : (!gone rt pg (atE es k)) = true := by rw [hgd, b1]; rfl
        clear hgd b1
        have c0 := hu.cell (show w.cell? ⟨g, o + k * 7, none⟩ = some (.int .i64 (atE es k).root) from hcell 0 (by omega)) (fun f => f)
        have c1 := hu.cell (show w.cell? ⟨g, o + k * 7 + 1, none⟩ = some (.int .i64 (atE es k).page) by rw [Nat.add_assoc]; exact hcell 1 (by omega)) (fun f => f)
        have c2 := hu.cell (show w.cell? ⟨g, o + k * 7 + 2, none⟩ = some (.int .i64 (atE es k).dest) by rw [Nat.add_assoc]; exact hcell 2 (by omega)) (fun f => f)
        have c3 := hu.cell (show w.cell? ⟨g, o + k * 7 + 3, none⟩ = some (.bool (atE es k).may) by rw [Nat.add_assoc]; exact hcell 3 (by omega)) (fun f => f)
        have c4 := hu.cell (show w.cell? ⟨g, o + k * 7 + 4, none⟩ = some (.bool (atE es k).lf.there) by rw [Nat.add_assoc]; exact hcell 4 (by omega)) (fun f => f)
        have c5 := hu.cell (show w.cell? ⟨g, o + k * 7 + 5, none⟩ = some (.bool (atE es k).lf.wr) by rw [Nat.add_assoc]; exact hcell 5 (by omega)) (fun f => f)
        have c6 := hu.cell (show w.cell? ⟨g, o + k * 7 + 6, none⟩ = some (.int .i64 (atE es k).lf.fr) by rw [Nat.add_assoc]; exact hcell 6 (by omega)) (fun f => f)
        clear hcell HCC
        generalize atE es k = x at *
        generalize hfs : keepTo (fun i => !gone rt pg (atE es i)) es k = fs at *
        clear hfs
        obtain ⟨i, hi, he⟩ := Option.map_eq_some_iff.1 infoEn
        simp only [Prod.mk.injEq] at he
        obtain ⟨he1, he2, he3⟩ := he
        have HE1 : Hid _ := he1
        have HE2 : Hid _ := he2
        have HE3 : Hid _ := he3
        have HI : Hid _ := hi
        clear he1 he2 he3 hi
        have hnews : ∀ j u, (enCells x)[j]? = some u → (wr.alloc (.cells #[.int .i64 x.root, .int .i64 x.page, .int .i64 x.dest, .bool x.may, .bool x.lf.there, .bool x.lf.wr, .int .i64 x.lf.fr] 94)).cell? ((⟨wr.heap.size, 0, none⟩ : Addr).add j) = some u := by
          intro j u hj
          rw [Addr.add_mid, Nat.zero_add, World.cell?_alloc_new, ← hj]
          show (enCells x).toArray[j]? = _
          simp
        have HN : Hid _ := hnews
        have HO : Hid _ := World.ownsRow.alloc hS (.cells #[.int .i64 x.root, .int .i64 x.page, .int .i64 x.dest, .bool x.may, .bool x.lf.there, .bool x.lf.wr, .int .i64 x.lf.fr] 94)
        have HB : Hid (w.heap.size ≤ (wr.alloc (.cells #[.int .i64 x.root, .int .i64 x.page, .int .i64 x.dest, .bool x.may, .bool x.lf.there, .bool x.lf.wr, .int .i64 x.lf.fr] 94)).heap.size) := show _ ≤ _ by have := hu.size; simp only [World.size_alloc]; omega
        have H1 : Hid (∀ u ∈ enCells x, u.oneCell' = true) := show ∀ u ∈ enCells x, _ from fun u hu' => enAll_one [x] u (by simpa [enAll] using hu')
        clear hnews
        go_wp2_with (at_builtin; refine wpList_append_lies _ (by rfl) _ _ 47 (by rfl) w.heap.size 94 i (.agg zeroEn) 7 48 Tryz.underlying47 HI.out HE3.out HE1.out HE2.out (by rfl) (by omega) u6 fs.length (enAll fs) (by rfl) HO.out ⟨wr.heap.size, 0, none⟩ 1 1 (enCells x) (by rfl) (by rfl) HN.out H1.out (by omega) (by unfold maxLen; omega) (by omega) HB.out (wr.heap.size + 1) (by simp) ?_; intro g2 cap2 w2 hown hgrow hat hlt2)
        obtain ⟨hS2, hu2⟩ := SlC.grown hu hS _ hown hgrow
        clear hown hgrow hat hlt2
        go_roundg (es.length - (k + 1))
        case rel => exact ⟨k + 1, by omega, by go_num, by rw [HST.out, if_pos hg]; exact hS2, hu2⟩
        case measure => have := HK.out; omega
      | true =>
        have d1 : ((atE es k).root != rt) = false := by simp only [bne, b1]; rfl
        cases b2 : decide (0 ≤ pg) with
        | false =>
          have hg : (!gone rt pg (atE es k)) = false := by rw [hgd, b1, b2]; rfl
          clear hgd b1
          have c0 := hu.cell (show w.cell? ⟨g, o + k * 7, none⟩ = some (.int .i64 (atE es k).root) from hcell 0 (by omega)) (fun f => f)
          have c1 := hu.cell (show w.cell? ⟨g, o + k * 7 + 1, none⟩ = some (.int .i64 (atE es k).page) by rw [Nat.add_assoc]; exact hcell 1 (by omega)) (fun f => f)
          clear hcell HCC
          go_wp2_with fail
          go_roundg (es.length - (k + 1))
          case rel => exact ⟨k + 1, by omega, by go_num, by rw [HST.out, if_neg (by rw [hg]; simp), List.append_nil]; exact hS, hu⟩
          case measure => have := HK.out; omega
        | true =>
          cases b3 : ((atE es k).page != pg) with
          | true =>
            have hg : (!gone rt pg (atE es k)) = true := by rw [hgd, b1, b2, b3]; rfl
            clear hgd b1
            have c0 := hu.cell (show w.cell? ⟨g, o + k * 7, none⟩ = some (.int .i64 (atE es k).root) from hcell 0 (by omega)) (fun f => f)
            have c1 := hu.cell (show w.cell? ⟨g, o + k * 7 + 1, none⟩ = some (.int .i64 (atE es k).page) by rw [Nat.add_assoc]; exact hcell 1 (by omega)) (fun f => f)
            have c2 := hu.cell (show w.cell? ⟨g, o + k * 7 + 2, none⟩ = some (.int .i64 (atE es k).dest) by rw [Nat.add_assoc]; exact hcell 2 (by omega)) (fun f => f)
            have c3 := hu.cell (show w.cell? ⟨g, o + k * 7 + 3, none⟩ = some (.bool (atE es k).may) by rw [Nat.add_assoc]; exact hcell 3 (by omega)) (fun f => f)
            have c4 := hu.cell (show w.cell? ⟨g, o + k * 7 + 4, none⟩ = some (.bool (atE es k).lf.there) by rw [Nat.add_assoc]; exact hcell 4 (by omega)) (fun f => f)
            have c5 := hu.cell (show w.cell? ⟨g, o + k * 7 + 5, none⟩ = some (.bool (atE es k).lf.wr) by rw [Nat.add_assoc]; exact hcell 5 (by omega)) (fun f => f)
            have c6 := hu.cell (show w.cell? ⟨g, o + k * 7 + 6, none⟩ = some (.int .i64 (atE es k).lf.fr) by rw [Nat.add_assoc]; exact hcell 6 (by omega)) (fun f => f)
            clear hcell HCC
            generalize atE es k = x at *
            generalize hfs : keepTo (fun i => !gone rt pg (atE es i)) es k = fs at *
            clear hfs
            obtain ⟨i, hi, he⟩ := Option.map_eq_some_iff.1 infoEn
            simp only [Prod.mk.injEq] at he
            obtain ⟨he1, he2, he3⟩ := he
            have HE1 : Hid _ := he1
            have HE2 : Hid _ := he2
            have HE3 : Hid _ := he3
            have HI : Hid _ := hi
            clear he1 he2 he3 hi
            have hnews : ∀ j u, (enCells x)[j]? = some u → (wr.alloc (.cells #[.int .i64 x.root, .int .i64 x.page, .int .i64 x.dest, .bool x.may, .bool x.lf.there, .bool x.lf.wr, .int .i64 x.lf.fr] 94)).cell? ((⟨wr.heap.size, 0, none⟩ : Addr).add j) = some u := by
              intro j u hj
              rw [Addr.add_mid, Nat.zero_add, World.cell?_alloc_new, ← hj]
              show (enCells x).toArray[j]? = _
              simp
            have HN : Hid _ := hnews
            have HO : Hid _ := World.ownsRow.alloc hS (.cells #[.int .i64 x.root, .int .i64 x.page, .int .i64 x.dest, .bool x.may, .bool x.lf.there, .bool x.lf.wr, .int .i64 x.lf.fr] 94)
            have HB : Hid (w.heap.size ≤ (wr.alloc (.cells #[.int .i64 x.root, .int .i64 x.page, .int .i64 x.dest, .bool x.may, .bool x.lf.there, .bool x.lf.wr, .int .i64 x.lf.fr] 94)).heap.size) := show _ ≤ _ by have := hu.size; simp only [World.size_alloc]; omega
            have H1 : Hid (∀ u ∈ enCells x, u.oneCell' = true) := show ∀ u ∈ enCells x, _ from fun u hu' => enAll_one [x] u (by simpa [enAll] using hu')
            clear hnews
            go_wp2_with (at_builtin; refine wpList_append_lies _ (by rfl) _ _ 47 (by rfl) w.heap.size 94 i (.agg zeroEn) 7 48 Tryz.underlying47 HI.out HE3.out HE1.out HE2.out (by rfl) (by omega) u6 fs.length (enAll fs) (by rfl) HO.out ⟨wr.heap.size, 0, none⟩ 1 1 (enCells x) (by rfl) (by rfl) HN.out H1.out (by omega) (by unfold maxLen; omega) (by omega) HB.out (wr.heap.size + 1) (by simp) ?_; intro g2 cap2 w2 hown hgrow hat hlt2)
            obtain ⟨hS2, hu2⟩ := SlC.grown hu hS _ hown hgrow
            clear hown hgrow hat hlt2
            go_roundg (es.length - (k + 1))
            case rel => exact ⟨k + 1, by omega, by go_num, by rw [HST.out, if_pos hg]; exact hS2, hu2⟩
            case measure => have := HK.out; omega
          | false =>
            have hg : (!gone rt pg (atE es k)) = false := by rw [hgd, b1, b2, b3]; rfl
            clear hgd b1
            have c0 := hu.cell (show w.cell? ⟨g, o + k * 7, none⟩ = some (.int .i64 (atE es k).root) from hcell 0 (by omega)) (fun f => f)
            have c1 := hu.cell (show w.cell? ⟨g, o + k * 7 + 1, none⟩ = some (.int .i64 (atE es k).page) by rw [Nat.add_assoc]; exact hcell 1 (by omega)) (fun f => f)
            clear hcell HCC
            go_wp2_with fail
            go_roundg (es.length - (k + 1))
            case rel => exact ⟨k + 1, by omega, by go_num, by rw [HST.out, if_neg (by rw [hg]; simp), List.append_nil]; exact hS, hu⟩
            case measure => have := HK.out; omega
    · have ek : k = es.length := by omega
      subst ek
      clear hk HCC
      rw [keep_gone] at hS
      have HP : Hid (FlPost w bF (.slice a es.length cap) { f with c := flt (gone rt pg) es } (wr.setCell ⟨bF, 273, none⟩ u6)) := HR.out.list hu (SlO.of hS) (fun j hj => (World.ownsRow.lt hS j hj).1)
      obtain ⟨a6, cap6, rfl, _⟩ := hS.form
      have zc6 : wr.frozen? ⟨bF, 273, none⟩ = false := by rw [World.frozen?_of_block (w := w) (hu.block bF (HR.out.lt (Or.inl rfl)) (fun f => f))]; exact zc
      clear zc
      go_wp2_with fail
      go_end0
      exact ⟨rfl, HP.out⟩
end Go.Proofs.YtadpibcgjgcjhaaGreat
