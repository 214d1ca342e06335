/- Package host: firstLike, seal. -/
import Derived.Test.YtadpibcgjgcjhaaPart18
import Derived.Test.YtadpibcgjgcjhaaPart12
namespace Go.Proofs.Ytadpibcgjgcjhaa
open Go.ChangeShapes Go.WideShapes Go.ChangeAt Go.RowKit
set_option maxRecDepth 100000
attribute [local go_sem ↓] Go.wp_at_zero Go.wp_at_succ
variable {w w' : World} {bh bp bf : Nat} {G G' : Nat → G3} {h h' : Hs} {x : Gs} {s' : Pl} {x' : Gs} {b : Mp} {W : Int}

/-- The first leaf ahead with the same bytes. -/
def hLike (h : Hs) (fr : Int) (N : Nat) : Lf := match hFst h fr 0 N with
  | some k => rowL h k
  | none => lf0
set_option maxHeartbeats 2000000 in
theorem firstLike_any (m : HM w bh bp bf G h) (hi : HInv h W) (fr : Int) (N : Nat) (hN : N ≤ 64) : Calls Try.prog 126 #[.pointer (some ⟨bh, 0, none⟩), .int .i64 fr, .int .i64 (N : Int)] w (MRead w (.agg #[.bool (hLike h fr N).there, .bool (hLike h fr N).wr, .int .i64 (hLike h fr N).fr])) := by
  have HMM : Hid (HM w bh bp bf G h) := m
  have HI : Hid (HInv h W) := hi
  have hlk : ∀ k, k < N → hHit h fr k = true → (∀ i, i < k → hHit h fr i = false) → hLike h fr N = rowL h k := fun k hk hh hb => by
    unfold hLike
    rw [hFst_at hk hb hh]
  have hln : (∀ i, i < N → hHit h fr i = false) → hLike h fr N = lf0 := fun hb => by
    unfold hLike
    rw [hFst_non hb]
  have HLK : Hid _ := hlk
  have HLN : Hid _ := hln
  obtain ⟨y0, y1, y2, z0, z1, z2⟩ := box0 w 69
  have HB0 : Hid (LfAt (w.alloc (.cells #[.bool false, .bool false, .int .i64 0] 69)) w.heap.size lf0) := ⟨y0, y1, y2⟩
  have HZ0 : Hid (∀ o, (w.alloc (.cells #[.bool false, .bool false, .int .i64 0] 69)).frozen? ⟨w.heap.size, o, none⟩ = false) := fun o => World.frozen?_alloc_new _ _ _ _
  have HU0 : Hid (Upd (fun _ => False) w (w.alloc (.cells #[.bool false, .bool false, .int .i64 0] 69))) := (Upd.refl _ _).alloc _
  have hzs : w.heap.size < (w.alloc (.cells #[.bool false, .bool false, .int .i64 0] 69)).heap.size := by simp
  clear m hi hlk hln y0 y1 y2 z0 z1 z2
  generalize hLike h fr N = lk at *
  go_enter Try.func126, Try.ntmps126
  go_wp2_with fail
  revert HB0 HZ0 HU0 hzs
  generalize w.alloc (.cells #[.bool false, .bool false, .int .i64 0] 69) = w0
  generalize hqs : w.heap.size = q0
  have HQS : Hid _ := hqs
  clear hqs
  intro HB0 HZ0 HU0 hzs
  go_loopg [11] N (fun g i wr => ∃ k : Nat, k + g = N ∧ i = .int .i64 k ∧ Hid (∀ i, i < k → hHit h fr i = false) ∧ Hid (Upd (fun _ => False) w0 wr))
  case atStart => exact ⟨0, by omega, rfl, fun i hi => absurd hi (by omega), Upd.refl _ _⟩
  case round =>
    obtain ⟨k, hk, rfl, HN, HU⟩ := hrel
    have HK : Hid _ := hk
    clear hk
    by_cases hlt : k < N
    · have d : decide ((k : Int) < (N : Int)) = true := by simp; omega
      have HA : Hid _ := fun wr => at_any wr k (by omega)
      go_wp2_with fail
      refine Calls.mono (HA.out _) ?_
      rintro e w1 ⟨rfl, hu1⟩
      have HU1 : Hid (Upd (fun _ => False) w0 w1) := HU.out.trans hu1 (fun _ _ f => f)
      have hl := hLeaf_any (HMM.out.same (HU0.out.trans HU1.out (fun _ _ f => f))) HI.out ((k / 16 : Nat) : Int) ((k % 16 : Nat) : Int)
      have hrw := hLeaf_row h (k := k) (by omega)
      have hht : hHit h fr k = ((rowL h k).there && h.s.same (rowL h k).fr fr) := rfl
      rw [← hrw] at hht
      have HLKk : Hid _ := HLK.out k hlt
      rw [← hrw] at HLKk
      clear hrw
      revert hl hht HLKk
      generalize hLeaf h ((k / 16 : Nat) : Int) ((k % 16 : Nat) : Int) = r
      obtain ⟨⟨lt, lw, lf⟩, r2⟩ := r
      simp only
      generalize errV r2 = ev
      intro hl hht HLKk
      have HL : Hid _ := hl
      have HHT : Hid _ := hht
      clear hl hht hu1 HA HU
      go_wp2_with fail
      refine Calls.mono HL.out ?_
      rintro e w2 ⟨rfl, hu2⟩
      have HU2 : Hid (Upd (fun _ => False) w0 w2) := HU1.out.trans hu2 (fun _ _ f => f)
      obtain ⟨y0, y1, y2, z0, z1, z2⟩ := box0 w2 69
      have HX : Hid (LfAt (w2.alloc (.cells #[.bool lt, .bool lw, .int .i64 lf] 69)) w2.heap.size ⟨lt, lw, lf⟩) := LfAt.new w2 69 ⟨lt, lw, lf⟩
      have HU3 : Hid (Upd (fun _ => False) w0 (w2.alloc (.cells #[.bool lt, .bool lw, .int .i64 lf] 69))) := HU2.out.alloc _
      clear hu2 HL HU1
      go_wp2_with fail
      clear y0 y1 y2 z0 z1 z2 HU2
      revert HX HU3
      generalize w2.alloc (.cells #[.bool lt, .bool lw, .int .i64 lf] 69) = w3
      generalize w2.heap.size = q3
      intro HX HU3
      have HM3 : Hid (HM w3 bh bp bf G h) := HMM.out.same (HU0.out.trans HU3.out (fun _ _ f => f))
      have c0 := HM3.out.c0
      have x0 := HX.out.c0
      have x1 := HX.out.c1
      have x2 := HX.out.c2
      simp only at x0 x1 x2
      cases lt with
      | false =>
        go_quiet (fail)
        go_wp2_with fail
        go_roundg (N - (k + 1))
        case rel =>
          refine ⟨k + 1, by omega, by go_num, fun i hi => ?_, HU3.out.drewN _⟩
          by_cases e : i = k
          · subst e; exact HHT.out
          · exact HN.out i (by omega)
        case measure => have := HK.out; omega
      | true =>
        have HS : Hid _ := same_any w3.drew bp bf lf fr h.s HM3.out.drew.pool
        revert HS HHT
        generalize h.s.same lf fr = sm
        intro HHT HS
        go_region_held3 (fun w' => w'.cell? ⟨bh, 0, none⟩ = some (.pointer (some ⟨bp, 0, none⟩)) ∧ w'.cell? ⟨q3, 0, none⟩ = some (.bool true) ∧ w'.cell? ⟨q3, 2, none⟩ = some (.int .i64 lf)) (first | exact ⟨c0, x0, x2⟩ | exact h4c)
          (first | (go_at_call 25; refine Calls.mono HS.out ?_; rintro e w4 ⟨rfl, m4, rfl⟩; have h4c : (w3.drew.drewN m4).cell? ⟨bh, 0, none⟩ = some (.pointer (some ⟨bp, 0, none⟩)) ∧ (w3.drew.drewN m4).cell? ⟨q3, 0, none⟩ = some (.bool true) ∧ (w3.drew.drewN m4).cell? ⟨q3, 2, none⟩ = some (.int .i64 lf) := ⟨c0, x0, x2⟩))
        cases sm with
        | false =>
          go_wp2_with fail
          go_roundg (N - (k + 1))
          case rel =>
            refine ⟨k + 1, by omega, by go_num, fun i hi => ?_, HU3.out.drewN _⟩
            by_cases e : i = k
            · subst e; exact HHT.out
            · exact HN.out i (by omega)
          case measure => have := HK.out; omega
        | true =>
          have hlk := HLKk.out HHT.out HN.out
          have HU5 : Hid (Upd (fun _ => False) w0 (w3.drewN (1 + m4))) := HU3.out.drewN _
          obtain ⟨b0, b1, b2⟩ := HB0.out.upd HU3.out (fun f => f)
          simp only [lf0] at b0 b1 b2
          have zz : ∀ o, w3.frozen? ⟨q0, o, none⟩ = false := fun o => by rw [World.frozen?_of_block (HU3.out.block q0 hzs (fun f => f))]; exact HZ0.out o
          have z0 := zz 0
          have z1 := zz 1
          have z2 := zz 2
          have HLQ : Hid _ := hlk
          clear zz hlk
          go_wp2_with fail
          refine bodyPost_ret (v := .agg #[.bool true, .bool lw, .int .i64 lf]) (by simp [results, Try.results126, go_sem, b0, b1, b2]) rfl ⟨by rw [HLQ.out], (HU0.out.trans HU5.out (fun _ _ f => f)).trans (Upd.three (w3.drewN (1 + m4)) q0 0 1 2 _ _ _) (fun i hi e => by have := HQS.out; omega)⟩
    · obtain rfl : k = N := by have := HK.out; omega
      have d : decide ((k : Int) < (k : Int)) = false := by simp
      have hlk := HLN.out HN.out
      obtain ⟨b0, b1, b2⟩ := HB0.out.upd HU.out (fun f => f)
      simp only [lf0] at b0 b1 b2
      have zz : ∀ o, wr.frozen? ⟨q0, o, none⟩ = false := fun o => by rw [World.frozen?_of_block (HU.out.block q0 hzs (fun f => f))]; exact HZ0.out o
      have z0 := zz 0
      have z1 := zz 1
      have z2 := zz 2
      have HLQ : Hid _ := hlk
      clear zz hlk
      go_wp2_with fail
      refine bodyPost_ret (v := .agg #[.bool false, .bool false, .int .i64 0]) (by simp [results, Try.results126, go_sem, b0, b1, b2]) rfl ⟨by rw [HLQ.out]; rfl, (HU0.out.trans HU.out (fun _ _ f => f)).trans (Upd.three wr q0 0 1 2 _ _ _) (fun i hi e => by have := HQS.out; omega)⟩
theorem own_seal {fr : Int} {i k : Nat} (hk : Own bh bp bf G (hSealTo h fr i) k) : Own bh bp bf G h k := by
  rcases hk with e | e | e | ⟨j, y, hy, e⟩
  · exact Or.inl e
  · exact Or.inr (Or.inl e)
  · exact Or.inr (Or.inr (Or.inl e))
  · obtain ⟨x, hx, _⟩ := sealTo_g h fr i hy
    exact Or.inr (Or.inr (Or.inr ⟨j, x, hx, e⟩))
theorem hLeaf_none {k : Nat} (hk : k < 64) (hx : h.g (k / 16) = none) : hLeaf h ((k / 16 : Nat) : Int) ((k % 16 : Nat) : Int) = (lf0, 2) := by
  have hw : hWho h ((k / 16 : Nat) : Int) = 2 := by unfold hWho; rw [if_neg (by omega), Int.toNat_natCast, hx]
  unfold hLeaf
  rw [hw, if_pos (by omega)]
theorem hLeaf_some {k : Nat} (hk : k < 64) (hx : h.g (k / 16) = some x) : hLeaf h ((k / 16 : Nat) : Int) ((k % 16 : Nat) : Int) = (x.m.lf (k % 16), 0) := by
  obtain ⟨h1, h2⟩ := hWho_some hx (show k / 16 < 4 by omega)
  unfold hLeaf
  rw [h1, if_neg (by omega), h2]
  unfold lfR
  rw [if_pos ((onB_iff _).2 (by omega)), Int.toNat_natCast]
set_option maxHeartbeats 2000000 in
theorem hseal_any (m : HM w bh bp bf G h) (hi : HInv h W) (fr : Int) : Calls Try.prog 127 #[.pointer (some ⟨bh, 0, none⟩), .int .i64 fr] w fun e w' => e = .returned (.tuple #[]) ∧ HM w' bh bp bf G (hSealTo h fr 64) ∧ Upd (Own bh bp bf G h) w w' := by
  have HMM : Hid (HM w bh bp bf G h) := m
  have HI : Hid (HInv h W) := hi
  clear m hi
  go_enter Try.func127, Try.ntmps127
  go_wp2_with fail
  go_loopg [9] 64 (fun g i wr => ∃ k : Nat, k + g = 64 ∧ i = .int .i64 k ∧ Hid (HM wr bh bp bf G (hSealTo h fr k)) ∧ Hid (Upd (Own bh bp bf G h) w wr))
  case atStart => exact ⟨0, by omega, rfl, by rw [sealTo_zero]; exact HMM.out, Upd.refl _ _⟩
  case round =>
    obtain ⟨k, hk, rfl, HMk, HU⟩ := hrel
    have HK : Hid _ := hk
    clear hk
    by_cases hlt : k < 64
    · have HA : Hid _ := fun wr => at_any wr k hlt
      go_wp2_with fail
      refine Calls.mono (HA.out _) ?_
      rintro e w1 ⟨rfl, hu1⟩
      have HM1 : Hid (HM w1 bh bp bf G (hSealTo h fr k)) := HMk.out.same hu1
      have HU1 : Hid (Upd (Own bh bp bf G h) w w1) := HU.out.trans (MRead.no _ hu1) (fun _ _ f => f)
      have hl := hLeaf_any HM1.out (HI.out.sealTo fr k) ((k / 16 : Nat) : Int) ((k % 16 : Nat) : Int)
      clear hu1 HA HU HMk
      cases hx : h.g (k / 16) with
      | none =>
        rw [hLeaf_none hlt (show (hSealTo h fr k).g (k / 16) = none by show (h.g (k / 16)).map _ = none; rw [hx]; rfl)] at hl
        simp only [errV2, lf0] at hl
        have HL : Hid _ := hl
        have HSN : Hid _ := sealTo_none h fr hx
        clear hl hx
        go_wp2_with fail
        refine Calls.mono HL.out ?_
        rintro e w2 ⟨rfl, hu2⟩
        obtain ⟨y0, y1, y2, z0, z1, z2⟩ := box0 w2 69
        have HM3 : Hid (HM (w2.alloc (.cells #[.bool false, .bool false, .int .i64 0] 69)) bh bp bf G (hSealTo h fr k)) := HM1.out.same (hu2.alloc _)
        have HU3 : Hid (Upd (Own bh bp bf G h) w (w2.alloc (.cells #[.bool false, .bool false, .int .i64 0] 69))) := HU1.out.trans (MRead.no _ (hu2.alloc _)) (fun _ _ f => f)
        clear hu2 HL
        go_wp2_with fail
        go_roundg (64 - (k + 1))
        case rel => exact ⟨k + 1, by omega, by go_num, by rw [HSN.out]; exact HM3.out, HU3.out⟩
        case measure => have := HK.out; omega
      | some z =>
        have hat := sealTo_at h fr k hx
        have h1 := sealTo_leaf z.m (16 * (k / 16)) fr k (k % 16)
        rw [hLeaf_some hlt hat] at hl
        simp only [errV_zero] at hl
        rw [h1.1, h1.2] at hl
        have HL : Hid _ := hl
        have HX : Hid (h.g (k / 16) = some z) := hx
        have HAT : Hid _ := hat
        clear hl hx hat h1
        go_wp2_with fail
        refine Calls.mono HL.out ?_
        rintro e w2 ⟨rfl, hu2⟩
        revert HL
        generalize hlw : ((sealOf z.m (16 * (k / 16)) fr k).lf (k % 16)).wr = lw
        intro HL
        obtain ⟨y0, y1, y2, z0, z1, z2⟩ := box0 w2 69
        have hu3 := hu2.alloc (.cells #[.bool (z.m.lf (k % 16)).there, .bool lw, .int .i64 (z.m.lf (k % 16)).fr] 69)
        have HM3 : Hid (HM (w2.alloc (.cells #[.bool (z.m.lf (k % 16)).there, .bool lw, .int .i64 (z.m.lf (k % 16)).fr] 69)) bh bp bf G (hSealTo h fr k)) := HM1.out.same hu3
        have HU3 : Hid (Upd (Own bh bp bf G h) w (w2.alloc (.cells #[.bool (z.m.lf (k % 16)).there, .bool lw, .int .i64 (z.m.lf (k % 16)).fr] 69))) := HU1.out.trans (MRead.no _ hu3) (fun _ _ f => f)
        have k0 : (0 : Int) ≤ (k : Int) / 16 := by omega
        have k1 : (k : Int) / 16 < 4 := by omega
        have hk4 : k / 16 < 4 := by omega
        clear hu2 hu3 HL hlw
        by_cases hzt : (z.m.lf (k % 16)).there = true
        · by_cases hzf : (z.m.lf (k % 16)).fr = fr
          · have df : ((z.m.lf (k % 16)).fr == fr) = true := by simp [hzf]
            have HSS : Hid _ := sealTo_step h fr HX.out hzt hzf
            have HC : Hid _ := HM3.out.go (HI.out.sealTo fr k) HAT.out (fun g => g.seal ((k % 16 : Nat) : Int))
            rw [hzt] at HM3 HU3 HC ⊢
            have cz := HM3.out.cSome hk4 HAT.out
            clear hzt hzf
            go_wp2_with fail
            refine Calls.mono HC.out ?_
            rintro e w5 ⟨rfl, hm5, hu5⟩
            simp only at hm5
            rw [show (hSealTo h fr k).s = h.s from rfl, HSS.out] at hm5
            have HM5 : Hid (HM w5 bh bp bf G (hSealTo h fr (k + 1))) := hm5
            have HU5 : Hid (Upd (Own bh bp bf G h) w w5) := HU3.out.trans hu5 (fun i _ e => own_seal e)
            clear hm5 hu5 HC
            go_wp2_with fail
            go_roundg (64 - (k + 1))
            case rel => exact ⟨k + 1, by omega, by go_num, HM5.out, HU5.out⟩
            case measure => have := HK.out; omega
          · have df : ((z.m.lf (k % 16)).fr == fr) = false := by simp [hzf]
            have HSS : Hid _ := sealTo_skip h fr HX.out (fun c => hzf c.2)
            rw [hzt] at HM3 HU3 ⊢
            clear hzt hzf
            go_wp2_with fail
            go_roundg (64 - (k + 1))
            case rel => exact ⟨k + 1, by omega, by go_num, by rw [HSS.out]; exact HM3.out, HU3.out⟩
            case measure => have := HK.out; omega
        · have hzt' : (z.m.lf (k % 16)).there = false := by simpa using hzt
          have HSS : Hid _ := sealTo_skip h fr HX.out (fun c => hzt c.1)
          rw [hzt'] at HM3 HU3 ⊢
          clear hzt hzt'
          go_wp2_with fail
          go_roundg (64 - (k + 1))
          case rel => exact ⟨k + 1, by omega, by go_num, by rw [HSS.out]; exact HM3.out, HU3.out⟩
          case measure => have := HK.out; omega
    · obtain rfl : k = 64 := by have := HK.out; omega
      go_wp2_with fail
      go_end0
      exact ⟨rfl, HMk.out, HU.out⟩
end Go.Proofs.Ytadpibcgjgcjhaa
/- Scan, plainly: its cases. -/
namespace Go.Proofs.Ytadpibcgjgcjhaa
open Go.RowKit
variable {h : Hs} {x : Gs}

theorem hScan_wrong {n : Int} (p : Int) (h0 : 0 < hWho h n) : hScan h n p = ((false, hWho h n), h) := by unfold hScan; rw [if_pos h0]
theorem hScan_off {k : Nat} {p : Int} (hx : h.g k = some x) (hk : k < 4) (hp : onB p = false) : hScan h k p = ((false, 1), h) := by
  obtain ⟨e1, _⟩ := hWho_some hx hk
  unfold hScan
  rw [e1, if_neg (by omega), hp]
  rfl
theorem hScan_gone {k p : Nat} (hx : h.g k = some x) (hk : k < 4) (hp : p < 16) (ht : (x.m.lf p).there = false) : hScan h k p = ((false, 0), h) := by
  obtain ⟨e1, e2⟩ := hWho_some hx hk
  unfold hScan
  rw [e1, if_neg (by omega), if_pos ((onB_iff _).2 ⟨by omega, by omega⟩), e2]
  simp only [Int.toNat_natCast, ht]
  simp
theorem hScan_no {k p : Nat} (hx : h.g k = some x) (hk : k < 4) (hp : p < 16) (ht : (x.m.lf p).there = true) (hf : hFst h (x.m.lf p).fr 0 (16 * k + p) = none) : hScan h k p = ((false, 0), h) := by
  obtain ⟨e1, e2⟩ := hWho_some hx hk
  unfold hScan
  rw [e1, if_neg (by omega), if_pos ((onB_iff _).2 ⟨by omega, by omega⟩), e2]
  simp only [Int.toNat_natCast, ht, if_true]
  rw [hf]
theorem hScan_hit {k p : Nat} (hx : h.g k = some x) (hk : k < 4) (hp : p < 16) (ht : (x.m.lf p).there = true) (j : Nat) (hf : hFst h (x.m.lf p).fr 0 (16 * k + p) = some j) : hScan h k p = if (rowL h j).fr = (x.m.lf p).fr then ((false, 0), h) else ((true, (gJoin h.s (hAt (hSealTo h (rowL h j).fr 64) k) p (rowL h j).fr).1), (hSealTo h (rowL h j).fr 64).put k (gJoin h.s (hAt (hSealTo h (rowL h j).fr 64) k) p (rowL h j).fr).2) := by
  obtain ⟨e1, e2⟩ := hWho_some hx hk
  unfold hScan
  rw [e1, if_neg (by omega), if_pos ((onB_iff _).2 ⟨by omega, by omega⟩), e2]
  simp only [Int.toNat_natCast, ht, if_true]
  rw [hf]
end Go.Proofs.Ytadpibcgjgcjhaa
/- Package host: Scan, ScanAll. -/
namespace Go.Proofs.Ytadpibcgjgcjhaa
open Go.ChangeShapes Go.WideShapes Go.ChangeAt Go.RowKit
set_option maxRecDepth 100000
attribute [local go_sem ↓] Go.wp_at_zero Go.wp_at_succ
variable {w w' : World} {bh bp bf : Nat} {G G' : Nat → G3} {h h' : Hs} {x : Gs} {s' : Pl} {x' : Gs} {b : Mp} {W : Int} {t : Nat → Nat → Int} {F : Nat → Option Fl}

/-- How Scan ends. -/
def MScan (w : World) (bh bp bf : Nat) (G : Nat → G3) (h : Hs) (r : (Bool × Int) × Hs) (e : Ending) (w' : World) : Prop :=
  e = .returned (.tuple #[.bool r.1.1, errV r.1.2]) ∧ HM w' bh bp bf G r.2 ∧ Upd (Own bh bp bf G h) w w'
theorem hLike_none {fr : Int} {N : Nat} (hf : hFst h fr 0 N = none) : hLike h fr N = lf0 := by unfold hLike; rw [hf]
theorem hLike_some {fr : Int} {N j : Nat} (hf : hFst h fr 0 N = some j) : hLike h fr N = rowL h j := by unfold hLike; rw [hf]
theorem hScan_bad (m : HM w bh bp bf G h) (hi : HInv h W) (n p c : Int) (hc : c ≠ 0) (hl : hLeaf h n p = (lf0, c)) : Calls Try.prog 103 #[.pointer (some ⟨bh, 0, none⟩), .int .i64 n, .int .i64 p] w (MScan w bh bp bf G h ((false, c), h)) := by
  have HMM : Hid (HM w bh bp bf G h) := m
  have hla := hLeaf_any m hi n p
  rw [hl] at hla
  simp only [lf0, errV_no hc] at hla
  have HL : Hid _ := hla
  clear m hi hl hla
  go_enter Try.func103, Try.ntmps103
  go_wp2_with fail
  refine Calls.mono HL.out ?_
  rintro e w2 ⟨rfl, hu2⟩
  obtain ⟨y0, y1, y2, z0, z1, z2⟩ := box0 w2 69
  go_wp2_with fail
  go_ret2
  exact ⟨by rw [errV_no hc]; first | done | rfl, HMM.out.same (hu2.alloc _), MRead.no _ (hu2.alloc _)⟩
theorem hScan_out (m : HM w bh bp bf G h) (hi : HInv h W) {k p : Nat} (hk : k < 4) (hp : p < 16) (hx : h.g k = some x) (ht : (x.m.lf p).there = false) : Calls Try.prog 103 #[.pointer (some ⟨bh, 0, none⟩), .int .i64 (k : Int), .int .i64 (p : Int)] w (MScan w bh bp bf G h ((false, 0), h)) := by
  have HMM : Hid (HM w bh bp bf G h) := m
  have hla := hLeaf_any m hi (k : Int) (p : Int)
  have hl : hLeaf h (k : Int) (p : Int) = (x.m.lf p, 0) := by
    obtain ⟨h1, h2⟩ := hWho_some hx hk
    unfold hLeaf lfR
    rw [h1, if_neg (by omega), h2, if_pos ((onB_iff _).2 (by omega)), Int.toNat_natCast]
  rw [hl] at hla
  simp only [ht, errV_zero] at hla
  have HL : Hid _ := hla
  clear m hi hl hla ht
  go_enter Try.func103, Try.ntmps103
  go_wp2_with fail
  refine Calls.mono HL.out ?_
  rintro e w2 ⟨rfl, hu2⟩
  obtain ⟨y0, y1, y2, z0, z1, z2⟩ := box0 w2 69
  go_wp2_with fail
  go_ret2
  exact ⟨by rw [errV_zero]; first | done | rfl, HMM.out.same (hu2.alloc _), MRead.no _ (hu2.alloc _)⟩
set_option maxHeartbeats 2000000 in
theorem hScan_in (m : HM w bh bp bf G h) (hf : HF h t F W) {k p : Nat} (hk : k < 4) (hp : p < 16) (hx : h.g k = some x) (ht : (x.m.lf p).there = true) : Calls Try.prog 103 #[.pointer (some ⟨bh, 0, none⟩), .int .i64 (k : Int), .int .i64 (p : Int)] w (MScan w bh bp bf G h (hScan h k p)) := by
  have HMM : Hid (HM w bh bp bf G h) := m
  have hi := hf.hr.inv
  have HI : Hid (HInv h W) := hi
  have hla := hLeaf_any m hi (k : Int) (p : Int)
  have hl : hLeaf h (k : Int) (p : Int) = (x.m.lf p, 0) := by
    obtain ⟨h1, h2⟩ := hWho_some hx hk
    unfold hLeaf lfR
    rw [h1, if_neg (by omega), h2, if_pos ((onB_iff _).2 (by omega)), Int.toNat_natCast]
  rw [hl] at hla
  simp only [ht, errV_zero] at hla
  have HL : Hid _ := hla
  have HX : Hid (h.g k = some x) := hx
  have HN1 : Hid _ := hScan_no hx hk hp ht
  have HN2 : Hid _ := hScan_hit hx hk hp ht
  have HFL : Hid (∀ w1, Upd (fun _ => False) w w1 → Calls Try.prog 126 #[.pointer (some ⟨bh, 0, none⟩), .int .i64 (x.m.lf p).fr, .int .i64 ((16 * k + p : Nat) : Int)] w1 (MRead w1 (.agg #[.bool (hLike h (x.m.lf p).fr (16 * k + p)).there, .bool (hLike h (x.m.lf p).fr (16 * k + p)).wr, .int .i64 (hLike h (x.m.lf p).fr (16 * k + p)).fr]))) := fun w1 hu => firstLike_any (m.same hu) hi (x.m.lf p).fr (16 * k + p) (by omega)
  have HHF : Hid (HF h t F W) := hf
  have HT : Hid _ := ht
  have wm : IntKind.i64.wrap ((k : Int) * 16) = (k : Int) * 16 := by rw [IntKind.wrap_i64]; omega
  have wa : IntKind.i64.wrap ((k : Int) * 16 + (p : Int)) = (k : Int) * 16 + (p : Int) := by rw [IntKind.wrap_i64]; omega
  have hcast : ((16 * k + p : Nat) : Int) = (k : Int) * 16 + (p : Int) := by omega
  rw [hcast] at HFL
  have k0 : (0 : Int) ≤ (k : Int) := by omega
  have k1 : (k : Int) < 4 := by omega
  clear m hi hl hla ht hf hx hcast
  go_enter Try.func103, Try.ntmps103
  go_wp2_with fail
  refine Calls.mono HL.out ?_
  rintro e w2 ⟨rfl, hu2⟩
  obtain ⟨y0, y1, y2, z0, z1, z2⟩ := box0 w2 69
  have HB : Hid (LfAt (w2.alloc (.cells #[.bool true, .bool (x.m.lf p).wr, .int .i64 (x.m.lf p).fr] 69)) w2.heap.size ⟨true, (x.m.lf p).wr, (x.m.lf p).fr⟩) := LfAt.new w2 69 ⟨true, (x.m.lf p).wr, (x.m.lf p).fr⟩
  have HU3 : Hid (Upd (fun _ => False) w (w2.alloc (.cells #[.bool true, .bool (x.m.lf p).wr, .int .i64 (x.m.lf p).fr] 69))) := hu2.alloc _
  have hsz : w.heap.size ≤ w2.heap.size := hu2.size
  clear hu2 HL
  go_wp2_with fail
  clear y0 y1 y2 z0 z1 z2
  revert HB HU3 hsz
  generalize w2.alloc (.cells #[.bool true, .bool (x.m.lf p).wr, .int .i64 (x.m.lf p).fr] 69) = w3
  generalize w2.heap.size = q3
  intro HB HU3 hsz
  have HFw : Hid _ := HFL.out w3 HU3.out
  clear HFL
  cases hfs : hFst h (x.m.lf p).fr 0 (16 * k + p) with
  | none =>
    have HSC : Hid _ := HN1.out hfs
    rw [hLike_none hfs] at HFw
    simp only [lf0] at HFw
    clear hfs HN1 HN2
    refine Calls.mono HFw.out ?_
    rintro e w4 ⟨rfl, hu4⟩
    obtain ⟨y0, y1, y2, z0, z1, z2⟩ := box0 w4 69
    have x2 := (HB.out.upd hu4 (fun f => f)).c2
    have HU4 : Hid (Upd (fun _ => False) w (w4.alloc (.cells #[.bool false, .bool false, .int .i64 0] 69))) := (HU3.out.trans hu4 (fun _ _ f => f)).alloc _
    simp only at x2
    clear hu4
    go_wp2_with fail
    go_ret2
    rw [HSC.out]
    exact ⟨by rw [errV_zero]; first | done | rfl, HMM.out.same HU4.out, MRead.no _ HU4.out⟩
  | some j =>
    have hsp := hFst_spec h (x.m.lf p).fr (16 * k + p) 0
    have hhit : hHit h (x.m.lf p).fr j = true ∧ j < 16 * k + p := by
      rcases hsp with ⟨j', e, _, a, c, _⟩ | ⟨e, _⟩
      · rw [hfs] at e; cases e; exact ⟨c, by omega⟩
      · rw [hfs] at e; cases e
    have hth : (rowL h j).there = true ∧ h.s.same (rowL h j).fr (x.m.lf p).fr = true := by
      have := hhit.1
      unfold hHit at this
      simpa using this
    have HSC : Hid _ := HN2.out j hfs
    rw [hLike_some hfs] at HFw
    have hjn : (rowL h j).fr ≠ (x.m.lf p).fr → (gJoin h.s (hAt (hSealTo h (rowL h j).fr 64) k) p (rowL h j).fr).1 = 0 := fun hne => by
      have := (HHF.out.join HX.out hp HT.out hth.2 hne).1
      rw [(hWho_some (sealTo_at h (rowL h j).fr 64 HX.out) hk).2]
      exact this
    have HJN : Hid _ := hjn
    rw [hth.1] at HFw
    clear hfs hsp hhit hth hjn HN1 HN2
    revert HFw HSC HJN
    generalize rowL h j = lj
    obtain ⟨jt, jw, jf⟩ := lj
    simp only
    intro HFw HSC HJN
    refine Calls.mono HFw.out ?_
    rintro e w4 ⟨rfl, hu4⟩
    obtain ⟨y0, y1, y2, z0, z1, z2⟩ := box0 w4 69
    have hu5 := hu4.alloc (.cells #[.bool true, .bool jw, .int .i64 jf] 69)
    have HX5 : Hid (LfAt (w4.alloc (.cells #[.bool true, .bool jw, .int .i64 jf] 69)) w4.heap.size ⟨true, jw, jf⟩) := LfAt.new w4 69 ⟨true, jw, jf⟩
    have x2 := (HB.out.upd hu4 (fun f => f)).c2
    have x2' := (HB.out.upd hu5 (fun f => f)).c2
    have HU5 : Hid (Upd (fun _ => False) w (w4.alloc (.cells #[.bool true, .bool jw, .int .i64 jf] 69))) := HU3.out.trans hu5 (fun _ _ f => f)
    have hsz5 : w.heap.size ≤ w4.heap.size := (HU3.out.trans hu4 (fun _ _ f => f)).size
    simp only at x2 x2'
    clear hu4 hu5 HFw
    by_cases hfe : jf = (x.m.lf p).fr
    · have de : (jf == (x.m.lf p).fr) = true := by simp [hfe]
      have HFE : Hid _ := hfe
      clear hfe
      go_wp2_with fail
      go_ret2
      rw [HSC.out, if_pos HFE.out]
      exact ⟨by rw [errV_zero]; first | done | rfl, HMM.out.same HU5.out, MRead.no _ HU5.out⟩
    · have de : (jf == (x.m.lf p).fr) = false := by simp [hfe]
      have HSE : Hid _ := hseal_any (HMM.out.same HU5.out) HI.out jf
      have HNE : Hid (∀ i z, h.g i = some z → True) := fun _ _ _ => trivial
      go_wp2_with fail
      refine Calls.mono HSE.out ?_
      rintro e w6 ⟨rfl, hm6, hu6⟩
      have HM6 : Hid _ := hm6
      have HU6 : Hid (Upd (Own bh bp bf G h) w w6) := (MRead.no _ HU5.out).trans hu6 (fun _ _ f => f)
      have no5 : ¬ Own bh bp bf G h w4.heap.size := fun e => by have := HMM.out.ownLt e; omega
      have c6 := (HX5.out.upd hu6 no5).c2
      have cg := hm6.cSome hk (sealTo_at h jf 64 HX.out)
      have HC : Hid _ := hm6.drew.go (HI.out.sealTo jf 64) (sealTo_at h jf 64 HX.out) (fun g => g.join (p : Int) jf)
      rw [show (hSealTo h jf 64).s = h.s from rfl] at HC
      have HHA : Hid (hAt (hSealTo h jf 64) k = { x with m := sealOf x.m (16 * k) jf 64 }) := (hWho_some (sealTo_at h jf 64 HX.out) hk).2
      simp only at c6
      clear hm6 hu6 HSE
      have hj0 := HJN.out hfe
      rw [HHA.out] at hj0 HSC
      have HJ0 : Hid _ := hj0
      rw [hj0] at HC
      unfold MPost at HC
      simp only [errV_zero] at HC
      have NO4 : Hid _ := no5
      generalize w4.heap.size = q4 at *
      clear hj0 no5
      go_wp2_with fail
      go_region_held3 (fun w' => w'.cell? ⟨bh, 1 + k, none⟩ = some (.pointer (some ⟨(G k).g, 0, none⟩)) ∧ w'.cell? ⟨q4, 2, none⟩ = some (.int .i64 jf)) (first | exact ⟨cg, c6⟩ | exact h7c)
        (first | (go_at_call 128; refine Calls.mono HC.out ?_; rintro e w7 ⟨rfl, hm7, hu7⟩; have HM7 : Hid _ := hm7; have HU7 : Hid (Upd (Own bh bp bf G h) w w7) := (HU6.out.drew).trans hu7 (fun i _ e => own_seal e); have h7c : w7.cell? ⟨bh, 1 + k, none⟩ = some (.pointer (some ⟨(G k).g, 0, none⟩)) ∧ w7.cell? ⟨q4, 2, none⟩ = some (.int .i64 jf) := ⟨hm7.cSome hk (put_at _ _ _), hu7.cell (by exact c6) (fun e => NO4.out (own_seal e))⟩; clear hm7 hu7))
      clear h7c cg c6 HC
      go_wp2_with fail
      go_ret2
      rw [HSC.out, if_neg hfe]
      exact ⟨by simp only; rw [HJ0.out, errV_zero]; first | done | rfl, HM7.out, HU7.out⟩
end Go.Proofs.Ytadpibcgjgcjhaa
/- Package host: Scan, ScanAll, Frame. -/
namespace Go.Proofs.Ytadpibcgjgcjhaa
open Go.ChangeShapes Go.WideShapes Go.ChangeAt Go.RowKit
set_option maxRecDepth 100000
attribute [local go_sem ↓] Go.wp_at_zero Go.wp_at_succ
variable {w w' : World} {bh bp bf : Nat} {G G' : Nat → G3} {h h' : Hs} {x : Gs} {s' : Pl} {x' : Gs} {b : Mp} {W : Int} {t : Nat → Nat → Int} {F : Nat → Option Fl}

theorem hScan_m (m : HM w bh bp bf G h) (hf : HF h t F W) (n p : Int) : Calls Try.prog 103 #[.pointer (some ⟨bh, 0, none⟩), .int .i64 n, .int .i64 p] w (MScan w bh bp bf G h (hScan h n p)) := by
  by_cases h0 : 0 < hWho h n
  · rw [hScan_wrong p h0]
    exact hScan_bad m hf.hr.inv n p _ (by omega) (by unfold hLeaf; rw [if_pos h0])
  · obtain ⟨k, x, rfl, hk, hx, hat⟩ := hWho_zero (show hWho h n = 0 by have := hWho_le (h := h) n; omega)
    cases hp : onB p with
    | false =>
      rw [hScan_off hx hk hp]
      refine hScan_bad m hf.hr.inv _ p _ (by omega) ?_
      unfold hLeaf lfR
      rw [if_neg h0, hat, hp]; rfl
    | true =>
      obtain ⟨p0, p1⟩ := (onB_iff p).1 hp
      obtain ⟨q, rfl⟩ := Int.eq_ofNat_of_zero_le p0
      have hq : q < 16 := by omega
      cases ht : (x.m.lf q).there with
      | false =>
        rw [hScan_gone hx hk hq ht]
        exact hScan_out m hf.hr.inv hk hq hx ht
      | true => exact hScan_in m hf hk hq hx ht
theorem own_of {k : Nat} (hn : ∀ i, h'.g i = none ↔ h.g i = none) (hk : Own bh bp bf G h' k) : Own bh bp bf G h k := by
  rcases hk with e | e | e | ⟨i, y, hy, e⟩
  · exact Or.inl e
  · exact Or.inr (Or.inl e)
  · exact Or.inr (Or.inr (Or.inl e))
  · cases hx : h.g i with
    | none => have := (hn i).2 hx; rw [hy] at this; cases this
    | some x => exact Or.inr (Or.inr (Or.inr ⟨i, x, hx, e⟩))
set_option maxHeartbeats 1000000 in
theorem hScanAll_m (m : HM w bh bp bf G h) (hf : HF h t F W) : Calls Try.prog 104 #[.pointer (some ⟨bh, 0, none⟩)] w fun e w' => e = .returned (.int .i64 (hScanTo h 64).1) ∧ HM w' bh bp bf G (hScanTo h 64).2 ∧ Upd (Own bh bp bf G h) w w' := by
  have HMM : Hid (HM w bh bp bf G h) := m
  have HHF : Hid (HF h t F W) := hf
  clear m hf
  go_enter Try.func104, Try.ntmps104
  go_wp2_with fail
  go_loopg [3, 7] 64 (fun g c i wr => ∃ k : Nat, k + g = 64 ∧ i = .int .i64 k ∧ c = .int .i64 (hScanTo h k).1 ∧ Hid (HM wr bh bp bf G (hScanTo h k).2) ∧ Hid (Upd (Own bh bp bf G h) w wr))
  case atStart => exact ⟨0, by omega, rfl, rfl, HMM.out, Upd.refl _ _⟩
  case round =>
    obtain ⟨k, hk, rfl, rfl, HMk, HU⟩ := hrel
    have HK : Hid _ := hk
    clear hk
    by_cases hlt : k < 64
    · have HA : Hid _ := fun wr => at_any wr k hlt
      obtain ⟨hs1, _, _, hs4, _, hs6, hs7, _⟩ := HHF.out.scans k (by omega)
      have HS1 : Hid _ := hs1
      have HS4 : Hid _ := hs4
      have HST : Hid (hScanTo h (k + 1) = ((hScanTo h k).1 + (if (hScan (hScanTo h k).2 ((k / 16 : Nat) : Int) ((k % 16 : Nat) : Int)).1.1 = true then 1 else 0), (hScan (hScanTo h k).2 ((k / 16 : Nat) : Int) ((k % 16 : Nat) : Int)).2)) := rfl
      clear hs1 hs4
      go_wp2_with fail
      refine Calls.mono (HA.out _) ?_
      rintro e w1 ⟨rfl, hu1⟩
      have hs := hScan_m (HMk.out.same hu1) HS1.out ((k / 16 : Nat) : Int) ((k % 16 : Nat) : Int)
      have HU1 : Hid (Upd (Own bh bp bf G h) w w1) := HU.out.trans (MRead.no _ hu1) (fun _ _ f => f)
      unfold MScan at hs
      revert hs HST
      generalize hScan (hScanTo h k).2 ((k / 16 : Nat) : Int) ((k % 16 : Nat) : Int) = r
      obtain ⟨⟨r1, r2⟩, r3⟩ := r
      simp only
      generalize errV r2 = ev
      intro HST hs
      have HS : Hid _ := hs
      clear hs hu1 HA HMk HU
      generalize (hScanTo h k).1 = cnt at *
      go_wp2_with fail
      refine Calls.mono HS.out ?_
      rintro e w2 ⟨rfl, hm2, hu2⟩
      have HM2 : Hid (HM w2 bh bp bf G r3) := hm2
      have HU2 : Hid (Upd (Own bh bp bf G h) w w2) := HU1.out.trans hu2 (fun i _ e => own_of HS4.out e)
      clear hm2 hu2 HS
      cases r1 with
      | true =>
        go_wp2_with fail
        go_roundg (64 - (k + 1))
        case rel => exact ⟨k + 1, by omega, by go_num, by rw [HST.out]; go_num, by rw [HST.out]; exact HM2.out, HU2.out⟩
        case measure => have := HK.out; omega
      | false =>
        go_wp2_with fail
        go_roundg (64 - (k + 1))
        case rel => exact ⟨k + 1, by omega, by go_num, by rw [HST.out]; simp, by rw [HST.out]; exact HM2.out, HU2.out⟩
        case measure => have := HK.out; omega
    · obtain rfl : k = 64 := by have := HK.out; omega
      go_wp2_with fail
      go_ret
      exact ⟨rfl, HMk.out, HU.out⟩
end Go.Proofs.Ytadpibcgjgcjhaa
