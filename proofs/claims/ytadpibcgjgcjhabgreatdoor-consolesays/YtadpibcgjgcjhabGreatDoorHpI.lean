/- Package host: firstLike, seal. -/
import Derived.Test.YtadpibcgjgcjhabGreatDoorHpH
namespace Go.Proofs.YtadpibcgjgcjhabGreatDoor
open Go.ChangeShapes Go.WideShapes Go.ChangeAt Go.RowKit
set_option maxRecDepth 100000
attribute [local go_sem ↓] Go.wp_at_zero Go.wp_at_succ
variable {w w' : World} {bh bp bf : Nat} {G G' : Nat → G3} {h h' : Hs} {x : Gs} {s' : Pl} {x' : Gs} {b : Mp} {W : Int}

/-- The first leaf ahead with the same bytes. -/
def hLike (h : Hs) (fr : Int) (N : Nat) : Lf := match hFst h fr 0 N with
  | some k => rowL h k
  | none => lf0
set_option maxHeartbeats 2000000 in
theorem firstLike_any (m : HM w bh bp bf G h) (hi : HInv h W) (fr : Int) (N : Nat) (hN : N ≤ 64) : Calls Tryz.prog 83 #[.pointer (some ⟨bh, 0, none⟩), .int .i64 fr, .int .i64 (N : Int)] w (MRead w (.agg #[.bool (hLike h fr N).there, .bool (hLike h fr N).wr, .int .i64 (hLike h fr N).fr])) := by
  have HMM : Hid (HM w bh bp bf G h) := m
  have HI : Hid (HInv h W) := hi
  have hlk : ∀ k, k < N → hHit h fr k = true → (∀ i, i < k → hHit h fr i = false) → hLike h fr N = rowL h k := fun k hk hh hb => by
    unfold hLike
    rw [hFst_at hk hb hh]
  have hln : (∀ i, i < N → hHit h fr i = false) → hLike h fr N = lf0 := fun hb => by
    unfold hLike
    rw [hFst_non hb]
  have HLK : Hid _ := hlk
  have HLN : Hid _ := hln
  obtain ⟨y0, y1, y2, z0, z1, z2⟩ := box0 w 92
  have HB0 : Hid (LfAt (w.alloc (.cells #[.bool false, .bool false, .int .i64 0] 92)) w.heap.size lf0) := ⟨y0, y1, y2⟩
  have HZ0 : Hid (∀ o, (w.alloc (.cells #[.bool false, .bool false, .int .i64 0] 92)).frozen? ⟨w.heap.size, o, none⟩ = false) := fun o => World.frozen?_alloc_new _ _ _ _
  have HU0 : Hid (Upd (fun _ => False) w (w.alloc (.cells #[.bool false, .bool false, .int .i64 0] 92))) := (Upd.refl _ _).alloc _
  have hzs : w.heap.size < (w.alloc (.cells #[.bool false, .bool false, .int .i64 0] 92)).heap.size := by simp
  clear m hi hlk hln y0 y1 y2 z0 z1 z2
  generalize hLike h fr N = lk at *
  go_enter Tryz.func83, Tryz.ntmps83
  go_wp2_with fail
  revert HB0 HZ0 HU0 hzs
  generalize w.alloc (.cells #[.bool false, .bool false, .int .i64 0] 92) = w0
  generalize hqs : w.heap.size = q0
  have HQS : Hid _ := hqs
  clear hqs
  intro HB0 HZ0 HU0 hzs
  go_loopg [11] N (fun g i wr => ∃ k : Nat, k + g = N ∧ i = .int .i64 k ∧ Hid (∀ i, i < k → hHit h fr i = false) ∧ Hid (Upd (fun _ => False) w0 wr))
  case atStart => exact ⟨0, by omega, rfl, fun i hi => absurd hi (by omega), Upd.refl _ _⟩
  case round =>
    obtain ⟨k, hk, rfl, HN, HU⟩ := hrel
    have HK : Hid _ := hk
    clear hk
    by_cases hlt : k < N
    · have d : decide ((k : Int) < (N : Int)) = true := by simp; omega
      have HA : Hid _ := fun wr => at_any wr k (by omega)
      go_wp2_with fail
      refine Calls.mono (HA.out _) ?_
      rintro e w1 ⟨rfl, hu1⟩
      have HU1 : Hid (Upd (fun _ => False) w0 w1) := HU.out.trans hu1 (fun _ _ f => f)
      have hl := hLeaf_any (HMM.out.same (HU0.out.trans HU1.out (fun _ _ f => f))) HI.out ((k / 16 : Nat) : Int) ((k % 16 : Nat) : Int)
      have hrw := hLeaf_row h (k := k) (by omega)
      have hht : hHit h fr k = ((rowL h k).there && h.s.same (rowL h k).fr fr) := rfl
      rw [← hrw] at hht
      have HLKk : Hid _ := HLK.out k hlt
      rw [← hrw] at HLKk
      clear hrw
      revert hl hht HLKk
      generalize hLeaf h ((k / 16 : Nat) : Int) ((k % 16 : Nat) : Int) = r
      obtain ⟨⟨lt, lw, lf⟩, r2⟩ := r
      simp only
      generalize errV r2 = ev
      intro hl hht HLKk
      have HL : Hid _ := hl
      have HHT : Hid _ := hht
      clear hl hht hu1 HA HU
      go_wp2_with fail
      refine Calls.mono HL.out ?_
      rintro e w2 ⟨rfl, hu2⟩
      have HU2 : Hid (Upd (fun _ => False) w0 w2) := HU1.out.trans hu2 (fun _ _ f => f)
      obtain ⟨y0, y1, y2, z0, z1, z2⟩ := box0 w2 92
      have HX : Hid (LfAt (w2.alloc (.cells #[.bool lt, .bool lw, .int .i64 lf] 92)) w2.heap.size ⟨lt, lw, lf⟩) := LfAt.new w2 92 ⟨lt, lw, lf⟩
      have HU3 : Hid (Upd (fun _ => False) w0 (w2.alloc (.cells #[.bool lt, .bool lw, .int .i64 lf] 92))) := HU2.out.alloc _
      clear hu2 HL HU1
      go_wp2_with fail
      clear y0 y1 y2 z0 z1 z2 HU2
      revert HX HU3
      generalize w2.alloc (.cells #[.bool lt, .bool lw, .int .i64 lf] 92) = w3
      generalize w2.heap.size = q3
      intro HX HU3
      have HM3 : Hid (HM w3 bh bp bf G h) := HMM.out.same (HU0.out.trans HU3.out (fun _ _ f => f))
      have c0 := HM3.out.c0
      have x0 := HX.out.c0
      have x1 := HX.out.c1
      have x2 := HX.out.c2
      simp only at x0 x1 x2
      cases lt with
      | false =>
        go_quiet (fail)
        go_wp2_with fail
        go_roundg (N - (k + 1))
        case rel =>
          refine ⟨k + 1, by omega, by go_num, fun i hi => ?_, HU3.out.drewN _⟩
          by_cases e : i = k
          · subst e; exact HHT.out
          · exact HN.out i (by omega)
        case measure => have := HK.out; omega
      | true =>
        have HS : Hid _ := same_any w3.drew bp bf lf fr h.s HM3.out.drew.pool
        revert HS HHT
        generalize h.s.same lf fr = sm
        intro HHT HS
        go_region_held3 (fun w' => w'.cell? ⟨bh, 0, none⟩ = some (.pointer (some ⟨bp, 0, none⟩)) ∧ w'.cell? ⟨q3, 0, none⟩ = some (.bool true) ∧ w'.cell? ⟨q3, 2, none⟩ = some (.int .i64 lf)) (first | exact ⟨c0, x0, x2⟩ | exact h4c)
          (first | (go_at_call 113; refine Calls.mono HS.out ?_; rintro e w4 ⟨rfl, m4, rfl⟩; have h4c : (w3.drew.drewN m4).cell? ⟨bh, 0, none⟩ = some (.pointer (some ⟨bp, 0, none⟩)) ∧ (w3.drew.drewN m4).cell? ⟨q3, 0, none⟩ = some (.bool true) ∧ (w3.drew.drewN m4).cell? ⟨q3, 2, none⟩ = some (.int .i64 lf) := ⟨c0, x0, x2⟩))
        cases sm with
        | false =>
          go_wp2_with fail
          go_roundg (N - (k + 1))
          case rel =>
            refine ⟨k + 1, by omega, by go_num, fun i hi => ?_, HU3.out.drewN _⟩
            by_cases e : i = k
            · subst e; exact HHT.out
            · exact HN.out i (by omega)
          case measure => have := HK.out; omega
        | true =>
          have hlk := HLKk.out HHT.out HN.out
          have HU5 : Hid (Upd (fun _ => False) w0 (w3.drewN (1 + m4))) := HU3.out.drewN _
          obtain ⟨b0, b1, b2⟩ := HB0.out.upd HU3.out (fun f => f)
          simp only [lf0] at b0 b1 b2
          have zz : ∀ o, w3.frozen? ⟨q0, o, none⟩ = false := fun o => by rw [World.frozen?_of_block (HU3.out.block q0 hzs (fun f => f))]; exact HZ0.out o
          have z0 := zz 0
          have z1 := zz 1
          have z2 := zz 2
          have HLQ : Hid _ := hlk
          clear zz hlk
          go_wp2_with fail
          refine bodyPost_ret (v := .agg #[.bool true, .bool lw, .int .i64 lf]) (by simp [results, Tryz.results83, go_sem, b0, b1, b2]) rfl ⟨by rw [HLQ.out], (HU0.out.trans HU5.out (fun _ _ f => f)).trans (Upd.three (w3.drewN (1 + m4)) q0 0 1 2 _ _ _) (fun i hi e => by have := HQS.out; omega)⟩
    · obtain rfl : k = N := by have := HK.out; omega
      have d : decide ((k : Int) < (k : Int)) = false := by simp
      have hlk := HLN.out HN.out
      obtain ⟨b0, b1, b2⟩ := HB0.out.upd HU.out (fun f => f)
      simp only [lf0] at b0 b1 b2
      have zz : ∀ o, wr.frozen? ⟨q0, o, none⟩ = false := fun o => by rw [World.frozen?_of_block (HU.out.block q0 hzs (fun f => f))]; exact HZ0.out o
      have z0 := zz 0
      have z1 := zz 1
      have z2 := zz 2
      have HLQ : Hid _ := hlk
      clear zz hlk
      go_wp2_with fail
      refine bodyPost_ret (v := .agg #[.bool false, .bool false, .int .i64 0]) (by simp [results, Tryz.results83, go_sem, b0, b1, b2]) rfl ⟨by rw [HLQ.out]; rfl, (HU0.out.trans HU.out (fun _ _ f => f)).trans (Upd.three wr q0 0 1 2 _ _ _) (fun i hi e => by have := HQS.out; omega)⟩
theorem own_seal {fr : Int} {i k : Nat} (hk : Own bh bp bf G (hSealTo h fr i) k) : Own bh bp bf G h k := by
  rcases hk with e | e | e | ⟨j, y, hy, e⟩
  · exact Or.inl e
  · exact Or.inr (Or.inl e)
  · exact Or.inr (Or.inr (Or.inl e))
  · obtain ⟨x, hx, _⟩ := sealTo_g h fr i hy
    exact Or.inr (Or.inr (Or.inr ⟨j, x, hx, e⟩))
theorem hLeaf_none {k : Nat} (hk : k < 64) (hx : h.g (k / 16) = none) : hLeaf h ((k / 16 : Nat) : Int) ((k % 16 : Nat) : Int) = (lf0, 2) := by
  have hw : hWho h ((k / 16 : Nat) : Int) = 2 := by unfold hWho; rw [if_neg (by omega), Int.toNat_natCast, hx]
  unfold hLeaf
  rw [hw, if_pos (by omega)]
theorem hLeaf_some {k : Nat} (hk : k < 64) (hx : h.g (k / 16) = some x) : hLeaf h ((k / 16 : Nat) : Int) ((k % 16 : Nat) : Int) = (x.m.lf (k % 16), 0) := by
  obtain ⟨h1, h2⟩ := hWho_some hx (show k / 16 < 4 by omega)
  unfold hLeaf
  rw [h1, if_neg (by omega), h2]
  unfold lfR
  rw [if_pos ((onB_iff _).2 (by omega)), Int.toNat_natCast]
set_option maxHeartbeats 2000000 in
theorem hseal_any (m : HM w bh bp bf G h) (hi : HInv h W) (fr : Int) : Calls Tryz.prog 84 #[.pointer (some ⟨bh, 0, none⟩), .int .i64 fr] w fun e w' => e = .returned (.tuple #[]) ∧ HM w' bh bp bf G (hSealTo h fr 64) ∧ Upd (Own bh bp bf G h) w w' := by
  have HMM : Hid (HM w bh bp bf G h) := m
  have HI : Hid (HInv h W) := hi
  clear m hi
  go_enter Tryz.func84, Tryz.ntmps84
  go_wp2_with fail
  go_loopg [9] 64 (fun g i wr => ∃ k : Nat, k + g = 64 ∧ i = .int .i64 k ∧ Hid (HM wr bh bp bf G (hSealTo h fr k)) ∧ Hid (Upd (Own bh bp bf G h) w wr))
  case atStart => exact ⟨0, by omega, rfl, by rw [sealTo_zero]; exact HMM.out, Upd.refl _ _⟩
  case round =>
    obtain ⟨k, hk, rfl, HMk, HU⟩ := hrel
    have HK : Hid _ := hk
    clear hk
    by_cases hlt : k < 64
    · have HA : Hid _ := fun wr => at_any wr k hlt
      go_wp2_with fail
      refine Calls.mono (HA.out _) ?_
      rintro e w1 ⟨rfl, hu1⟩
      have HM1 : Hid (HM w1 bh bp bf G (hSealTo h fr k)) := HMk.out.same hu1
      have HU1 : Hid (Upd (Own bh bp bf G h) w w1) := HU.out.trans (MRead.no _ hu1) (fun _ _ f => f)
      have hl := hLeaf_any HM1.out (HI.out.sealTo fr k) ((k / 16 : Nat) : Int) ((k % 16 : Nat) : Int)
      clear hu1 HA HU HMk
      cases hx : h.g (k / 16) with
      | none =>
        rw [hLeaf_none hlt (show (hSealTo h fr k).g (k / 16) = none by show (h.g (k / 16)).map _ = none; rw [hx]; rfl)] at hl
        simp only [errV2, lf0] at hl
        have HL : Hid _ := hl
        have HSN : Hid _ := sealTo_none h fr hx
        clear hl hx
        go_wp2_with fail
        refine Calls.mono HL.out ?_
        rintro e w2 ⟨rfl, hu2⟩
        obtain ⟨y0, y1, y2, z0, z1, z2⟩ := box0 w2 92
        have HM3 : Hid (HM (w2.alloc (.cells #[.bool false, .bool false, .int .i64 0] 92)) bh bp bf G (hSealTo h fr k)) := HM1.out.same (hu2.alloc _)
        have HU3 : Hid (Upd (Own bh bp bf G h) w (w2.alloc (.cells #[.bool false, .bool false, .int .i64 0] 92))) := HU1.out.trans (MRead.no _ (hu2.alloc _)) (fun _ _ f => f)
        clear hu2 HL
        go_wp2_with fail
        go_roundg (64 - (k + 1))
        case rel => exact ⟨k + 1, by omega, by go_num, by rw [HSN.out]; exact HM3.out, HU3.out⟩
        case measure => have := HK.out; omega
      | some z =>
        have hat := sealTo_at h fr k hx
        have h1 := sealTo_leaf z.m (16 * (k / 16)) fr k (k % 16)
        rw [hLeaf_some hlt hat] at hl
        simp only [errV_zero] at hl
        rw [h1.1, h1.2] at hl
        have HL : Hid _ := hl
        have HX : Hid (h.g (k / 16) = some z) := hx
        have HAT : Hid _ := hat
        clear hl hx hat h1
        go_wp2_with fail
        refine Calls.mono HL.out ?_
        rintro e w2 ⟨rfl, hu2⟩
        revert HL
        generalize hlw : ((sealOf z.m (16 * (k / 16)) fr k).lf (k % 16)).wr = lw
        intro HL
        obtain ⟨y0, y1, y2, z0, z1, z2⟩ := box0 w2 92
        have hu3 := hu2.alloc (.cells #[.bool (z.m.lf (k % 16)).there, .bool lw, .int .i64 (z.m.lf (k % 16)).fr] 92)
        have HM3 : Hid (HM (w2.alloc (.cells #[.bool (z.m.lf (k % 16)).there, .bool lw, .int .i64 (z.m.lf (k % 16)).fr] 92)) bh bp bf G (hSealTo h fr k)) := HM1.out.same hu3
        have HU3 : Hid (Upd (Own bh bp bf G h) w (w2.alloc (.cells #[.bool (z.m.lf (k % 16)).there, .bool lw, .int .i64 (z.m.lf (k % 16)).fr] 92))) := HU1.out.trans (MRead.no _ hu3) (fun _ _ f => f)
        have k0 : (0 : Int) ≤ (k : Int) / 16 := by omega
        have k1 : (k : Int) / 16 < 4 := by omega
        have hk4 : k / 16 < 4 := by omega
        clear hu2 hu3 HL hlw
        by_cases hzt : (z.m.lf (k % 16)).there = true
        · by_cases hzf : (z.m.lf (k % 16)).fr = fr
          · have df : ((z.m.lf (k % 16)).fr == fr) = true := by simp [hzf]
            have HSS : Hid _ := sealTo_step h fr HX.out hzt hzf
            have HC : Hid _ := HM3.out.go (HI.out.sealTo fr k) HAT.out (fun g => g.seal ((k % 16 : Nat) : Int))
            rw [hzt] at HM3 HU3 HC ⊢
            have cz := HM3.out.cSome hk4 HAT.out
            clear hzt hzf
            go_wp2_with fail
            refine Calls.mono HC.out ?_
            rintro e w5 ⟨rfl, hm5, hu5⟩
            simp only at hm5
            rw [show (hSealTo h fr k).s = h.s from rfl, HSS.out] at hm5
            have HM5 : Hid (HM w5 bh bp bf G (hSealTo h fr (k + 1))) := hm5
            have HU5 : Hid (Upd (Own bh bp bf G h) w w5) := HU3.out.trans hu5 (fun i _ e => own_seal e)
            clear hm5 hu5 HC
            go_wp2_with fail
            go_roundg (64 - (k + 1))
            case rel => exact ⟨k + 1, by omega, by go_num, HM5.out, HU5.out⟩
            case measure => have := HK.out; omega
          · have df : ((z.m.lf (k % 16)).fr == fr) = false := by simp [hzf]
            have HSS : Hid _ := sealTo_skip h fr HX.out (fun c => hzf c.2)
            rw [hzt] at HM3 HU3 ⊢
            clear hzt hzf
            go_wp2_with fail
            go_roundg (64 - (k + 1))
            case rel => exact ⟨k + 1, by omega, by go_num, by rw [HSS.out]; exact HM3.out, HU3.out⟩
            case measure => have := HK.out; omega
        · have hzt' : (z.m.lf (k % 16)).there = false := by simpa using hzt
          have HSS : Hid _ := sealTo_skip h fr HX.out (fun c => hzt c.1)
          rw [hzt'] at HM3 HU3 ⊢
          clear hzt hzt'
          go_wp2_with fail
          go_roundg (64 - (k + 1))
          case rel => exact ⟨k + 1, by omega, by go_num, by rw [HSS.out]; exact HM3.out, HU3.out⟩
          case measure => have := HK.out; omega
    · obtain rfl : k = 64 := by have := HK.out; omega
      go_wp2_with fail
      go_end0
      exact ⟨rfl, HMk.out, HU.out⟩
end Go.Proofs.YtadpibcgjgcjhabGreatDoor
