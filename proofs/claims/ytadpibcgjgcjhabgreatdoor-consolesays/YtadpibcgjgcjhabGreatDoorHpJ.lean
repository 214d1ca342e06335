/- Package host: Scan, ScanAll. -/
import Derived.Test.YtadpibcgjgcjhabGreatDoorHpI
import Derived.Test.YtadpibcgjgcjhabGreatDoorHpS
namespace Go.Proofs.YtadpibcgjgcjhabGreatDoor
open Go.ChangeShapes Go.WideShapes Go.ChangeAt Go.RowKit
set_option maxRecDepth 100000
attribute [local go_sem ↓] Go.wp_at_zero Go.wp_at_succ
variable {w w' : World} {bh bp bf : Nat} {G G' : Nat → G3} {h h' : Hs} {x : Gs} {s' : Pl} {x' : Gs} {b : Mp} {W : Int} {t : Nat → Nat → Int} {F : Nat → Option Fl}

/-- How Scan ends. -/
def MScan (w : World) (bh bp bf : Nat) (G : Nat → G3) (h : Hs) (r : (Bool × Int) × Hs) (e : Ending) (w' : World) : Prop :=
  e = .returned (.tuple #[.bool r.1.1, errV r.1.2]) ∧ HM w' bh bp bf G r.2 ∧ Upd (Own bh bp bf G h) w w'
theorem hLike_none {fr : Int} {N : Nat} (hf : hFst h fr 0 N = none) : hLike h fr N = lf0 := by unfold hLike; rw [hf]
theorem hLike_some {fr : Int} {N j : Nat} (hf : hFst h fr 0 N = some j) : hLike h fr N = rowL h j := by unfold hLike; rw [hf]
theorem hScan_bad (m : HM w bh bp bf G h) (hi : HInv h W) (n p c : Int) (hc : c ≠ 0) (hl : hLeaf h n p = (lf0, c)) : Calls Tryz.prog 59 #[.pointer (some ⟨bh, 0, none⟩), .int .i64 n, .int .i64 p] w (MScan w bh bp bf G h ((false, c), h)) := by
  have HMM : Hid (HM w bh bp bf G h) := m
  have hla := hLeaf_any m hi n p
  rw [hl] at hla
  simp only [lf0, errV_no hc] at hla
  have HL : Hid _ := hla
  clear m hi hl hla
  go_enter Tryz.func59, Tryz.ntmps59
  go_wp2_with fail
  refine Calls.mono HL.out ?_
  rintro e w2 ⟨rfl, hu2⟩
  obtain ⟨y0, y1, y2, z0, z1, z2⟩ := box0 w2 92
  go_wp2_with fail
  go_ret2
  exact ⟨by rw [errV_no hc]; first | done | rfl, HMM.out.same (hu2.alloc _), MRead.no _ (hu2.alloc _)⟩
theorem hScan_out (m : HM w bh bp bf G h) (hi : HInv h W) {k p : Nat} (hk : k < 4) (hp : p < 16) (hx : h.g k = some x) (ht : (x.m.lf p).there = false) : Calls Tryz.prog 59 #[.pointer (some ⟨bh, 0, none⟩), .int .i64 (k : Int), .int .i64 (p : Int)] w (MScan w bh bp bf G h ((false, 0), h)) := by
  have HMM : Hid (HM w bh bp bf G h) := m
  have hla := hLeaf_any m hi (k : Int) (p : Int)
  have hl : hLeaf h (k : Int) (p : Int) = (x.m.lf p, 0) := by
    obtain ⟨h1, h2⟩ := hWho_some hx hk
    unfold hLeaf lfR
    rw [h1, if_neg (by omega), h2, if_pos ((onB_iff _).2 (by omega)), Int.toNat_natCast]
  rw [hl] at hla
  simp only [ht, errV_zero] at hla
  have HL : Hid _ := hla
  clear m hi hl hla ht
  go_enter Tryz.func59, Tryz.ntmps59
  go_wp2_with fail
  refine Calls.mono HL.out ?_
  rintro e w2 ⟨rfl, hu2⟩
  obtain ⟨y0, y1, y2, z0, z1, z2⟩ := box0 w2 92
  go_wp2_with fail
  go_ret2
  exact ⟨by rw [errV_zero]; first | done | rfl, HMM.out.same (hu2.alloc _), MRead.no _ (hu2.alloc _)⟩
set_option maxHeartbeats 2000000 in
theorem hScan_in (m : HM w bh bp bf G h) (hf : HF h t F W) {k p : Nat} (hk : k < 4) (hp : p < 16) (hx : h.g k = some x) (ht : (x.m.lf p).there = true) : Calls Tryz.prog 59 #[.pointer (some ⟨bh, 0, none⟩), .int .i64 (k : Int), .int .i64 (p : Int)] w (MScan w bh bp bf G h (hScan h k p)) := by
  have HMM : Hid (HM w bh bp bf G h) := m
  have hi := hf.hr.inv
  have HI : Hid (HInv h W) := hi
  have hla := hLeaf_any m hi (k : Int) (p : Int)
  have hl : hLeaf h (k : Int) (p : Int) = (x.m.lf p, 0) := by
    obtain ⟨h1, h2⟩ := hWho_some hx hk
    unfold hLeaf lfR
    rw [h1, if_neg (by omega), h2, if_pos ((onB_iff _).2 (by omega)), Int.toNat_natCast]
  rw [hl] at hla
  simp only [ht, errV_zero] at hla
  have HL : Hid _ := hla
  have HX : Hid (h.g k = some x) := hx
  have HN1 : Hid _ := hScan_no hx hk hp ht
  have HN2 : Hid _ := hScan_hit hx hk hp ht
  have HFL : Hid (∀ w1, Upd (fun _ => False) w w1 → Calls Tryz.prog 83 #[.pointer (some ⟨bh, 0, none⟩), .int .i64 (x.m.lf p).fr, .int .i64 ((16 * k + p : Nat) : Int)] w1 (MRead w1 (.agg #[.bool (hLike h (x.m.lf p).fr (16 * k + p)).there, .bool (hLike h (x.m.lf p).fr (16 * k + p)).wr, .int .i64 (hLike h (x.m.lf p).fr (16 * k + p)).fr]))) := fun w1 hu => firstLike_any (m.same hu) hi (x.m.lf p).fr (16 * k + p) (by omega)
  have HHF : Hid (HF h t F W) := hf
  have HT : Hid _ := ht
  have wm : IntKind.i64.wrap ((k : Int) * 16) = (k : Int) * 16 := by rw [IntKind.wrap_i64]; omega
  have wa : IntKind.i64.wrap ((k : Int) * 16 + (p : Int)) = (k : Int) * 16 + (p : Int) := by rw [IntKind.wrap_i64]; omega
  have hcast : ((16 * k + p : Nat) : Int) = (k : Int) * 16 + (p : Int) := by omega
  rw [hcast] at HFL
  have k0 : (0 : Int) ≤ (k : Int) := by omega
  have k1 : (k : Int) < 4 := by omega
  clear m hi hl hla ht hf hx hcast
  go_enter Tryz.func59, Tryz.ntmps59
  go_wp2_with fail
  refine Calls.mono HL.out ?_
  rintro e w2 ⟨rfl, hu2⟩
  obtain ⟨y0, y1, y2, z0, z1, z2⟩ := box0 w2 92
  have HB : Hid (LfAt (w2.alloc (.cells #[.bool true, .bool (x.m.lf p).wr, .int .i64 (x.m.lf p).fr] 92)) w2.heap.size ⟨true, (x.m.lf p).wr, (x.m.lf p).fr⟩) := LfAt.new w2 92 ⟨true, (x.m.lf p).wr, (x.m.lf p).fr⟩
  have HU3 : Hid (Upd (fun _ => False) w (w2.alloc (.cells #[.bool true, .bool (x.m.lf p).wr, .int .i64 (x.m.lf p).fr] 92))) := hu2.alloc _
  have hsz : w.heap.size ≤ w2.heap.size := hu2.size
  clear hu2 HL
  go_wp2_with fail
  clear y0 y1 y2 z0 z1 z2
  revert HB HU3 hsz
  generalize w2.alloc (.cells #[.bool true, .bool (x.m.lf p).wr, .int .i64 (x.m.lf p).fr] 92) = w3
  generalize w2.heap.size = q3
  intro HB HU3 hsz
  have HFw : Hid _ := HFL.out w3 HU3.out
  clear HFL
  cases hfs : hFst h (x.m.lf p).fr 0 (16 * k + p) with
  | none =>
    have HSC : Hid _ := HN1.out hfs
    rw [hLike_none hfs] at HFw
    simp only [lf0] at HFw
    clear hfs HN1 HN2
    refine Calls.mono HFw.out ?_
    rintro e w4 ⟨rfl, hu4⟩
    obtain ⟨y0, y1, y2, z0, z1, z2⟩ := box0 w4 92
    have x2 := (HB.out.upd hu4 (fun f => f)).c2
    have HU4 : Hid (Upd (fun _ => False) w (w4.alloc (.cells #[.bool false, .bool false, .int .i64 0] 92))) := (HU3.out.trans hu4 (fun _ _ f => f)).alloc _
    simp only at x2
    clear hu4
    go_wp2_with fail
    go_ret2
    rw [HSC.out]
    exact ⟨by rw [errV_zero]; first | done | rfl, HMM.out.same HU4.out, MRead.no _ HU4.out⟩
  | some j =>
    have hsp := hFst_spec h (x.m.lf p).fr (16 * k + p) 0
    have hhit : hHit h (x.m.lf p).fr j = true ∧ j < 16 * k + p := by
      rcases hsp with ⟨j', e, _, a, c, _⟩ | ⟨e, _⟩
      · rw [hfs] at e; cases e; exact ⟨c, by omega⟩
      · rw [hfs] at e; cases e
    have hth : (rowL h j).there = true ∧ h.s.same (rowL h j).fr (x.m.lf p).fr = true := by
      have := hhit.1
      unfold hHit at this
      simpa using this
    have HSC : Hid _ := HN2.out j hfs
    rw [hLike_some hfs] at HFw
    have hjn : (rowL h j).fr ≠ (x.m.lf p).fr → (gJoin h.s (hAt (hSealTo h (rowL h j).fr 64) k) p (rowL h j).fr).1 = 0 := fun hne => by
      have := (HHF.out.join HX.out hp HT.out hth.2 hne).1
      rw [(hWho_some (sealTo_at h (rowL h j).fr 64 HX.out) hk).2]
      exact this
    have HJN : Hid _ := hjn
    rw [hth.1] at HFw
    clear hfs hsp hhit hth hjn HN1 HN2
    revert HFw HSC HJN
    generalize rowL h j = lj
    obtain ⟨jt, jw, jf⟩ := lj
    simp only
    intro HFw HSC HJN
    refine Calls.mono HFw.out ?_
    rintro e w4 ⟨rfl, hu4⟩
    obtain ⟨y0, y1, y2, z0, z1, z2⟩ := box0 w4 92
    have hu5 := hu4.alloc (.cells #[.bool true, .bool jw, .int .i64 jf] 92)
    have HX5 : Hid (LfAt (w4.alloc (.cells #[.bool true, .bool jw, .int .i64 jf] 92)) w4.heap.size ⟨true, jw, jf⟩) := LfAt.new w4 92 ⟨true, jw, jf⟩
    have x2 := (HB.out.upd hu4 (fun f => f)).c2
    have x2' := (HB.out.upd hu5 (fun f => f)).c2
    have HU5 : Hid (Upd (fun _ => False) w (w4.alloc (.cells #[.bool true, .bool jw, .int .i64 jf] 92))) := HU3.out.trans hu5 (fun _ _ f => f)
    have hsz5 : w.heap.size ≤ w4.heap.size := (HU3.out.trans hu4 (fun _ _ f => f)).size
    simp only at x2 x2'
    clear hu4 hu5 HFw
    by_cases hfe : jf = (x.m.lf p).fr
    · have de : (jf == (x.m.lf p).fr) = true := by simp [hfe]
      have HFE : Hid _ := hfe
      clear hfe
      go_wp2_with fail
      go_ret2
      rw [HSC.out, if_pos HFE.out]
      exact ⟨by rw [errV_zero]; first | done | rfl, HMM.out.same HU5.out, MRead.no _ HU5.out⟩
    · have de : (jf == (x.m.lf p).fr) = false := by simp [hfe]
      have HSE : Hid _ := hseal_any (HMM.out.same HU5.out) HI.out jf
      have HNE : Hid (∀ i z, h.g i = some z → True) := fun _ _ _ => trivial
      go_wp2_with fail
      refine Calls.mono HSE.out ?_
      rintro e w6 ⟨rfl, hm6, hu6⟩
      have HM6 : Hid _ := hm6
      have HU6 : Hid (Upd (Own bh bp bf G h) w w6) := (MRead.no _ HU5.out).trans hu6 (fun _ _ f => f)
      have no5 : ¬ Own bh bp bf G h w4.heap.size := fun e => by have := HMM.out.ownLt e; omega
      have c6 := (HX5.out.upd hu6 no5).c2
      have cg := hm6.cSome hk (sealTo_at h jf 64 HX.out)
      have HC : Hid _ := hm6.drew.go (HI.out.sealTo jf 64) (sealTo_at h jf 64 HX.out) (fun g => g.join (p : Int) jf)
      rw [show (hSealTo h jf 64).s = h.s from rfl] at HC
      have HHA : Hid (hAt (hSealTo h jf 64) k = { x with m := sealOf x.m (16 * k) jf 64 }) := (hWho_some (sealTo_at h jf 64 HX.out) hk).2
      simp only at c6
      clear hm6 hu6 HSE
      have hj0 := HJN.out hfe
      rw [HHA.out] at hj0 HSC
      have HJ0 : Hid _ := hj0
      rw [hj0] at HC
      unfold MPost at HC
      simp only [errV_zero] at HC
      have NO4 : Hid _ := no5
      generalize w4.heap.size = q4 at *
      clear hj0 no5
      go_wp2_with fail
      go_region_held3 (fun w' => w'.cell? ⟨bh, 1 + k, none⟩ = some (.pointer (some ⟨(G k).g, 0, none⟩)) ∧ w'.cell? ⟨q4, 2, none⟩ = some (.int .i64 jf)) (first | exact ⟨cg, c6⟩ | exact h7c)
        (first | (go_at_call 85; refine Calls.mono HC.out ?_; rintro e w7 ⟨rfl, hm7, hu7⟩; have HM7 : Hid _ := hm7; have HU7 : Hid (Upd (Own bh bp bf G h) w w7) := (HU6.out.drew).trans hu7 (fun i _ e => own_seal e); have h7c : w7.cell? ⟨bh, 1 + k, none⟩ = some (.pointer (some ⟨(G k).g, 0, none⟩)) ∧ w7.cell? ⟨q4, 2, none⟩ = some (.int .i64 jf) := ⟨hm7.cSome hk (put_at _ _ _), hu7.cell (by exact c6) (fun e => NO4.out (own_seal e))⟩; clear hm7 hu7))
      clear h7c cg c6 HC
      go_wp2_with fail
      go_ret2
      rw [HSC.out, if_neg hfe]
      exact ⟨by simp only; rw [HJ0.out, errV_zero]; first | done | rfl, HM7.out, HU7.out⟩
end Go.Proofs.YtadpibcgjgcjhabGreatDoor
