/- The document's answer for chapter 4: At, Load, Store. -/
import Derived.Test.YtadpibcgjgcjhabGreatDoorGuC
import Derived.Test.YtadpibcgjgcjhabGreatDoorGuQ
namespace Go.Proofs.YtadpibcgjgcjhabGreatDoor
open Go.ChangeShapes Go.WideShapes Go.ChangeAt Go.RowKit
set_option maxRecDepth 100000
attribute [local go_sem ↓] Go.wp_at_zero Go.wp_at_succ

theorem gAt_any (w : World) (bg bm base : Nat) (v : Value) (g : Gs) (s : Pl) (b : Mp) (addr : Int) (wt : Bool) (h : RGu w bg bm base v g) (hr : RefAt w bm s) (hne : bg ≠ bm) (hg : GInv s g b 1000000) (hb : base ≤ w.heap.size) :
    Calls Tryz.prog 68 #[.pointer (some ⟨bg, 0, none⟩), .int .i64 addr, .bool wt] w fun e w' =>
      e = .returned (.tuple #[.int .i64 (gAt s g addr wt).1.1, .int .i64 (gAt s g addr wt).1.2]) ∧ RefAt w' bm (gAt s g addr wt).2.1 ∧ (∃ v', RGu w' bg bm base v' (gAt s g addr wt).2.2 ∧ Fr w v v') ∧ Upd (fun k => k = bm ∨ k = bg) w w' := by
  by_cases ho : addr < 0 ∨ 255 < addr
  · have e : gAt s g addr wt = ((0, 1), s, g) := by unfold gAt; rw [if_pos ho]
    rw [e]
    refine (gAt_out w bg addr wt ho).mono ?_
    rintro e w' ⟨rfl, rfl⟩
    exact ⟨rfl, hr, ⟨v, h, Fr.refl _ _⟩, Upd.refl _ _⟩
  · obtain ⟨k, rfl⟩ := Int.eq_ofNat_of_zero_le (show 0 ≤ addr by omega)
    have hk : k ≤ 255 := by omega
    by_cases h1 : g.root = -1
    · have e : gAt s g (k : Int) wt = gTouch s g ((k : Int) / 16) wt := by unfold gAt; rw [if_neg ho, if_pos h1]
      rw [e]
      refine (gAt_off w bg bm base v g s b k wt h hr hne hg.inv hk h1).mono ?_
      rintro e w' ⟨he, h2, h3, h4⟩
      exact ⟨he, h2, ⟨v, h3, Fr.refl _ _⟩, h4⟩
    · rcases idx_or g.c g.root ((k : Int) / 16) with ⟨j, hj, hf⟩ | hf
      · have e : gAt s g (k : Int) wt = gStep s g (atE g.c j) true wt := by unfold gAt; rw [if_neg ho, if_neg h1, hf, if_pos (by omega), Int.toNat_natCast]
        rw [e]
        refine (gAt_found w bg bm base v g s b k wt h hr hne hg.inv hk h1 j hj hf hg.len).mono ?_
        rintro e w' ⟨he, h2, h3, h4⟩
        exact ⟨he, h2, ⟨v, h3, Fr.refl _ _⟩, h4⟩
      · have e : gAt s g (k : Int) wt = gWalk s g ((k : Int) / 16) wt := by unfold gAt; rw [if_neg ho, if_neg h1, hf, if_neg (by omega)]
        rw [e]
        exact gAt_walk w bg bm base v g s b k wt h hr hne hg.inv hk h1 hf hg.len hb hg.byt hg.w0 hg.w1
theorem gLoad_any (w : World) (bg bm base : Nat) (v : Value) (g : Gs) (s : Pl) (b : Mp) (addr : Int) (h : RGu w bg bm base v g) (hr : RefAt w bm s) (hne : bg ≠ bm) (hg : GInv s g b 1000000) (hb : base ≤ w.heap.size) :
    Calls Tryz.prog 44 #[.pointer (some ⟨bg, 0, none⟩), .int .i64 addr] w fun e w' =>
      e = .returned (.tuple #[.int .u8 (gLoad s g addr).1.1, .int .i64 (gLoad s g addr).1.2]) ∧ RefAt w' bm (gLoad s g addr).2.1 ∧ (∃ v', RGu w' bg bm base v' (gLoad s g addr).2.2 ∧ Fr w v v') ∧ Upd (fun k => k = bm ∨ k = bg) w w' := by
  have HF : Hid _ := gAt_frame hg addr false
  have hc := gAt_code s g addr false
  have hll : gLoad s g addr = if 0 < (gAt s g addr false).1.2 then ((0, (gAt s g addr false).1.2), (gAt s g addr false).2) else (((gAt s g addr false).2.1.byt (gAt s g addr false).1.1.toNat (addr % 16).toNat, 0), (gAt s g addr false).2) := rfl
  have HLL : Hid _ := hll
  have HC : Hid _ := gAt_any w bg bm base v g s b addr false h hr hne hg hb
  clear h hr hg hll
  go_enter Tryz.func44, Tryz.ntmps44
  go_wp2_with fail
  refine Calls.mono HC.out ?_
  rintro e w1 ⟨rfl, hr1, ⟨v1, hg1, hf1⟩, hu1⟩
  have H1 : Hid _ := hr1
  have H2 : Hid (RGu w1 bg bm base v1 (gAt s g addr false).2.2) := hg1
  have H3 : Hid _ := hu1
  have HFR : Hid (Fr w v v1) := hf1
  clear hr1 hg1 hu1 hf1 HC
  generalize hqt : gAt s g addr false = t at *
  clear hqt
  by_cases he : 0 < t.1.2
  · have d5 : decide (0 < t.1.2) = true := by simp; exact he
    rw [if_pos he] at HLL
    go_wp2_with fail
    go_ret2
    rw [HLL.out]
    exact ⟨rfl, H1.out, ⟨v1, H2.out, HFR.out⟩, H3.out⟩
  · have d5 : decide (0 < t.1.2) = false := by simp; omega
    rw [if_neg he] at HLL
    obtain ⟨⟨a0, a1⟩, f0, f1⟩ := HF.out (by omega)
    obtain ⟨k, rfl⟩ := Int.eq_ofNat_of_zero_le a0
    obtain ⟨⟨⟨fi, te⟩, s1, g1⟩, ht⟩ : ∃ z, z = t := ⟨t, rfl⟩
    subst ht
    obtain ⟨f, rfl⟩ := Int.eq_ofNat_of_zero_le f0
    have f1 : (f : Int) < s1.n := f1
    have HA1 : Hid (RefAt w1 bm s1) := H1
    have HA2 : Hid (RGu w1 bg bm base v1 g1) := H2
    have d7 : decide (0 < te) = false := d5
    have hfn : f < s1.n := by omega
    have hk16 : k % 16 < 16 := by omega
    have hkk : ((k : Int) % 16).toNat = k % 16 := by omega
    have p0 : w1.cell? ⟨bg, 0, none⟩ = some (.pointer (some ⟨bm, 0, none⟩)) := HA2.out.mp.pool
    have b0 := HA1.out.byt f (k % 16) hfn hk16
    have hle64 : s1.n ≤ 64 := HA1.out.le
    have i0 : (0 : Int) ≤ (f : Int) := by omega
    have i1 : (f : Int) < 64 := by omega
    have i2 : (0 : Int) ≤ (k : Int) % 16 := by omega
    have i3 : (k : Int) % 16 < 16 := by omega
    have HW2 : Hid (gLoad s g (k : Int) = ((s1.byt f (k % 16), 0), s1, g1)) := by
      show _ = _
      have := HLL.out
      simp only [hkk, Int.toNat_natCast] at this
      exact this
    clear HLL HF H1 H2 he d5 f0 hc a0 a1
    go_wp2_with fail
    go_ret2
    rw [HW2.out]
    exact ⟨rfl, HA1.out, ⟨v1, HA2.out, HFR.out⟩, H3.out⟩
theorem gStore_any (w : World) (bg bm base : Nat) (v : Value) (g : Gs) (s : Pl) (b : Mp) (addr x : Int) (h : RGu w bg bm base v g) (hr : RefAt w bm s) (hne : bg ≠ bm) (hg : GInv s g b 1000000) (hb : base ≤ w.heap.size) :
    Calls Tryz.prog 45 #[.pointer (some ⟨bg, 0, none⟩), .int .i64 addr, .int .u8 x] w fun e w' =>
      e = .returned (.int .i64 (gStore s g addr x).1) ∧ RefAt w' bm (gStore s g addr x).2.1 ∧ (∃ v', RGu w' bg bm base v' (gStore s g addr x).2.2 ∧ Fr w v v') ∧ Upd (fun k => k = bm ∨ k = bg) w w' := by
  have HF : Hid _ := gAt_frame hg addr true
  have hc := gAt_code s g addr true
  have hll : gStore s g addr x = if 0 < (gAt s g addr true).1.2 then ((gAt s g addr true).1.2, (gAt s g addr true).2) else (((gAt s g addr true).2.1.set (gAt s g addr true).1.1 (addr % 16) x).1, ((gAt s g addr true).2.1.set (gAt s g addr true).1.1 (addr % 16) x).2, (gAt s g addr true).2.2) := rfl
  have HLL : Hid _ := hll
  have HC : Hid _ := gAt_any w bg bm base v g s b addr true h hr hne hg hb
  clear h hr hg hll
  go_enter Tryz.func45, Tryz.ntmps45
  go_wp2_with fail
  refine Calls.mono HC.out ?_
  rintro e w1 ⟨rfl, hr1, ⟨v1, hg1, hf1⟩, hu1⟩
  have H1 : Hid _ := hr1
  have H2 : Hid (RGu w1 bg bm base v1 (gAt s g addr true).2.2) := hg1
  have H3 : Hid _ := hu1
  have HFR : Hid (Fr w v v1) := hf1
  have p0 : w1.cell? ⟨bg, 0, none⟩ = some (.pointer (some ⟨bm, 0, none⟩)) := hg1.mp.pool
  clear hr1 hg1 hu1 hf1 HC
  generalize hqt : gAt s g addr true = t at *
  clear hqt
  by_cases he : 0 < t.1.2
  · have d5 : decide (0 < t.1.2) = true := by simp; exact he
    rw [if_pos he] at HLL
    go_wp2_with fail
    go_ret
    rw [HLL.out]
    exact ⟨rfl, H1.out, ⟨v1, H2.out, HFR.out⟩, H3.out⟩
  · have d5 : decide (0 < t.1.2) = false := by simp; omega
    rw [if_neg he] at HLL
    obtain ⟨⟨a0, a1⟩, _, _⟩ := HF.out (by omega)
    obtain ⟨k, rfl⟩ := Int.eq_ofNat_of_zero_le a0
    clear HF
    go_wp2_with fail
    refine (rSet_any w1 bm t.1.1 ((k : Int) % 16) x t.2.1 H1.out).mono ?_
    rintro e w2 ⟨rfl, hr2, hu2⟩
    have HA1 : Hid _ := hr2
    have HA2 : Hid _ := H2.out.upd hu2 hne (fun k hk e => (H2.out.nb k hk).2 e)
    have HA3 : Hid _ := H3.out.trans hu2 (fun _ _ e => Or.inl e)
    clear hr2 hu2 p0
    generalize hqs : t.2.1.set t.1.1 ((k : Int) % 16) x = z at *
    clear hqs
    go_wp2_with fail
    go_ret
    rw [HLL.out]
    exact ⟨rfl, HA1.out, ⟨v1, HA2.out, HFR.out⟩, HA3.out⟩
end Go.Proofs.YtadpibcgjgcjhabGreatDoor
