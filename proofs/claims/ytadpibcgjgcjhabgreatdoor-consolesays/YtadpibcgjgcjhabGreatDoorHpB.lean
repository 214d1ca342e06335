/- Package host: whom a number names; what one guest does. -/
import Derived.Test.YtadpibcgjgcjhabGreatDoorHpA
namespace Go.Proofs.YtadpibcgjgcjhabGreatDoor
open Go.ChangeShapes Go.WideShapes Go.ChangeAt Go.RowKit
set_option maxRecDepth 100000
attribute [local go_sem ↓] Go.wp_at_zero Go.wp_at_succ
variable {w w' : World} {bh bp bf : Nat} {G G' : Nat → G3} {h h' : Hs} {x : Gs} {s' : Pl} {x' : Gs} {b : Mp} {W : Int}

theorem guest_no (m : HM w bh bp bf G h) (n : Int) (h0 : 0 < hWho h n) : Calls Tryz.prog 77 #[.pointer (some ⟨bh, 0, none⟩), .int .i64 n] w (MRead w (.tuple #[.pointer none, .iface 37 (.int .i64 (hWho h n))])) := by
  by_cases ho : n < 0 ∨ 3 < n
  · have hw : hWho h n = 1 := by unfold hWho; rw [if_pos ho]
    rw [hw]
    clear hw h0 m
    rcases ho with h0 | h0
    · have d0 : decide (n < 0) = true := by simp; omega
      go_enter Tryz.func77, Tryz.ntmps77
      go_wp2_with fail
      go_ret2
      exact ⟨rfl, Upd.refl _ _⟩
    · have d0 : decide (n < 0) = false := by simp; omega
      have d1 : decide (4 ≤ n) = true := by simp; omega
      go_enter Tryz.func77, Tryz.ntmps77
      go_wp2_with fail
      go_ret2
      exact ⟨rfl, Upd.refl _ _⟩
  · obtain ⟨k, rfl⟩ := Int.eq_ofNat_of_zero_le (show 0 ≤ n by omega)
    have hk : k < 4 := by omega
    have d0 : decide ((k : Int) < 0) = false := by simp
    have d1 : decide ((4 : Int) ≤ (k : Int)) = false := by simp; omega
    have k0 : (0 : Int) ≤ (k : Int) := by omega
    have k1 : (k : Int) < 4 := by omega
    cases hx : h.g k with
    | none =>
      have hw : hWho h k = 2 := by unfold hWho; rw [if_neg ho, Int.toNat_natCast, hx]
      have c := m.cNone hk hx
      rw [hw]
      clear hw m hx ho h0
      go_enter Tryz.func77, Tryz.ntmps77
      go_wp2_with fail
      go_ret2
      exact ⟨rfl, Upd.refl _ _⟩
    | some x =>
      have hw : hWho h k = 0 := (hWho_some hx hk).1
      omega
theorem guest_yes {k : Nat} (m : HM w bh bp bf G h) (hk : k < 4) (hx : h.g k = some x) : Calls Tryz.prog 77 #[.pointer (some ⟨bh, 0, none⟩), .int .i64 (k : Int)] w (MRead w (.tuple #[.pointer (some ⟨(G k).g, 0, none⟩), .nilIface])) := by
  have d0 : decide ((k : Int) < 0) = false := by simp
  have d1 : decide ((4 : Int) ≤ (k : Int)) = false := by simp; omega
  have k0 : (0 : Int) ≤ (k : Int) := by omega
  have k1 : (k : Int) < 4 := by omega
  have c := m.cSome hk hx
  clear m hx
  go_enter Tryz.func77, Tryz.ntmps77
  go_wp2_with fail
  go_ret2
  exact ⟨rfl, Upd.refl _ _⟩
theorem errV_who {n : Int} (h0 : 0 < hWho h n) : errV (hWho h n) = .iface 37 (.int .i64 (hWho h n)) := errV_no (by omega)
theorem MRead.no (S : Nat → Prop) (u : Upd (fun _ => False) w w') : Upd S w w' := u.wide (fun _ f => f.elim)
/-- What State and Leaf of a guest answer. -/
theorem GG.stateAny {bg bl bc : Nat} {s : Pl} (hg : GG w bg bp bf bl bc s x b W) (n : Int) : Calls Tryz.prog 111 #[.pointer (some ⟨bg, 0, none⟩), .int .i64 n] w (MRead w (.tuple #[.int .i64 (stR x.m n).1, errV (stR x.m n).2])) := by
  have c := hg.ce.c1
  have HS : Hid _ := lvState w bl bp n x.m hg.lv
  clear hg
  generalize stR x.m n = r at *
  obtain ⟨r1, r2⟩ := r
  generalize errV (r1, r2).2 = ev at *
  go_enter Tryz.func111, Tryz.ntmps111
  go_wp2_with fail
  refine Calls.mono HS.out ?_
  rintro e w1 ⟨rfl, hu⟩
  go_wp2_with fail
  go_ret2
  exact ⟨rfl, hu⟩
set_option maxHeartbeats 1000000 in
theorem GG.leafAny {bg bl bc : Nat} {s : Pl} (hg : GG w bg bp bf bl bc s x b W) (n : Int) : Calls Tryz.prog 112 #[.pointer (some ⟨bg, 0, none⟩), .int .i64 n] w (MRead w (.tuple #[.agg #[.bool (lfR x.m n).1.there, .bool (lfR x.m n).1.wr, .int .i64 (lfR x.m n).1.fr], errV (lfR x.m n).2])) := by
  have u1 := (Upd.refl (fun _ => False) w).alloc (.cells #[.bool false, .bool false, .int .i64 0] 92)
  have c := (hg.same u1).ce.c1
  have HL : Hid _ := lvLeaf _ bl bp n x.m (hg.same u1).lv
  have hla := LfAt.new w 92 lf0
  have hlz : ∀ o, (w.alloc (.cells #[.bool false, .bool false, .int .i64 0] 92)).frozen? ⟨w.heap.size, o, none⟩ = false := fun o => World.frozen?_alloc_new _ _ _ _
  have HLA : Hid (LfAt (w.alloc (.cells #[.bool false, .bool false, .int .i64 0] 92)) w.heap.size lf0) := hla
  have HLZ : Hid _ := hlz
  have HU1 : Hid _ := u1
  have HSZ : Hid (w.heap.size < (w.alloc (.cells #[.bool false, .bool false, .int .i64 0] 92)).heap.size) := show _ < _ by simp
  clear hg u1 hla hlz
  generalize lfR x.m n = r at *
  obtain ⟨l, r2⟩ := r
  generalize errV (l, r2).2 = ev at *
  go_enter Tryz.func112, Tryz.ntmps112
  go_wp2_with fail
  refine Calls.mono HL.out ?_
  rintro e w1 ⟨rfl, hu⟩
  obtain ⟨y0, y1, y2⟩ := HLA.out.upd hu (fun f => f)
  have z0 : ∀ o, w1.frozen? ⟨w.heap.size, o, none⟩ = false := fun o => by rw [World.frozen?_of_block (hu.block w.heap.size HSZ.out (fun f => f))]; exact HLZ.out o
  have z1 := z0 0
  have z2 := z0 1
  have z3 := z0 2
  have HU : Hid _ := HU1.out.trans hu (fun _ _ f => f)
  have HU2 : Hid (Upd (fun k => k = w.heap.size) w1 (((w1.setCell ⟨w.heap.size, 0, none⟩ (.bool l.there)).setCell ⟨w.heap.size, 1, none⟩ (.bool l.wr)).setCell ⟨w.heap.size, 2, none⟩ (.int .i64 l.fr))) := Upd.three w1 w.heap.size 0 1 2 _ _ _
  clear z0 hu HU1 HLA HLZ HL
  go_wp2_with fail
  refine bodyPost_ret (v := .tuple #[.agg #[.bool l.there, .bool l.wr, .int .i64 l.fr], ev]) (by simp [results, Tryz.results112, go_sem, y0, y1, y2]) rfl ⟨rfl, HU.out.trans HU2.out (fun i hi e => by omega)⟩
/-- What a host's State and Leaf answer. -/
def hState (h : Hs) (n p : Int) : Int × Int := if 0 < hWho h n then (0, hWho h n) else stR (hAt h n).m p
def hLeaf (h : Hs) (n p : Int) : Lf × Int := if 0 < hWho h n then (lf0, hWho h n) else lfR (hAt h n).m p
theorem hState_any (m : HM w bh bp bf G h) (hi : HInv h W) (n p : Int) : Calls Tryz.prog 81 #[.pointer (some ⟨bh, 0, none⟩), .int .i64 n, .int .i64 p] w (MRead w (.tuple #[.int .i64 (hState h n p).1, errV (hState h n p).2])) := by
  unfold hState
  have HMM : Hid (HM w bh bp bf G h) := m
  by_cases h0 : 0 < hWho h n
  · rw [if_pos h0]
    have HG : Hid _ := guest_no m n h0
    have HE : Hid _ := errV_who h0
    clear m hi h0
    go_enter Tryz.func81, Tryz.ntmps81
    go_wp2_with fail
    refine Calls.mono HG.out ?_
    rintro e w1 ⟨rfl, hu⟩
    go_wp2_with fail
    go_ret2
    exact ⟨by rw [HE.out]; first | done | rfl, hu⟩
  · rw [if_neg h0]
    obtain ⟨k, x, rfl, hk, hx, hat⟩ := hWho_zero (show hWho h n = 0 by have := hWho_le (h := h) n; omega)
    rw [hat]
    have HG : Hid _ := guest_yes m hk hx
    have HS : Hid (∀ w1, Upd (fun _ => False) w w1 → Calls Tryz.prog 111 #[.pointer (some ⟨(G k).g, 0, none⟩), .int .i64 p] w1 (MRead w1 (.tuple #[.int .i64 (stR x.m p).1, errV (stR x.m p).2]))) := fun w1 hu => ((m.same hu).gg hi hx).stateAny p
    clear m hi h0 hx hat
    revert HS
    generalize stR x.m p = r
    obtain ⟨r1, r2⟩ := r
    generalize errV (r1, r2).2 = ev
    intro HS
    go_enter Tryz.func81, Tryz.ntmps81
    go_wp2_with fail
    refine Calls.mono HG.out ?_
    rintro e w1 ⟨rfl, hu⟩
    go_wp2_with fail
    refine Calls.mono (HS.out w1 hu) ?_
    rintro e w2 ⟨rfl, hu2⟩
    go_wp2_with fail
    go_ret2
    exact ⟨rfl, hu.trans hu2 (fun _ _ f => f)⟩
theorem hGive_m (m : HM w bh bp bf G h) (hi : HInv h W) (n : Int) (p : Int) : Calls Tryz.prog 92 #[.pointer (some ⟨bh, 0, none⟩), .int .i64 n, .int .i64 p] w (MPost w bh bp bf G h (hAct h n fun s x => gGive s x p false)) := by
  have HMM : Hid (HM w bh bp bf G h) := m
  unfold hAct
  by_cases h0 : 0 < hWho h n
  · rw [if_pos h0]
    have HG : Hid _ := guest_no m n h0
    have HE : Hid _ := errV_who h0
    clear m hi h0
    go_enter Tryz.func92, Tryz.ntmps92
    go_wp2_with fail
    refine Calls.mono HG.out ?_
    rintro e w1 ⟨rfl, hu⟩
    go_wp2_with fail
    go_ret
    exact ⟨by rw [HE.out]; first | done | rfl, HMM.out.same hu, MRead.no _ hu⟩
  · rw [if_neg h0]
    obtain ⟨k, x, rfl, hk, hx, hat⟩ := hWho_zero (show hWho h n = 0 by have := hWho_le (h := h) n; omega)
    rw [hat, Int.toNat_natCast]
    have HG : Hid _ := guest_yes m hk hx
    have HX : Hid (h.g k = some x) := hx
    have HI : Hid (HInv h W) := hi
    clear m hi h0 hx hat
    go_enter Tryz.func92, Tryz.ntmps92
    go_wp2_with fail
    refine Calls.mono HG.out ?_
    rintro e w1 ⟨rfl, hu⟩
    have HS : Hid _ := (HMM.out.same hu).go HI.out HX.out (fun g => g.give p)
    go_wp2_with fail
    refine Calls.mono HS.out ?_
    rintro e w2 ⟨rfl, hm2, hu2⟩
    have HM2 : Hid _ := hm2
    have HU2 : Hid _ := hu2
    clear hm2 hu2 HS
    go_wp2_with fail
    go_ret
    exact ⟨rfl, HM2.out, (MRead.no _ hu).trans HU2.out (fun _ _ f => f)⟩
theorem hStore_m (m : HM w bh bp bf G h) (hi : HInv h W) (n : Int) (addr v : Int) (v0 : 0 ≤ v) (v1 : v ≤ 255) (hW : W ≤ 1000000) : Calls Tryz.prog 126 #[.pointer (some ⟨bh, 0, none⟩), .int .i64 n, .int .i64 addr, .int .u8 v] w (MPost w bh bp bf G h (hStore h n addr v)) := by
  have HMM : Hid (HM w bh bp bf G h) := m
  unfold hStore hAct
  by_cases h0 : 0 < hWho h n
  · rw [if_pos h0]
    have HG : Hid _ := guest_no m n h0
    have HE : Hid _ := errV_who h0
    clear m hi h0
    go_enter Tryz.func126, Tryz.ntmps126
    go_wp2_with fail
    refine Calls.mono HG.out ?_
    rintro e w1 ⟨rfl, hu⟩
    go_wp2_with fail
    go_ret
    exact ⟨by rw [HE.out]; first | done | rfl, HMM.out.same hu, MRead.no _ hu⟩
  · rw [if_neg h0]
    obtain ⟨k, x, rfl, hk, hx, hat⟩ := hWho_zero (show hWho h n = 0 by have := hWho_le (h := h) n; omega)
    rw [hat, Int.toNat_natCast]
    have HG : Hid _ := guest_yes m hk hx
    have HX : Hid (h.g k = some x) := hx
    have HI : Hid (HInv h W) := hi
    clear m hi h0 hx hat
    go_enter Tryz.func126, Tryz.ntmps126
    go_wp2_with fail
    refine Calls.mono HG.out ?_
    rintro e w1 ⟨rfl, hu⟩
    have HS : Hid _ := (HMM.out.same hu).go HI.out HX.out (fun g => g.store addr v v0 v1 hW)
    go_wp2_with fail
    refine Calls.mono HS.out ?_
    rintro e w2 ⟨rfl, hm2, hu2⟩
    have HM2 : Hid _ := hm2
    have HU2 : Hid _ := hu2
    clear hm2 hu2 HS
    go_wp2_with fail
    go_ret
    exact ⟨rfl, HM2.out, (MRead.no _ hu).trans HU2.out (fun _ _ f => f)⟩
theorem hSetRoot_m (m : HM w bh bp bf G h) (hi : HInv h W) (n : Int) (p : Int) : Calls Tryz.prog 95 #[.pointer (some ⟨bh, 0, none⟩), .int .i64 n, .int .i64 p] w (MPost w bh bp bf G h (hRoot h n p)) := by
  have HMM : Hid (HM w bh bp bf G h) := m
  unfold hRoot hAct
  by_cases h0 : 0 < hWho h n
  · rw [if_pos h0]
    have HG : Hid _ := guest_no m n h0
    have HE : Hid _ := errV_who h0
    clear m hi h0
    go_enter Tryz.func95, Tryz.ntmps95
    go_wp2_with fail
    refine Calls.mono HG.out ?_
    rintro e w1 ⟨rfl, hu⟩
    go_wp2_with fail
    go_ret
    exact ⟨by rw [HE.out]; first | done | rfl, HMM.out.same hu, MRead.no _ hu⟩
  · rw [if_neg h0]
    obtain ⟨k, x, rfl, hk, hx, hat⟩ := hWho_zero (show hWho h n = 0 by have := hWho_le (h := h) n; omega)
    rw [hat, Int.toNat_natCast]
    have HG : Hid _ := guest_yes m hk hx
    have HX : Hid (h.g k = some x) := hx
    have HI : Hid (HInv h W) := hi
    clear m hi h0 hx hat
    go_enter Tryz.func95, Tryz.ntmps95
    go_wp2_with fail
    refine Calls.mono HG.out ?_
    rintro e w1 ⟨rfl, hu⟩
    have HS : Hid _ := (HMM.out.same hu).go HI.out HX.out (fun g => g.setRoot p)
    go_wp2_with fail
    refine Calls.mono HS.out ?_
    rintro e w2 ⟨rfl, hm2, hu2⟩
    have HM2 : Hid _ := hm2
    have HU2 : Hid _ := hu2
    clear hm2 hu2 HS
    go_wp2_with fail
    go_ret
    exact ⟨rfl, HM2.out, (MRead.no _ hu).trans HU2.out (fun _ _ f => f)⟩
theorem hForget_m (m : HM w bh bp bf G h) (hi : HInv h W) (n : Int) (p : Int) : Calls Tryz.prog 96 #[.pointer (some ⟨bh, 0, none⟩), .int .i64 n, .int .i64 p] w (MPost w bh bp bf G h (hForget h n p)) := by
  have HMM : Hid (HM w bh bp bf G h) := m
  unfold hForget hAct
  by_cases h0 : 0 < hWho h n
  · rw [if_pos h0]
    have HG : Hid _ := guest_no m n h0
    have HE : Hid _ := errV_who h0
    clear m hi h0
    go_enter Tryz.func96, Tryz.ntmps96
    go_wp2_with fail
    refine Calls.mono HG.out ?_
    rintro e w1 ⟨rfl, hu⟩
    go_wp2_with fail
    go_ret
    exact ⟨by rw [HE.out]; first | done | rfl, HMM.out.same hu, MRead.no _ hu⟩
  · rw [if_neg h0]
    obtain ⟨k, x, rfl, hk, hx, hat⟩ := hWho_zero (show hWho h n = 0 by have := hWho_le (h := h) n; omega)
    rw [hat, Int.toNat_natCast]
    have HG : Hid _ := guest_yes m hk hx
    have HX : Hid (h.g k = some x) := hx
    have HI : Hid (HInv h W) := hi
    clear m hi h0 hx hat
    go_enter Tryz.func96, Tryz.ntmps96
    go_wp2_with fail
    refine Calls.mono HG.out ?_
    rintro e w1 ⟨rfl, hu⟩
    have HS : Hid _ := (HMM.out.same hu).go HI.out HX.out (fun g => g.forget p)
    go_wp2_with fail
    refine Calls.mono HS.out ?_
    rintro e w2 ⟨rfl, hm2, hu2⟩
    have HM2 : Hid _ := hm2
    have HU2 : Hid _ := hu2
    clear hm2 hu2 HS
    go_wp2_with fail
    go_ret
    exact ⟨rfl, HM2.out, (MRead.no _ hu).trans HU2.out (fun _ _ f => f)⟩
theorem hForgetAll_m (m : HM w bh bp bf G h) (hi : HInv h W) (n : Int) (p : Int) : Calls Tryz.prog 97 #[.pointer (some ⟨bh, 0, none⟩), .int .i64 n, .int .i64 p] w (MPost w bh bp bf G h (hDrop h n p)) := by
  have HMM : Hid (HM w bh bp bf G h) := m
  unfold hDrop hAct
  by_cases h0 : 0 < hWho h n
  · rw [if_pos h0]
    have HG : Hid _ := guest_no m n h0
    have HE : Hid _ := errV_who h0
    clear m hi h0
    go_enter Tryz.func97, Tryz.ntmps97
    go_wp2_with fail
    refine Calls.mono HG.out ?_
    rintro e w1 ⟨rfl, hu⟩
    go_wp2_with fail
    go_ret
    exact ⟨by rw [HE.out]; first | done | rfl, HMM.out.same hu, MRead.no _ hu⟩
  · rw [if_neg h0]
    obtain ⟨k, x, rfl, hk, hx, hat⟩ := hWho_zero (show hWho h n = 0 by have := hWho_le (h := h) n; omega)
    rw [hat, Int.toNat_natCast]
    have HG : Hid _ := guest_yes m hk hx
    have HX : Hid (h.g k = some x) := hx
    have HI : Hid (HInv h W) := hi
    clear m hi h0 hx hat
    go_enter Tryz.func97, Tryz.ntmps97
    go_wp2_with fail
    refine Calls.mono HG.out ?_
    rintro e w1 ⟨rfl, hu⟩
    have HS : Hid _ := (HMM.out.same hu).go HI.out HX.out (fun g => g.forgetAll p)
    go_wp2_with fail
    refine Calls.mono HS.out ?_
    rintro e w2 ⟨rfl, hm2, hu2⟩
    have HM2 : Hid _ := hm2
    have HU2 : Hid _ := hu2
    clear hm2 hu2 HS
    go_wp2_with fail
    go_ret
    exact ⟨rfl, HM2.out, (MRead.no _ hu).trans HU2.out (fun _ _ f => f)⟩
end Go.Proofs.YtadpibcgjgcjhabGreatDoor
