/- Package host: Back, Remove, Left. -/
import Derived.Test.YtadpibcgjgcjhabGreatDoorPart15
import Derived.Test.YtadpibcgjgcjhabGreatDoorPart11
namespace Go.Proofs.YtadpibcgjgcjhabGreatDoor
open Go.ChangeShapes Go.WideShapes Go.ChangeAt Go.RowKit
set_option maxRecDepth 100000
attribute [local go_sem ↓] Go.wp_at_zero Go.wp_at_succ
variable {w w' : World} {bh bp bf : Nat} {G G' : Nat → G3} {h h' : Hs} {x : Gs} {s' : Pl} {x' : Gs} {b : Mp} {W : Int}

theorem hLeft_any (m : HM w bh bp bf G h) : Calls Tryz.prog 57 #[.pointer (some ⟨bh, 0, none⟩)] w (MRead w (.int .i64 h.s.left)) := by
  have c0 := m.c0
  have HL : Hid _ := left_any w bp bf h.s m.pool
  clear m
  go_enter Tryz.func57, Tryz.ntmps57
  go_wp2_with fail
  refine Calls.mono HL.out ?_
  rintro e w1 ⟨rfl, hw1⟩
  subst hw1
  go_wp2_with fail
  go_ret
  exact ⟨rfl, Upd.refl _ _⟩
theorem gBack_off (s : Pl) (x : Gs) {p : Int} (hp : onB p = false) : gGive s x p true = (1, s, x) := by
  unfold gGive gMap giveR
  simp only [hp, Bool.false_eq_true, if_false]
set_option maxHeartbeats 1000000 in
theorem hBack_m (m : HM w bh bp bf G h) (hi : HInv h W) (hle : pln (rowS h) 64 ≤ h.s.n) (n p : Int) : Calls Tryz.prog 93 #[.pointer (some ⟨bh, 0, none⟩), .int .i64 n, .int .i64 p] w (MPost w bh bp bf G h (hGive h n p true)) := by
  have HMM : Hid (HM w bh bp bf G h) := m
  have HST : Hid _ := hState_any m hi n p
  unfold hState at HST
  unfold hGive
  by_cases h0 : 0 < hWho h n
  · rw [if_pos h0] at HST ⊢
    have HE : Hid _ := errV_who h0
    simp only [HE.out] at HST
    clear m hi h0
    go_enter Tryz.func93, Tryz.ntmps93
    go_wp2_with fail
    refine Calls.mono HST.out ?_
    rintro e w1 ⟨rfl, hu⟩
    go_wp2_with fail
    go_ret
    exact ⟨by rw [HE.out]; first | done | rfl, HMM.out.same hu, MRead.no _ hu⟩
  · rw [if_neg h0] at HST ⊢
    obtain ⟨k, x, rfl, hk, hx, hat⟩ := hWho_zero (show hWho h n = 0 by have := hWho_le (h := h) n; omega)
    rw [hat] at HST ⊢
    rw [Int.toNat_natCast]
    have HX : Hid (h.g k = some x) := hx
    have HI : Hid (HInv h W) := hi
    unfold stR at HST
    cases hp : onB p with
    | false =>
      rw [gBack_off _ _ hp, if_neg (fun c => by simp at c)]
      rw [hp] at HST
      simp only [Bool.false_eq_true, if_false, errV1] at HST
      have HPS : Hid _ := Hs.put_self hx
      clear m hi h0 hx hat hp
      go_enter Tryz.func93, Tryz.ntmps93
      go_wp2_with fail
      refine Calls.mono HST.out ?_
      rintro e w1 ⟨rfl, hu⟩
      go_wp2_with fail
      go_ret
      exact ⟨by rw [errV1]; first | done | rfl, by simp only; rw [HPS.out]; exact HMM.out.same hu, MRead.no _ hu⟩
    | true =>
      rw [hp] at HST
      simp only [if_true, errV_zero] at HST
      have k0 : (0 : Int) ≤ (k : Int) := by omega
      have k1 : (k : Int) < 4 := by omega
      by_cases hs : x.m.st p.toNat = 2
      · have ds : (x.m.st p.toNat == 2) = true := by simp [hs]
        by_cases hr : pln (rowS h) 64 = h.s.n
        · rw [if_pos ⟨by simp, hs, hr⟩]
          have HRM : Hid (∀ w1, Upd (fun _ => False) w w1 → _) := fun w1 hu => hasRoom_any (m.same hu) hi 1 (by omega) false (by simp; omega)
          clear m hi h0 hx hat hs hr hle
          go_enter Tryz.func93, Tryz.ntmps93
          go_wp2_with fail
          refine Calls.mono HST.out ?_
          rintro e w1 ⟨rfl, hu⟩
          have HR0 : Hid _ := HRM.out w1 hu
          go_wp2_with fail
          refine Calls.mono HR0.out ?_
          rintro e w3 ⟨rfl, hu4⟩
          have hu5 := hu.trans hu4 (fun _ _ f => f)
          go_wp2_with fail
          go_ret
          exact ⟨by rw [errV_no (show (7 : Int) ≠ 0 by omega)]; first | done | rfl, HMM.out.same hu5, MRead.no _ hu5⟩
        · rw [if_neg (fun c => hr c.2.2)]
          have HRM : Hid (∀ w1, Upd (fun _ => False) w w1 → _) := fun w1 hu => hasRoom_any (m.same hu) hi 1 (by omega) true (by simp; omega)
          clear m hi h0 hx hat hs hr hle
          go_enter Tryz.func93, Tryz.ntmps93
          go_wp2_with fail
          refine Calls.mono HST.out ?_
          rintro e w1 ⟨rfl, hu⟩
          have HR0 : Hid _ := HRM.out w1 hu
          go_wp2_with fail
          refine Calls.mono HR0.out ?_
          rintro e w3 ⟨rfl, hu4⟩
          have hu5 := hu.trans hu4 (fun _ _ f => f)
          have HU1 : Hid _ := hu5
          have HM1 : Hid (HM w3 bh bp bf G h) := HMM.out.same hu5
          have HB : Hid _ := HM1.out.go HI.out HX.out (fun g => g.back p)
          have c := HM1.out.cSome hk HX.out
          clear hu hu4 hu5 HR0
          go_wp2_with fail
          refine Calls.mono HB.out ?_
          rintro e w6 ⟨rfl, hm6, hu6⟩
          have HM6 : Hid _ := hm6
          have HU6 : Hid _ := hu6
          clear hm6 hu6 HB
          go_wp2_with fail
          go_ret
          exact ⟨rfl, HM6.out, (MRead.no _ HU1.out).trans HU6.out (fun _ _ f => f)⟩
      · have ds : (x.m.st p.toNat == 2) = false := by simp [hs]
        rw [if_neg (fun c => hs c.2.1)]
        clear m hi h0 hx hat hs hle
        go_enter Tryz.func93, Tryz.ntmps93
        go_wp2_with fail
        refine Calls.mono HST.out ?_
        rintro e w1 ⟨rfl, hu⟩
        have HM1 : Hid (HM w1 bh bp bf G h) := HMM.out.same hu
        have c := HM1.out.cSome hk HX.out
        have HU1 : Hid _ := hu
        have HB : Hid _ := HM1.out.go HI.out HX.out (fun g => g.back p)
        clear hu
        go_wp2_with fail
        refine Calls.mono HB.out ?_
        rintro e w6 ⟨rfl, hm6, hu6⟩
        have HM6 : Hid _ := hm6
        have HU6 : Hid _ := hu6
        clear hm6 hu6 HB
        go_wp2_with fail
        go_ret
        exact ⟨rfl, HM6.out, (MRead.no _ HU1.out).trans HU6.out (fun _ _ f => f)⟩
/-- A guest goes. -/
theorem HM.off {n : Nat} (hn : n < 4) (m : HM w bh bp bf G (h.put n (s', x'))) : HM (w.setCell ⟨bh, 1 + n, none⟩ (.pointer none)) bh bp bf G (hOff s' h n) := by
  have u := Upd.one w bh (1 + n) (.pointer none)
  have hne : ∀ i y, (hOff s' h n).g i = some y → i ≠ n ∧ (h.put n (s', x')).g i = some y := fun i y hy => by
    have hy : setAt h.g n none i = some y := hy
    by_cases e : i = n
    · subst e; rw [setAt_same] at hy; cases hy
    · rw [setAt_other _ _ _ _ e] at hy; exact ⟨e, (setAt_other _ _ _ _ e).trans hy⟩
  have hc := m.cg n hn
  have hp := m.hp
  refine ⟨?_, fun i hi => ?_, fun o => by rw [World.frozen?_setCell]; exact m.fz o, m.pool.upd u (fun e => hp.1 e.symm) (fun e => hp.2 e.symm) m.lt.2.2, fun i y hy => ?_, fun i y hy => m.ap i y (hne i y hy).2, hp, fun i y hy => m.ne i y (hne i y hy).2, fun i j y z hy hz e => m.nx i j y z (hne i y hy).2 (hne j z hz).2 e, m.hn⟩
  · rw [World.cell?_setCell_other _ _ _ _ (addr_ne (Or.inr (by omega)))]; exact m.c0
  · by_cases e : i = n
    · subst e
      rw [World.cell?_setCell_same _ _ _ hc, show (hOff s' h i).g i = none from setAt_same _ _ _]
      rfl
    · rw [World.cell?_setCell_other _ _ _ _ (addr_ne (Or.inr (by omega))), m.cg i hi, show (h.put n (s', x')).g i = h.g i from setAt_other _ _ _ _ e, show (hOff s' h n).g i = h.g i from setAt_other _ _ _ _ e]
  · have h1 := (hne i y hy).2
    exact (m.gu i y h1).upd u (fun k hk e => m.ne i y h1 (by rw [← e]; exact hk))
set_option maxHeartbeats 1000000 in
theorem hRemove_m (m : HM w bh bp bf G h) (hi : HInv h W) (n : Int) : Calls Tryz.prog 89 #[.pointer (some ⟨bh, 0, none⟩), .int .i64 n] w (MPost w bh bp bf G h (hRemove h n)) := by
  have HMM : Hid (HM w bh bp bf G h) := m
  unfold hRemove
  by_cases h0 : 0 < hWho h n
  · rw [if_pos h0]
    have HG : Hid _ := guest_no m n h0
    have HE : Hid _ := errV_who h0
    clear m hi h0
    go_enter Tryz.func89, Tryz.ntmps89
    go_wp2_with fail
    refine Calls.mono HG.out ?_
    rintro e w1 ⟨rfl, hu⟩
    go_wp2_with fail
    go_ret
    exact ⟨by rw [HE.out]; first | done | rfl, HMM.out.same hu, MRead.no _ hu⟩
  · rw [if_neg h0]
    obtain ⟨k, x, rfl, hk, hx, hat⟩ := hWho_zero (show hWho h n = 0 by have := hWho_le (h := h) n; omega)
    rw [hat, Int.toNat_natCast]
    have HG : Hid _ := guest_yes m hk hx
    have HX : Hid (h.g k = some x) := hx
    have HI : Hid (HInv h W) := hi
    have k0 : (0 : Int) ≤ (k : Int) := by omega
    have k1 : (k : Int) < 4 := by omega
    clear m hi h0 hx hat
    go_enter Tryz.func89, Tryz.ntmps89
    go_wp2_with fail
    refine Calls.mono HG.out ?_
    rintro e w1 ⟨rfl, hu⟩
    have HU1 : Hid _ := hu
    clear hu
    go_wp2_with fail
    go_loopg [17] 16 (fun g i wr => ∃ j : Nat, j + g = 16 ∧ i = .int .i64 j ∧ Hid (HM wr bh bp bf G (h.put k (gClear h.s x j))) ∧ Hid (Upd (Own bh bp bf G h) w wr))
    case atStart => exact ⟨0, by omega, rfl, by rw [show h.put k (gClear h.s x 0) = h from Hs.put_self HX.out]; exact HMM.out.same HU1.out, MRead.no _ HU1.out⟩
    case round =>
      obtain ⟨j, hj, rfl, HMj, HUj⟩ := hrel
      have HJ : Hid _ := hj
      clear hj
      by_cases hlt : j < 16
      · have HC : Hid _ := HMj.out.go (HI.out.clear HX.out j) (put_at _ _ _) (fun g => g.unplug (j : Int))
        go_wp2_with fail
        refine Calls.mono HC.out ?_
        rintro e w2 ⟨rfl, hm2, hu2⟩
        rw [put_put] at hm2
        have HM2 : Hid (HM w2 bh bp bf G (h.put k (gClear h.s x (j + 1)))) := hm2
        have HU2 : Hid (Upd (Own bh bp bf G h) w w2) := HUj.out.trans hu2 (fun i _ e => own_put HX.out e)
        clear hm2 hu2 HC
        go_wp2_with fail
        go_roundg (16 - (j + 1))
        case rel => exact ⟨j + 1, by omega, by go_num, HM2.out, HU2.out⟩
        case measure => have := HJ.out; omega
      · obtain rfl : j = 16 := by have := HJ.out; omega
        have c := HMj.out.cSome hk (put_at _ _ _)
        have z := HMj.out.fz (1 + k)
        have HO : Hid _ := HM.off hk HMj.out
        have HU : Hid _ := HUj.out.trans (Upd.one wr bh (1 + k) (.pointer none)) (fun i _ e => Or.inl e)
        go_wp2_with fail
        go_ret
        exact ⟨by rw [errV_zero]; first | done | rfl, HO.out, HU.out⟩
end Go.Proofs.YtadpibcgjgcjhabGreatDoor
/- Package host: New, Add. -/
namespace Go.Proofs.YtadpibcgjgcjhabGreatDoor
open Go.ChangeShapes Go.WideShapes Go.ChangeAt Go.RowKit
set_option maxRecDepth 100000
attribute [local go_sem ↓] Go.wp_at_zero Go.wp_at_succ
variable {w w' : World} {bh bp bf : Nat} {G G' : Nat → G3} {h h' : Hs} {x : Gs} {s' : Pl} {x' : Gs} {b : Mp} {W : Int}

theorem hNew_no (w : World) (n : Int) (hn : n < 1 ∨ 64 < n) : Calls Tryz.prog 10 #[.int .i64 n] w (MRead w (.tuple #[.pointer none, .iface 37 (.int .i64 1)])) := by
  have HN : Hid _ := new_no w n hn
  clear hn
  go_enter Tryz.func10, Tryz.ntmps10
  go_wp2_with fail
  refine Calls.mono HN.out ?_
  rintro e w1 ⟨rfl, hw1⟩
  subst hw1
  go_wp2_with fail
  go_ret2
  exact ⟨rfl, Upd.refl _ _⟩
theorem HM.start {n : Nat} (hn : 1 ≤ n) (hp : PoolAt w bp bf (pl0 n)) : HM (w.alloc (.cells #[.pointer (some ⟨bp, 0, none⟩), .pointer none, .pointer none, .pointer none, .pointer none] 83)) w.heap.size bp bf G (hs0 n) := by
  have u := (Upd.refl (fun _ => False) w).alloc (.cells #[.pointer (some ⟨bp, 0, none⟩), .pointer none, .pointer none, .pointer none, .pointer none] 83)
  have hlt := hp.lt hn
  have hlp := hp.ltp
  have e : ∀ i y, (hs0 n).g i = some y → False := fun i y hy => by cases hy
  refine ⟨by rw [World.cell?_alloc_new]; rfl, fun i hi => ?_, fun o => World.frozen?_alloc_new _ _ _ _, hp.upd u (fun f => f) (fun f => f) hlt, fun i y hy => (e i y hy).elim, fun i y hy => (e i y hy).elim, ⟨by omega, by omega⟩, fun i y hy => (e i y hy).elim, fun i j y z hy => (e i y hy).elim, hn⟩
  rw [World.cell?_alloc_new]
  have : i = 0 ∨ i = 1 ∨ i = 2 ∨ i = 3 := by omega
  rcases this with rfl | rfl | rfl | rfl <;> rfl
theorem hNew_yes (w : World) (n : Nat) (h1 : 1 ≤ n) (h2 : n ≤ 64) : Calls Tryz.prog 10 #[.int .i64 (n : Int)] w fun e w' => ∃ bh bp bf, e = .returned (.tuple #[.pointer (some ⟨bh, 0, none⟩), .nilIface]) ∧ (∀ G, HM w' bh bp bf G (hs0 n)) ∧ w.heap.size ≤ bh ∧ w.heap.size ≤ bp ∧ w.heap.size ≤ bf ∧ Upd (fun _ => False) w w' := by
  have HN : Hid _ := new_any w n h1 h2
  go_enter Tryz.func10, Tryz.ntmps10
  go_wp2_with fail
  refine Calls.mono HN.out ?_
  rintro e w1 ⟨rfl, hp, hu, hz⟩
  have HP : Hid _ := hp
  have HU : Hid _ := hu
  have HZ : Hid _ := hz
  clear hp hu hz
  go_wp2_with fail
  go_ret2
  exact ⟨w1.heap.size, w.heap.size + 1, w.heap.size, rfl, fun G => HM.start h1 HP.out, HU.out.size, by omega, by omega, HU.out.alloc _⟩
/-- A guest is made. -/
theorem HM.made {k : Nat} {q : G3} (m : HM w bh bp bf G h) (hk : k < 4) (hx : h.g k = none) (u0 : Upd (fun _ => False) w w') (g : GM1 w' bp q gs0) (ap : GAp q.g bp bf q.l q.c) (hq : ∀ j, q.has j → w.heap.size ≤ j) :
    HM (w'.setCell ⟨bh, 1 + k, none⟩ (.pointer (some ⟨q.g, 0, none⟩))) bh bp bf (setAt G k q) ⟨h.s, setAt h.g k (some gs0)⟩ := by
  have m1 := m.same u0
  have u := Upd.one w' bh (1 + k) (.pointer (some ⟨q.g, 0, none⟩))
  have hlt := m.lt
  have hp := m.hp
  have hne : ∀ i y, setAt h.g k (some gs0) i = some y → (i = k ∧ y = gs0) ∨ (i ≠ k ∧ h.g i = some y) := fun i y hy => by
    by_cases e : i = k
    · subst e; rw [setAt_same] at hy; cases hy; exact Or.inl ⟨rfl, rfl⟩
    · rw [setAt_other _ _ _ _ e] at hy; exact Or.inr ⟨e, hy⟩
  have hc := m1.cg k hk
  refine ⟨?_, fun i hi => ?_, fun o => by rw [World.frozen?_setCell]; exact m1.fz o, m1.pool.upd u (fun e => hp.1 e.symm) (fun e => hp.2 e.symm) m1.lt.2.2, fun i y hy => ?_, fun i y hy => ?_, hp, fun i y hy => ?_, fun i j y z hy hz e => ?_, m.hn⟩
  · rw [World.cell?_setCell_other _ _ _ _ (addr_ne (Or.inr (by omega)))]; exact m1.c0
  · by_cases e : i = k
    · subst e
      rw [World.cell?_setCell_same _ _ _ hc]
      show _ = some (gPtr (setAt h.g i (some gs0) i) (setAt G i q i).g)
      rw [setAt_same, setAt_same]; rfl
    · rw [World.cell?_setCell_other _ _ _ _ (addr_ne (Or.inr (by omega))), m1.cg i hi]
      show _ = some (gPtr (setAt h.g k (some gs0) i) (setAt G k q i).g)
      rw [setAt_other _ _ _ _ e, setAt_other _ _ _ _ e]
  · rcases hne i y hy with ⟨rfl, rfl⟩ | ⟨e, hy'⟩
    · rw [setAt_same]
      exact g.upd u (fun j hj e => by have := hq j hj; omega)
    · rw [setAt_other _ _ _ _ e]
      exact (m1.gu i y hy').upd u (fun j hj e => m.ne i y hy' (by rw [← e]; exact hj))
  · rcases hne i y hy with ⟨rfl, rfl⟩ | ⟨e, hy'⟩
    · rw [setAt_same]; exact ap
    · rw [setAt_other _ _ _ _ e]; exact m.ap i y hy'
  · rcases hne i y hy with ⟨rfl, rfl⟩ | ⟨e, hy'⟩
    · rw [setAt_same]
      intro hj
      have := hq _ hj
      omega
    · rw [setAt_other _ _ _ _ e]; exact m.ne i y hy'
  · rcases hne i y hy with ⟨rfl, rfl⟩ | ⟨e1, hy'⟩
    · rcases hne j z hz with ⟨rfl, rfl⟩ | ⟨e2, hz'⟩
      · exact absurd rfl e
      · rw [setAt_same, setAt_other _ _ _ _ e2]
        intro a ha hb
        have := hq a ha
        have := m.gLt hz' hb
        omega
    · rcases hne j z hz with ⟨rfl, rfl⟩ | ⟨e2, hz'⟩
      · rw [setAt_same, setAt_other _ _ _ _ e1]
        intro a ha hb
        have := hq a hb
        have := m.gLt hy' ha
        omega
      · rw [setAt_other _ _ _ _ e1, setAt_other _ _ _ _ e2]
        exact m.nx i j y z hy' hz' e
/-- How Add ends. -/
def MAdd (w : World) (bh bp bf : Nat) (G : Nat → G3) (h : Hs) (r : (Int × Int) × Hs) (e : Ending) (w' : World) : Prop :=
  e = .returned (.tuple #[.int .i64 r.1.1, errV r.1.2]) ∧ (∃ G', HM w' bh bp bf G' r.2 ∧ ∀ k, Own bh bp bf G' r.2 k → Own bh bp bf G h k ∨ w.heap.size ≤ k) ∧ Upd (Own bh bp bf G h) w w'
set_option maxHeartbeats 1000000 in
theorem hAdd_m (m : HM w bh bp bf G h) : Calls Tryz.prog 53 #[.pointer (some ⟨bh, 0, none⟩)] w (MAdd w bh bp bf G h (hAdd h)) := by
  have HMM : Hid (HM w bh bp bf G h) := m
  have c0 := m.c0
  clear m
  go_enter Tryz.func53, Tryz.ntmps53
  go_wp2_with fail
  go_loopg [7] 4 (fun g i wr => ∃ k : Nat, k + g = 4 ∧ i = .int .i64 k ∧ wr = w ∧ Hid (∀ i, i < k → h.g i ≠ none))
  case atStart => exact ⟨0, by omega, rfl, rfl, fun i hi => absurd hi (by omega)⟩
  case round =>
    obtain ⟨k, hk, rfl, rfl, HS⟩ := hrel
    have HK : Hid _ := hk
    clear hk
    by_cases hlt : k < 4
    · have k0 : (0 : Int) ≤ (k : Int) := by omega
      have k1 : (k : Int) < 4 := by omega
      cases hx : h.g k with
      | none =>
        have c := HMM.out.cNone hlt hx
        have HX : Hid _ := hx
        have HF : Hid _ := hFree_at hlt HS.out hx
        have HE : Hid (hAdd h = (((k : Int), 0), ⟨h.s, setAt h.g k (some gs0)⟩)) := by show hAdd h = _; unfold hAdd; rw [HF.out]
        have HN : Hid _ := gNew wr bp
        clear hx
        go_wp2_with fail
        refine Calls.mono HN.out ?_
        rintro e w1 ⟨bg, bl, bc, rfl, hce, hlv, hca, q1, q2, q3, n1, n2, n3, hu⟩
        have d := hu.cell c (fun f => f)
        have z : w1.frozen? ⟨bh, 1 + k, none⟩ = false := (HMM.out.same hu).fz (1 + k)
        have hl := HMM.out.lt
        have HM1 : Hid _ := HMM.out.made hlt HX.out hu (q := ⟨bg, bl, bc⟩) ⟨hce, hlv, hca⟩ (by unfold GAp; have := HMM.out.pool.ne; simp only; omega) (fun j hj => by rcases hj with e | e | e <;> simp only at e <;> omega)
        have HU : Hid (Upd (Own bh bp bf G h) wr (w1.setCell ⟨bh, 1 + k, none⟩ (.pointer (some ⟨bg, 0, none⟩)))) := (MRead.no _ hu).trans (Upd.one w1 bh (1 + k) (.pointer (some ⟨bg, 0, none⟩))) (fun i _ e => Or.inl e)
        have HO : Hid (∀ j, Own bh bp bf (setAt G k ⟨bg, bl, bc⟩) ⟨h.s, setAt h.g k (some gs0)⟩ j → Own bh bp bf G h j ∨ wr.heap.size ≤ j) := fun j hj => by
          rcases hj with e | e | e | ⟨i, y, hy, e⟩
          · exact Or.inl (Or.inl e)
          · exact Or.inl (Or.inr (Or.inl e))
          · exact Or.inl (Or.inr (Or.inr (Or.inl e)))
          · by_cases ei : i = k
            · subst ei
              rw [setAt_same] at e
              right
              rcases e with e | e | e <;> simp only at e <;> omega
            · rw [setAt_other _ _ _ _ ei] at e
              have hy' : h.g i = some y := by rw [← hy]; exact (setAt_other _ _ _ _ ei).symm
              exact Or.inl (Or.inr (Or.inr (Or.inr ⟨i, y, hy', e⟩)))
        clear hce hlv hca hu
        go_wp2_with fail
        go_ret2
        rw [HE.out]
        exact ⟨by rw [errV_zero]; first | done | rfl, ⟨_, HM1.out, HO.out⟩, HU.out⟩
      | some x =>
        have c := HMM.out.cSome hlt hx
        have HX : Hid _ := hx
        clear hx
        go_wp2_with fail
        go_roundg (4 - (k + 1))
        case rel =>
          refine ⟨k + 1, by omega, by go_num, rfl, fun i hi => ?_⟩
          by_cases e : i = k
          · subst e; rw [HX.out]; simp
          · exact HS.out i (by omega)
        case measure => have := HK.out; omega
    · obtain rfl : k = 4 := by have := HK.out; omega
      have HF : Hid _ := hFree_no HS.out
      have HE : Hid (hAdd h = ((0, 4), h)) := by show hAdd h = _; unfold hAdd; rw [HF.out]
      go_wp2_with fail
      go_ret2
      rw [HE.out]
      exact ⟨by rw [errV4]; first | done | rfl, ⟨G, HMM.out, fun k hk => Or.inl hk⟩, Upd.refl _ _⟩
end Go.Proofs.YtadpibcgjgcjhabGreatDoor
/- Package host: firstLike, seal. -/
namespace Go.Proofs.YtadpibcgjgcjhabGreatDoor
open Go.ChangeShapes Go.WideShapes Go.ChangeAt Go.RowKit
set_option maxRecDepth 100000
attribute [local go_sem ↓] Go.wp_at_zero Go.wp_at_succ
variable {w w' : World} {bh bp bf : Nat} {G G' : Nat → G3} {h h' : Hs} {x : Gs} {s' : Pl} {x' : Gs} {b : Mp} {W : Int}

/-- The first leaf ahead with the same bytes. -/
def hLike (h : Hs) (fr : Int) (N : Nat) : Lf := match hFst h fr 0 N with
  | some k => rowL h k
  | none => lf0
set_option maxHeartbeats 2000000 in
theorem firstLike_any (m : HM w bh bp bf G h) (hi : HInv h W) (fr : Int) (N : Nat) (hN : N ≤ 64) : Calls Tryz.prog 83 #[.pointer (some ⟨bh, 0, none⟩), .int .i64 fr, .int .i64 (N : Int)] w (MRead w (.agg #[.bool (hLike h fr N).there, .bool (hLike h fr N).wr, .int .i64 (hLike h fr N).fr])) := by
  have HMM : Hid (HM w bh bp bf G h) := m
  have HI : Hid (HInv h W) := hi
  have hlk : ∀ k, k < N → hHit h fr k = true → (∀ i, i < k → hHit h fr i = false) → hLike h fr N = rowL h k := fun k hk hh hb => by
    unfold hLike
    rw [hFst_at hk hb hh]
  have hln : (∀ i, i < N → hHit h fr i = false) → hLike h fr N = lf0 := fun hb => by
    unfold hLike
    rw [hFst_non hb]
  have HLK : Hid _ := hlk
  have HLN : Hid _ := hln
  obtain ⟨y0, y1, y2, z0, z1, z2⟩ := box0 w 92
  have HB0 : Hid (LfAt (w.alloc (.cells #[.bool false, .bool false, .int .i64 0] 92)) w.heap.size lf0) := ⟨y0, y1, y2⟩
  have HZ0 : Hid (∀ o, (w.alloc (.cells #[.bool false, .bool false, .int .i64 0] 92)).frozen? ⟨w.heap.size, o, none⟩ = false) := fun o => World.frozen?_alloc_new _ _ _ _
  have HU0 : Hid (Upd (fun _ => False) w (w.alloc (.cells #[.bool false, .bool false, .int .i64 0] 92))) := (Upd.refl _ _).alloc _
  have hzs : w.heap.size < (w.alloc (.cells #[.bool false, .bool false, .int .i64 0] 92)).heap.size := by simp
  clear m hi hlk hln y0 y1 y2 z0 z1 z2
  generalize hLike h fr N = lk at *
  go_enter Tryz.func83, Tryz.ntmps83
  go_wp2_with fail
  revert HB0 HZ0 HU0 hzs
  generalize w.alloc (.cells #[.bool false, .bool false, .int .i64 0] 92) = w0
  generalize hqs : w.heap.size = q0
  have HQS : Hid _ := hqs
  clear hqs
  intro HB0 HZ0 HU0 hzs
  go_loopg [11] N (fun g i wr => ∃ k : Nat, k + g = N ∧ i = .int .i64 k ∧ Hid (∀ i, i < k → hHit h fr i = false) ∧ Hid (Upd (fun _ => False) w0 wr))
  case atStart => exact ⟨0, by omega, rfl, fun i hi => absurd hi (by omega), Upd.refl _ _⟩
  case round =>
    obtain ⟨k, hk, rfl, HN, HU⟩ := hrel
    have HK : Hid _ := hk
    clear hk
    by_cases hlt : k < N
    · have d : decide ((k : Int) < (N : Int)) = true := by simp; omega
      have HA : Hid _ := fun wr => at_any wr k (by omega)
      go_wp2_with fail
      refine Calls.mono (HA.out _) ?_
      rintro e w1 ⟨rfl, hu1⟩
      have HU1 : Hid (Upd (fun _ => False) w0 w1) := HU.out.trans hu1 (fun _ _ f => f)
      have hl := hLeaf_any (HMM.out.same (HU0.out.trans HU1.out (fun _ _ f => f))) HI.out ((k / 16 : Nat) : Int) ((k % 16 : Nat) : Int)
      have hrw := hLeaf_row h (k := k) (by omega)
      have hht : hHit h fr k = ((rowL h k).there && h.s.same (rowL h k).fr fr) := rfl
      rw [← hrw] at hht
      have HLKk : Hid _ := HLK.out k hlt
      rw [← hrw] at HLKk
      clear hrw
      revert hl hht HLKk
      generalize hLeaf h ((k / 16 : Nat) : Int) ((k % 16 : Nat) : Int) = r
      obtain ⟨⟨lt, lw, lf⟩, r2⟩ := r
      simp only
      generalize errV r2 = ev
      intro hl hht HLKk
      have HL : Hid _ := hl
      have HHT : Hid _ := hht
      clear hl hht hu1 HA HU
      go_wp2_with fail
      refine Calls.mono HL.out ?_
      rintro e w2 ⟨rfl, hu2⟩
      have HU2 : Hid (Upd (fun _ => False) w0 w2) := HU1.out.trans hu2 (fun _ _ f => f)
      obtain ⟨y0, y1, y2, z0, z1, z2⟩ := box0 w2 92
      have HX : Hid (LfAt (w2.alloc (.cells #[.bool lt, .bool lw, .int .i64 lf] 92)) w2.heap.size ⟨lt, lw, lf⟩) := LfAt.new w2 92 ⟨lt, lw, lf⟩
      have HU3 : Hid (Upd (fun _ => False) w0 (w2.alloc (.cells #[.bool lt, .bool lw, .int .i64 lf] 92))) := HU2.out.alloc _
      clear hu2 HL HU1
      go_wp2_with fail
      clear y0 y1 y2 z0 z1 z2 HU2
      revert HX HU3
      generalize w2.alloc (.cells #[.bool lt, .bool lw, .int .i64 lf] 92) = w3
      generalize w2.heap.size = q3
      intro HX HU3
      have HM3 : Hid (HM w3 bh bp bf G h) := HMM.out.same (HU0.out.trans HU3.out (fun _ _ f => f))
      have c0 := HM3.out.c0
      have x0 := HX.out.c0
      have x1 := HX.out.c1
      have x2 := HX.out.c2
      simp only at x0 x1 x2
      cases lt with
      | false =>
        go_quiet (fail)
        go_wp2_with fail
        go_roundg (N - (k + 1))
        case rel =>
          refine ⟨k + 1, by omega, by go_num, fun i hi => ?_, HU3.out.drewN _⟩
          by_cases e : i = k
          · subst e; exact HHT.out
          · exact HN.out i (by omega)
        case measure => have := HK.out; omega
      | true =>
        have HS : Hid _ := same_any w3.drew bp bf lf fr h.s HM3.out.drew.pool
        revert HS HHT
        generalize h.s.same lf fr = sm
        intro HHT HS
        go_region_held3 (fun w' => w'.cell? ⟨bh, 0, none⟩ = some (.pointer (some ⟨bp, 0, none⟩)) ∧ w'.cell? ⟨q3, 0, none⟩ = some (.bool true) ∧ w'.cell? ⟨q3, 2, none⟩ = some (.int .i64 lf)) (first | exact ⟨c0, x0, x2⟩ | exact h4c)
          (first | (go_at_call 113; refine Calls.mono HS.out ?_; rintro e w4 ⟨rfl, m4, rfl⟩; have h4c : (w3.drew.drewN m4).cell? ⟨bh, 0, none⟩ = some (.pointer (some ⟨bp, 0, none⟩)) ∧ (w3.drew.drewN m4).cell? ⟨q3, 0, none⟩ = some (.bool true) ∧ (w3.drew.drewN m4).cell? ⟨q3, 2, none⟩ = some (.int .i64 lf) := ⟨c0, x0, x2⟩))
        cases sm with
        | false =>
          go_wp2_with fail
          go_roundg (N - (k + 1))
          case rel =>
            refine ⟨k + 1, by omega, by go_num, fun i hi => ?_, HU3.out.drewN _⟩
            by_cases e : i = k
            · subst e; exact HHT.out
            · exact HN.out i (by omega)
          case measure => have := HK.out; omega
        | true =>
          have hlk := HLKk.out HHT.out HN.out
          have HU5 : Hid (Upd (fun _ => False) w0 (w3.drewN (1 + m4))) := HU3.out.drewN _
          obtain ⟨b0, b1, b2⟩ := HB0.out.upd HU3.out (fun f => f)
          simp only [lf0] at b0 b1 b2
          have zz : ∀ o, w3.frozen? ⟨q0, o, none⟩ = false := fun o => by rw [World.frozen?_of_block (HU3.out.block q0 hzs (fun f => f))]; exact HZ0.out o
          have z0 := zz 0
          have z1 := zz 1
          have z2 := zz 2
          have HLQ : Hid _ := hlk
          clear zz hlk
          go_wp2_with fail
          refine bodyPost_ret (v := .agg #[.bool true, .bool lw, .int .i64 lf]) (by simp [results, Tryz.results83, go_sem, b0, b1, b2]) rfl ⟨by rw [HLQ.out], (HU0.out.trans HU5.out (fun _ _ f => f)).trans (Upd.three (w3.drewN (1 + m4)) q0 0 1 2 _ _ _) (fun i hi e => by have := HQS.out; omega)⟩
    · obtain rfl : k = N := by have := HK.out; omega
      have d : decide ((k : Int) < (k : Int)) = false := by simp
      have hlk := HLN.out HN.out
      obtain ⟨b0, b1, b2⟩ := HB0.out.upd HU.out (fun f => f)
      simp only [lf0] at b0 b1 b2
      have zz : ∀ o, wr.frozen? ⟨q0, o, none⟩ = false := fun o => by rw [World.frozen?_of_block (HU.out.block q0 hzs (fun f => f))]; exact HZ0.out o
      have z0 := zz 0
      have z1 := zz 1
      have z2 := zz 2
      have HLQ : Hid _ := hlk
      clear zz hlk
      go_wp2_with fail
      refine bodyPost_ret (v := .agg #[.bool false, .bool false, .int .i64 0]) (by simp [results, Tryz.results83, go_sem, b0, b1, b2]) rfl ⟨by rw [HLQ.out]; rfl, (HU0.out.trans HU.out (fun _ _ f => f)).trans (Upd.three wr q0 0 1 2 _ _ _) (fun i hi e => by have := HQS.out; omega)⟩
theorem own_seal {fr : Int} {i k : Nat} (hk : Own bh bp bf G (hSealTo h fr i) k) : Own bh bp bf G h k := by
  rcases hk with e | e | e | ⟨j, y, hy, e⟩
  · exact Or.inl e
  · exact Or.inr (Or.inl e)
  · exact Or.inr (Or.inr (Or.inl e))
  · obtain ⟨x, hx, _⟩ := sealTo_g h fr i hy
    exact Or.inr (Or.inr (Or.inr ⟨j, x, hx, e⟩))
theorem hLeaf_none {k : Nat} (hk : k < 64) (hx : h.g (k / 16) = none) : hLeaf h ((k / 16 : Nat) : Int) ((k % 16 : Nat) : Int) = (lf0, 2) := by
  have hw : hWho h ((k / 16 : Nat) : Int) = 2 := by unfold hWho; rw [if_neg (by omega), Int.toNat_natCast, hx]
  unfold hLeaf
  rw [hw, if_pos (by omega)]
theorem hLeaf_some {k : Nat} (hk : k < 64) (hx : h.g (k / 16) = some x) : hLeaf h ((k / 16 : Nat) : Int) ((k % 16 : Nat) : Int) = (x.m.lf (k % 16), 0) := by
  obtain ⟨h1, h2⟩ := hWho_some hx (show k / 16 < 4 by omega)
  unfold hLeaf
  rw [h1, if_neg (by omega), h2]
  unfold lfR
  rw [if_pos ((onB_iff _).2 (by omega)), Int.toNat_natCast]
set_option maxHeartbeats 2000000 in
theorem hseal_any (m : HM w bh bp bf G h) (hi : HInv h W) (fr : Int) : Calls Tryz.prog 84 #[.pointer (some ⟨bh, 0, none⟩), .int .i64 fr] w fun e w' => e = .returned (.tuple #[]) ∧ HM w' bh bp bf G (hSealTo h fr 64) ∧ Upd (Own bh bp bf G h) w w' := by
  have HMM : Hid (HM w bh bp bf G h) := m
  have HI : Hid (HInv h W) := hi
  clear m hi
  go_enter Tryz.func84, Tryz.ntmps84
  go_wp2_with fail
  go_loopg [9] 64 (fun g i wr => ∃ k : Nat, k + g = 64 ∧ i = .int .i64 k ∧ Hid (HM wr bh bp bf G (hSealTo h fr k)) ∧ Hid (Upd (Own bh bp bf G h) w wr))
  case atStart => exact ⟨0, by omega, rfl, by rw [sealTo_zero]; exact HMM.out, Upd.refl _ _⟩
  case round =>
    obtain ⟨k, hk, rfl, HMk, HU⟩ := hrel
    have HK : Hid _ := hk
    clear hk
    by_cases hlt : k < 64
    · have HA : Hid _ := fun wr => at_any wr k hlt
      go_wp2_with fail
      refine Calls.mono (HA.out _) ?_
      rintro e w1 ⟨rfl, hu1⟩
      have HM1 : Hid (HM w1 bh bp bf G (hSealTo h fr k)) := HMk.out.same hu1
      have HU1 : Hid (Upd (Own bh bp bf G h) w w1) := HU.out.trans (MRead.no _ hu1) (fun _ _ f => f)
      have hl := hLeaf_any HM1.out (HI.out.sealTo fr k) ((k / 16 : Nat) : Int) ((k % 16 : Nat) : Int)
      clear hu1 HA HU HMk
      cases hx : h.g (k / 16) with
      | none =>
        rw [hLeaf_none hlt (show (hSealTo h fr k).g (k / 16) = none by show (h.g (k / 16)).map _ = none; rw [hx]; rfl)] at hl
        simp only [errV2, lf0] at hl
        have HL : Hid _ := hl
        have HSN : Hid _ := sealTo_none h fr hx
        clear hl hx
        go_wp2_with fail
        refine Calls.mono HL.out ?_
        rintro e w2 ⟨rfl, hu2⟩
        obtain ⟨y0, y1, y2, z0, z1, z2⟩ := box0 w2 92
        have HM3 : Hid (HM (w2.alloc (.cells #[.bool false, .bool false, .int .i64 0] 92)) bh bp bf G (hSealTo h fr k)) := HM1.out.same (hu2.alloc _)
        have HU3 : Hid (Upd (Own bh bp bf G h) w (w2.alloc (.cells #[.bool false, .bool false, .int .i64 0] 92))) := HU1.out.trans (MRead.no _ (hu2.alloc _)) (fun _ _ f => f)
        clear hu2 HL
        go_wp2_with fail
        go_roundg (64 - (k + 1))
        case rel => exact ⟨k + 1, by omega, by go_num, by rw [HSN.out]; exact HM3.out, HU3.out⟩
        case measure => have := HK.out; omega
      | some z =>
        have hat := sealTo_at h fr k hx
        have h1 := sealTo_leaf z.m (16 * (k / 16)) fr k (k % 16)
        rw [hLeaf_some hlt hat] at hl
        simp only [errV_zero] at hl
        rw [h1.1, h1.2] at hl
        have HL : Hid _ := hl
        have HX : Hid (h.g (k / 16) = some z) := hx
        have HAT : Hid _ := hat
        clear hl hx hat h1
        go_wp2_with fail
        refine Calls.mono HL.out ?_
        rintro e w2 ⟨rfl, hu2⟩
        revert HL
        generalize hlw : ((sealOf z.m (16 * (k / 16)) fr k).lf (k % 16)).wr = lw
        intro HL
        obtain ⟨y0, y1, y2, z0, z1, z2⟩ := box0 w2 92
        have hu3 := hu2.alloc (.cells #[.bool (z.m.lf (k % 16)).there, .bool lw, .int .i64 (z.m.lf (k % 16)).fr] 92)
        have HM3 : Hid (HM (w2.alloc (.cells #[.bool (z.m.lf (k % 16)).there, .bool lw, .int .i64 (z.m.lf (k % 16)).fr] 92)) bh bp bf G (hSealTo h fr k)) := HM1.out.same hu3
        have HU3 : Hid (Upd (Own bh bp bf G h) w (w2.alloc (.cells #[.bool (z.m.lf (k % 16)).there, .bool lw, .int .i64 (z.m.lf (k % 16)).fr] 92))) := HU1.out.trans (MRead.no _ hu3) (fun _ _ f => f)
        have k0 : (0 : Int) ≤ (k : Int) / 16 := by omega
        have k1 : (k : Int) / 16 < 4 := by omega
        have hk4 : k / 16 < 4 := by omega
        clear hu2 hu3 HL hlw
        by_cases hzt : (z.m.lf (k % 16)).there = true
        · by_cases hzf : (z.m.lf (k % 16)).fr = fr
          · have df : ((z.m.lf (k % 16)).fr == fr) = true := by simp [hzf]
            have HSS : Hid _ := sealTo_step h fr HX.out hzt hzf
            have HC : Hid _ := HM3.out.go (HI.out.sealTo fr k) HAT.out (fun g => g.seal ((k % 16 : Nat) : Int))
            rw [hzt] at HM3 HU3 HC ⊢
            have cz := HM3.out.cSome hk4 HAT.out
            clear hzt hzf
            go_wp2_with fail
            refine Calls.mono HC.out ?_
            rintro e w5 ⟨rfl, hm5, hu5⟩
            simp only at hm5
            rw [show (hSealTo h fr k).s = h.s from rfl, HSS.out] at hm5
            have HM5 : Hid (HM w5 bh bp bf G (hSealTo h fr (k + 1))) := hm5
            have HU5 : Hid (Upd (Own bh bp bf G h) w w5) := HU3.out.trans hu5 (fun i _ e => own_seal e)
            clear hm5 hu5 HC
            go_wp2_with fail
            go_roundg (64 - (k + 1))
            case rel => exact ⟨k + 1, by omega, by go_num, HM5.out, HU5.out⟩
            case measure => have := HK.out; omega
          · have df : ((z.m.lf (k % 16)).fr == fr) = false := by simp [hzf]
            have HSS : Hid _ := sealTo_skip h fr HX.out (fun c => hzf c.2)
            rw [hzt] at HM3 HU3 ⊢
            clear hzt hzf
            go_wp2_with fail
            go_roundg (64 - (k + 1))
            case rel => exact ⟨k + 1, by omega, by go_num, by rw [HSS.out]; exact HM3.out, HU3.out⟩
            case measure => have := HK.out; omega
        · have hzt' : (z.m.lf (k % 16)).there = false := by simpa using hzt
          have HSS : Hid _ := sealTo_skip h fr HX.out (fun c => hzt c.1)
          rw [hzt'] at HM3 HU3 ⊢
          clear hzt hzt'
          go_wp2_with fail
          go_roundg (64 - (k + 1))
          case rel => exact ⟨k + 1, by omega, by go_num, by rw [HSS.out]; exact HM3.out, HU3.out⟩
          case measure => have := HK.out; omega
    · obtain rfl : k = 64 := by have := HK.out; omega
      go_wp2_with fail
      go_end0
      exact ⟨rfl, HMk.out, HU.out⟩
end Go.Proofs.YtadpibcgjgcjhabGreatDoor
/- Scan, plainly: its cases. -/
namespace Go.Proofs.YtadpibcgjgcjhabGreatDoor
open Go.RowKit
variable {h : Hs} {x : Gs}

theorem hScan_wrong {n : Int} (p : Int) (h0 : 0 < hWho h n) : hScan h n p = ((false, hWho h n), h) := by unfold hScan; rw [if_pos h0]
theorem hScan_off {k : Nat} {p : Int} (hx : h.g k = some x) (hk : k < 4) (hp : onB p = false) : hScan h k p = ((false, 1), h) := by
  obtain ⟨e1, _⟩ := hWho_some hx hk
  unfold hScan
  rw [e1, if_neg (by omega), hp]
  rfl
theorem hScan_gone {k p : Nat} (hx : h.g k = some x) (hk : k < 4) (hp : p < 16) (ht : (x.m.lf p).there = false) : hScan h k p = ((false, 0), h) := by
  obtain ⟨e1, e2⟩ := hWho_some hx hk
  unfold hScan
  rw [e1, if_neg (by omega), if_pos ((onB_iff _).2 ⟨by omega, by omega⟩), e2]
  simp only [Int.toNat_natCast, ht]
  simp
theorem hScan_no {k p : Nat} (hx : h.g k = some x) (hk : k < 4) (hp : p < 16) (ht : (x.m.lf p).there = true) (hf : hFst h (x.m.lf p).fr 0 (16 * k + p) = none) : hScan h k p = ((false, 0), h) := by
  obtain ⟨e1, e2⟩ := hWho_some hx hk
  unfold hScan
  rw [e1, if_neg (by omega), if_pos ((onB_iff _).2 ⟨by omega, by omega⟩), e2]
  simp only [Int.toNat_natCast, ht, if_true]
  rw [hf]
theorem hScan_hit {k p : Nat} (hx : h.g k = some x) (hk : k < 4) (hp : p < 16) (ht : (x.m.lf p).there = true) (j : Nat) (hf : hFst h (x.m.lf p).fr 0 (16 * k + p) = some j) : hScan h k p = if (rowL h j).fr = (x.m.lf p).fr then ((false, 0), h) else ((true, (gJoin h.s (hAt (hSealTo h (rowL h j).fr 64) k) p (rowL h j).fr).1), (hSealTo h (rowL h j).fr 64).put k (gJoin h.s (hAt (hSealTo h (rowL h j).fr 64) k) p (rowL h j).fr).2) := by
  obtain ⟨e1, e2⟩ := hWho_some hx hk
  unfold hScan
  rw [e1, if_neg (by omega), if_pos ((onB_iff _).2 ⟨by omega, by omega⟩), e2]
  simp only [Int.toNat_natCast, ht, if_true]
  rw [hf]
end Go.Proofs.YtadpibcgjgcjhabGreatDoor
/- Package host: Scan, ScanAll. -/
namespace Go.Proofs.YtadpibcgjgcjhabGreatDoor
open Go.ChangeShapes Go.WideShapes Go.ChangeAt Go.RowKit
set_option maxRecDepth 100000
attribute [local go_sem ↓] Go.wp_at_zero Go.wp_at_succ
variable {w w' : World} {bh bp bf : Nat} {G G' : Nat → G3} {h h' : Hs} {x : Gs} {s' : Pl} {x' : Gs} {b : Mp} {W : Int} {t : Nat → Nat → Int} {F : Nat → Option Fl}

/-- How Scan ends. -/
def MScan (w : World) (bh bp bf : Nat) (G : Nat → G3) (h : Hs) (r : (Bool × Int) × Hs) (e : Ending) (w' : World) : Prop :=
  e = .returned (.tuple #[.bool r.1.1, errV r.1.2]) ∧ HM w' bh bp bf G r.2 ∧ Upd (Own bh bp bf G h) w w'
theorem hLike_none {fr : Int} {N : Nat} (hf : hFst h fr 0 N = none) : hLike h fr N = lf0 := by unfold hLike; rw [hf]
theorem hLike_some {fr : Int} {N j : Nat} (hf : hFst h fr 0 N = some j) : hLike h fr N = rowL h j := by unfold hLike; rw [hf]
theorem hScan_bad (m : HM w bh bp bf G h) (hi : HInv h W) (n p c : Int) (hc : c ≠ 0) (hl : hLeaf h n p = (lf0, c)) : Calls Tryz.prog 59 #[.pointer (some ⟨bh, 0, none⟩), .int .i64 n, .int .i64 p] w (MScan w bh bp bf G h ((false, c), h)) := by
  have HMM : Hid (HM w bh bp bf G h) := m
  have hla := hLeaf_any m hi n p
  rw [hl] at hla
  simp only [lf0, errV_no hc] at hla
  have HL : Hid _ := hla
  clear m hi hl hla
  go_enter Tryz.func59, Tryz.ntmps59
  go_wp2_with fail
  refine Calls.mono HL.out ?_
  rintro e w2 ⟨rfl, hu2⟩
  obtain ⟨y0, y1, y2, z0, z1, z2⟩ := box0 w2 92
  go_wp2_with fail
  go_ret2
  exact ⟨by rw [errV_no hc]; first | done | rfl, HMM.out.same (hu2.alloc _), MRead.no _ (hu2.alloc _)⟩
theorem hScan_out (m : HM w bh bp bf G h) (hi : HInv h W) {k p : Nat} (hk : k < 4) (hp : p < 16) (hx : h.g k = some x) (ht : (x.m.lf p).there = false) : Calls Tryz.prog 59 #[.pointer (some ⟨bh, 0, none⟩), .int .i64 (k : Int), .int .i64 (p : Int)] w (MScan w bh bp bf G h ((false, 0), h)) := by
  have HMM : Hid (HM w bh bp bf G h) := m
  have hla := hLeaf_any m hi (k : Int) (p : Int)
  have hl : hLeaf h (k : Int) (p : Int) = (x.m.lf p, 0) := by
    obtain ⟨h1, h2⟩ := hWho_some hx hk
    unfold hLeaf lfR
    rw [h1, if_neg (by omega), h2, if_pos ((onB_iff _).2 (by omega)), Int.toNat_natCast]
  rw [hl] at hla
  simp only [ht, errV_zero] at hla
  have HL : Hid _ := hla
  clear m hi hl hla ht
  go_enter Tryz.func59, Tryz.ntmps59
  go_wp2_with fail
  refine Calls.mono HL.out ?_
  rintro e w2 ⟨rfl, hu2⟩
  obtain ⟨y0, y1, y2, z0, z1, z2⟩ := box0 w2 92
  go_wp2_with fail
  go_ret2
  exact ⟨by rw [errV_zero]; first | done | rfl, HMM.out.same (hu2.alloc _), MRead.no _ (hu2.alloc _)⟩
set_option maxHeartbeats 2000000 in
theorem hScan_in (m : HM w bh bp bf G h) (hf : HF h t F W) {k p : Nat} (hk : k < 4) (hp : p < 16) (hx : h.g k = some x) (ht : (x.m.lf p).there = true) : Calls Tryz.prog 59 #[.pointer (some ⟨bh, 0, none⟩), .int .i64 (k : Int), .int .i64 (p : Int)] w (MScan w bh bp bf G h (hScan h k p)) := by
  have HMM : Hid (HM w bh bp bf G h) := m
  have hi := hf.hr.inv
  have HI : Hid (HInv h W) := hi
  have hla := hLeaf_any m hi (k : Int) (p : Int)
  have hl : hLeaf h (k : Int) (p : Int) = (x.m.lf p, 0) := by
    obtain ⟨h1, h2⟩ := hWho_some hx hk
    unfold hLeaf lfR
    rw [h1, if_neg (by omega), h2, if_pos ((onB_iff _).2 (by omega)), Int.toNat_natCast]
  rw [hl] at hla
  simp only [ht, errV_zero] at hla
  have HL : Hid _ := hla
  have HX : Hid (h.g k = some x) := hx
  have HN1 : Hid _ := hScan_no hx hk hp ht
  have HN2 : Hid _ := hScan_hit hx hk hp ht
  have HFL : Hid (∀ w1, Upd (fun _ => False) w w1 → Calls Tryz.prog 83 #[.pointer (some ⟨bh, 0, none⟩), .int .i64 (x.m.lf p).fr, .int .i64 ((16 * k + p : Nat) : Int)] w1 (MRead w1 (.agg #[.bool (hLike h (x.m.lf p).fr (16 * k + p)).there, .bool (hLike h (x.m.lf p).fr (16 * k + p)).wr, .int .i64 (hLike h (x.m.lf p).fr (16 * k + p)).fr]))) := fun w1 hu => firstLike_any (m.same hu) hi (x.m.lf p).fr (16 * k + p) (by omega)
  have HHF : Hid (HF h t F W) := hf
  have HT : Hid _ := ht
  have wm : IntKind.i64.wrap ((k : Int) * 16) = (k : Int) * 16 := by rw [IntKind.wrap_i64]; omega
  have wa : IntKind.i64.wrap ((k : Int) * 16 + (p : Int)) = (k : Int) * 16 + (p : Int) := by rw [IntKind.wrap_i64]; omega
  have hcast : ((16 * k + p : Nat) : Int) = (k : Int) * 16 + (p : Int) := by omega
  rw [hcast] at HFL
  have k0 : (0 : Int) ≤ (k : Int) := by omega
  have k1 : (k : Int) < 4 := by omega
  clear m hi hl hla ht hf hx hcast
  go_enter Tryz.func59, Tryz.ntmps59
  go_wp2_with fail
  refine Calls.mono HL.out ?_
  rintro e w2 ⟨rfl, hu2⟩
  obtain ⟨y0, y1, y2, z0, z1, z2⟩ := box0 w2 92
  have HB : Hid (LfAt (w2.alloc (.cells #[.bool true, .bool (x.m.lf p).wr, .int .i64 (x.m.lf p).fr] 92)) w2.heap.size ⟨true, (x.m.lf p).wr, (x.m.lf p).fr⟩) := LfAt.new w2 92 ⟨true, (x.m.lf p).wr, (x.m.lf p).fr⟩
  have HU3 : Hid (Upd (fun _ => False) w (w2.alloc (.cells #[.bool true, .bool (x.m.lf p).wr, .int .i64 (x.m.lf p).fr] 92))) := hu2.alloc _
  have hsz : w.heap.size ≤ w2.heap.size := hu2.size
  clear hu2 HL
  go_wp2_with fail
  clear y0 y1 y2 z0 z1 z2
  revert HB HU3 hsz
  generalize w2.alloc (.cells #[.bool true, .bool (x.m.lf p).wr, .int .i64 (x.m.lf p).fr] 92) = w3
  generalize w2.heap.size = q3
  intro HB HU3 hsz
  have HFw : Hid _ := HFL.out w3 HU3.out
  clear HFL
  cases hfs : hFst h (x.m.lf p).fr 0 (16 * k + p) with
  | none =>
    have HSC : Hid _ := HN1.out hfs
    rw [hLike_none hfs] at HFw
    simp only [lf0] at HFw
    clear hfs HN1 HN2
    refine Calls.mono HFw.out ?_
    rintro e w4 ⟨rfl, hu4⟩
    obtain ⟨y0, y1, y2, z0, z1, z2⟩ := box0 w4 92
    have x2 := (HB.out.upd hu4 (fun f => f)).c2
    have HU4 : Hid (Upd (fun _ => False) w (w4.alloc (.cells #[.bool false, .bool false, .int .i64 0] 92))) := (HU3.out.trans hu4 (fun _ _ f => f)).alloc _
    simp only at x2
    clear hu4
    go_wp2_with fail
    go_ret2
    rw [HSC.out]
    exact ⟨by rw [errV_zero]; first | done | rfl, HMM.out.same HU4.out, MRead.no _ HU4.out⟩
  | some j =>
    have hsp := hFst_spec h (x.m.lf p).fr (16 * k + p) 0
    have hhit : hHit h (x.m.lf p).fr j = true ∧ j < 16 * k + p := by
      rcases hsp with ⟨j', e, _, a, c, _⟩ | ⟨e, _⟩
      · rw [hfs] at e; cases e; exact ⟨c, by omega⟩
      · rw [hfs] at e; cases e
    have hth : (rowL h j).there = true ∧ h.s.same (rowL h j).fr (x.m.lf p).fr = true := by
      have := hhit.1
      unfold hHit at this
      simpa using this
    have HSC : Hid _ := HN2.out j hfs
    rw [hLike_some hfs] at HFw
    have hjn : (rowL h j).fr ≠ (x.m.lf p).fr → (gJoin h.s (hAt (hSealTo h (rowL h j).fr 64) k) p (rowL h j).fr).1 = 0 := fun hne => by
      have := (HHF.out.join HX.out hp HT.out hth.2 hne).1
      rw [(hWho_some (sealTo_at h (rowL h j).fr 64 HX.out) hk).2]
      exact this
    have HJN : Hid _ := hjn
    rw [hth.1] at HFw
    clear hfs hsp hhit hth hjn HN1 HN2
    revert HFw HSC HJN
    generalize rowL h j = lj
    obtain ⟨jt, jw, jf⟩ := lj
    simp only
    intro HFw HSC HJN
    refine Calls.mono HFw.out ?_
    rintro e w4 ⟨rfl, hu4⟩
    obtain ⟨y0, y1, y2, z0, z1, z2⟩ := box0 w4 92
    have hu5 := hu4.alloc (.cells #[.bool true, .bool jw, .int .i64 jf] 92)
    have HX5 : Hid (LfAt (w4.alloc (.cells #[.bool true, .bool jw, .int .i64 jf] 92)) w4.heap.size ⟨true, jw, jf⟩) := LfAt.new w4 92 ⟨true, jw, jf⟩
    have x2 := (HB.out.upd hu4 (fun f => f)).c2
    have x2' := (HB.out.upd hu5 (fun f => f)).c2
    have HU5 : Hid (Upd (fun _ => False) w (w4.alloc (.cells #[.bool true, .bool jw, .int .i64 jf] 92))) := HU3.out.trans hu5 (fun _ _ f => f)
    have hsz5 : w.heap.size ≤ w4.heap.size := (HU3.out.trans hu4 (fun _ _ f => f)).size
    simp only at x2 x2'
    clear hu4 hu5 HFw
    by_cases hfe : jf = (x.m.lf p).fr
    · have de : (jf == (x.m.lf p).fr) = true := by simp [hfe]
      have HFE : Hid _ := hfe
      clear hfe
      go_wp2_with fail
      go_ret2
      rw [HSC.out, if_pos HFE.out]
      exact ⟨by rw [errV_zero]; first | done | rfl, HMM.out.same HU5.out, MRead.no _ HU5.out⟩
    · have de : (jf == (x.m.lf p).fr) = false := by simp [hfe]
      have HSE : Hid _ := hseal_any (HMM.out.same HU5.out) HI.out jf
      have HNE : Hid (∀ i z, h.g i = some z → True) := fun _ _ _ => trivial
      go_wp2_with fail
      refine Calls.mono HSE.out ?_
      rintro e w6 ⟨rfl, hm6, hu6⟩
      have HM6 : Hid _ := hm6
      have HU6 : Hid (Upd (Own bh bp bf G h) w w6) := (MRead.no _ HU5.out).trans hu6 (fun _ _ f => f)
      have no5 : ¬ Own bh bp bf G h w4.heap.size := fun e => by have := HMM.out.ownLt e; omega
      have c6 := (HX5.out.upd hu6 no5).c2
      have cg := hm6.cSome hk (sealTo_at h jf 64 HX.out)
      have HC : Hid _ := hm6.drew.go (HI.out.sealTo jf 64) (sealTo_at h jf 64 HX.out) (fun g => g.join (p : Int) jf)
      rw [show (hSealTo h jf 64).s = h.s from rfl] at HC
      have HHA : Hid (hAt (hSealTo h jf 64) k = { x with m := sealOf x.m (16 * k) jf 64 }) := (hWho_some (sealTo_at h jf 64 HX.out) hk).2
      simp only at c6
      clear hm6 hu6 HSE
      have hj0 := HJN.out hfe
      rw [HHA.out] at hj0 HSC
      have HJ0 : Hid _ := hj0
      rw [hj0] at HC
      unfold MPost at HC
      simp only [errV_zero] at HC
      have NO4 : Hid _ := no5
      generalize w4.heap.size = q4 at *
      clear hj0 no5
      go_wp2_with fail
      go_region_held3 (fun w' => w'.cell? ⟨bh, 1 + k, none⟩ = some (.pointer (some ⟨(G k).g, 0, none⟩)) ∧ w'.cell? ⟨q4, 2, none⟩ = some (.int .i64 jf)) (first | exact ⟨cg, c6⟩ | exact h7c)
        (first | (go_at_call 85; refine Calls.mono HC.out ?_; rintro e w7 ⟨rfl, hm7, hu7⟩; have HM7 : Hid _ := hm7; have HU7 : Hid (Upd (Own bh bp bf G h) w w7) := (HU6.out.drew).trans hu7 (fun i _ e => own_seal e); have h7c : w7.cell? ⟨bh, 1 + k, none⟩ = some (.pointer (some ⟨(G k).g, 0, none⟩)) ∧ w7.cell? ⟨q4, 2, none⟩ = some (.int .i64 jf) := ⟨hm7.cSome hk (put_at _ _ _), hu7.cell (by exact c6) (fun e => NO4.out (own_seal e))⟩; clear hm7 hu7))
      clear h7c cg c6 HC
      go_wp2_with fail
      go_ret2
      rw [HSC.out, if_neg hfe]
      exact ⟨by simp only; rw [HJ0.out, errV_zero]; first | done | rfl, HM7.out, HU7.out⟩
end Go.Proofs.YtadpibcgjgcjhabGreatDoor
/- Package host: Scan, ScanAll, Frame. -/
namespace Go.Proofs.YtadpibcgjgcjhabGreatDoor
open Go.ChangeShapes Go.WideShapes Go.ChangeAt Go.RowKit
set_option maxRecDepth 100000
attribute [local go_sem ↓] Go.wp_at_zero Go.wp_at_succ
variable {w w' : World} {bh bp bf : Nat} {G G' : Nat → G3} {h h' : Hs} {x : Gs} {s' : Pl} {x' : Gs} {b : Mp} {W : Int} {t : Nat → Nat → Int} {F : Nat → Option Fl}

theorem hScan_m (m : HM w bh bp bf G h) (hf : HF h t F W) (n p : Int) : Calls Tryz.prog 59 #[.pointer (some ⟨bh, 0, none⟩), .int .i64 n, .int .i64 p] w (MScan w bh bp bf G h (hScan h n p)) := by
  by_cases h0 : 0 < hWho h n
  · rw [hScan_wrong p h0]
    exact hScan_bad m hf.hr.inv n p _ (by omega) (by unfold hLeaf; rw [if_pos h0])
  · obtain ⟨k, x, rfl, hk, hx, hat⟩ := hWho_zero (show hWho h n = 0 by have := hWho_le (h := h) n; omega)
    cases hp : onB p with
    | false =>
      rw [hScan_off hx hk hp]
      refine hScan_bad m hf.hr.inv _ p _ (by omega) ?_
      unfold hLeaf lfR
      rw [if_neg h0, hat, hp]; rfl
    | true =>
      obtain ⟨p0, p1⟩ := (onB_iff p).1 hp
      obtain ⟨q, rfl⟩ := Int.eq_ofNat_of_zero_le p0
      have hq : q < 16 := by omega
      cases ht : (x.m.lf q).there with
      | false =>
        rw [hScan_gone hx hk hq ht]
        exact hScan_out m hf.hr.inv hk hq hx ht
      | true => exact hScan_in m hf hk hq hx ht
theorem own_of {k : Nat} (hn : ∀ i, h'.g i = none ↔ h.g i = none) (hk : Own bh bp bf G h' k) : Own bh bp bf G h k := by
  rcases hk with e | e | e | ⟨i, y, hy, e⟩
  · exact Or.inl e
  · exact Or.inr (Or.inl e)
  · exact Or.inr (Or.inr (Or.inl e))
  · cases hx : h.g i with
    | none => have := (hn i).2 hx; rw [hy] at this; cases this
    | some x => exact Or.inr (Or.inr (Or.inr ⟨i, x, hx, e⟩))
set_option maxHeartbeats 1000000 in
theorem hScanAll_m (m : HM w bh bp bf G h) (hf : HF h t F W) : Calls Tryz.prog 56 #[.pointer (some ⟨bh, 0, none⟩)] w fun e w' => e = .returned (.int .i64 (hScanTo h 64).1) ∧ HM w' bh bp bf G (hScanTo h 64).2 ∧ Upd (Own bh bp bf G h) w w' := by
  have HMM : Hid (HM w bh bp bf G h) := m
  have HHF : Hid (HF h t F W) := hf
  clear m hf
  go_enter Tryz.func56, Tryz.ntmps56
  go_wp2_with fail
  go_loopg [3, 7] 64 (fun g c i wr => ∃ k : Nat, k + g = 64 ∧ i = .int .i64 k ∧ c = .int .i64 (hScanTo h k).1 ∧ Hid (HM wr bh bp bf G (hScanTo h k).2) ∧ Hid (Upd (Own bh bp bf G h) w wr))
  case atStart => exact ⟨0, by omega, rfl, rfl, HMM.out, Upd.refl _ _⟩
  case round =>
    obtain ⟨k, hk, rfl, rfl, HMk, HU⟩ := hrel
    have HK : Hid _ := hk
    clear hk
    by_cases hlt : k < 64
    · have HA : Hid _ := fun wr => at_any wr k hlt
      obtain ⟨hs1, _, _, hs4, _, hs6, hs7, _⟩ := HHF.out.scans k (by omega)
      have HS1 : Hid _ := hs1
      have HS4 : Hid _ := hs4
      have HST : Hid (hScanTo h (k + 1) = ((hScanTo h k).1 + (if (hScan (hScanTo h k).2 ((k / 16 : Nat) : Int) ((k % 16 : Nat) : Int)).1.1 = true then 1 else 0), (hScan (hScanTo h k).2 ((k / 16 : Nat) : Int) ((k % 16 : Nat) : Int)).2)) := rfl
      clear hs1 hs4
      go_wp2_with fail
      refine Calls.mono (HA.out _) ?_
      rintro e w1 ⟨rfl, hu1⟩
      have hs := hScan_m (HMk.out.same hu1) HS1.out ((k / 16 : Nat) : Int) ((k % 16 : Nat) : Int)
      have HU1 : Hid (Upd (Own bh bp bf G h) w w1) := HU.out.trans (MRead.no _ hu1) (fun _ _ f => f)
      unfold MScan at hs
      revert hs HST
      generalize hScan (hScanTo h k).2 ((k / 16 : Nat) : Int) ((k % 16 : Nat) : Int) = r
      obtain ⟨⟨r1, r2⟩, r3⟩ := r
      simp only
      generalize errV r2 = ev
      intro HST hs
      have HS : Hid _ := hs
      clear hs hu1 HA HMk HU
      generalize (hScanTo h k).1 = cnt at *
      go_wp2_with fail
      refine Calls.mono HS.out ?_
      rintro e w2 ⟨rfl, hm2, hu2⟩
      have HM2 : Hid (HM w2 bh bp bf G r3) := hm2
      have HU2 : Hid (Upd (Own bh bp bf G h) w w2) := HU1.out.trans hu2 (fun i _ e => own_of HS4.out e)
      clear hm2 hu2 HS
      cases r1 with
      | true =>
        go_wp2_with fail
        go_roundg (64 - (k + 1))
        case rel => exact ⟨k + 1, by omega, by go_num, by rw [HST.out]; go_num, by rw [HST.out]; exact HM2.out, HU2.out⟩
        case measure => have := HK.out; omega
      | false =>
        go_wp2_with fail
        go_roundg (64 - (k + 1))
        case rel => exact ⟨k + 1, by omega, by go_num, by rw [HST.out]; simp, by rw [HST.out]; exact HM2.out, HU2.out⟩
        case measure => have := HK.out; omega
    · obtain rfl : k = 64 := by have := HK.out; omega
      go_wp2_with fail
      go_ret
      exact ⟨rfl, HMk.out, HU.out⟩
end Go.Proofs.YtadpibcgjgcjhabGreatDoor
