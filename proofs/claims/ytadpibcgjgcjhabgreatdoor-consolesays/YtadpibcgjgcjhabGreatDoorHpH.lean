/- Package host: New, Add. -/
import Derived.Test.YtadpibcgjgcjhabGreatDoorHpG
namespace Go.Proofs.YtadpibcgjgcjhabGreatDoor
open Go.ChangeShapes Go.WideShapes Go.ChangeAt Go.RowKit
set_option maxRecDepth 100000
attribute [local go_sem ↓] Go.wp_at_zero Go.wp_at_succ
variable {w w' : World} {bh bp bf : Nat} {G G' : Nat → G3} {h h' : Hs} {x : Gs} {s' : Pl} {x' : Gs} {b : Mp} {W : Int}

theorem hNew_no (w : World) (n : Int) (hn : n < 1 ∨ 64 < n) : Calls Tryz.prog 10 #[.int .i64 n] w (MRead w (.tuple #[.pointer none, .iface 37 (.int .i64 1)])) := by
  have HN : Hid _ := new_no w n hn
  clear hn
  go_enter Tryz.func10, Tryz.ntmps10
  go_wp2_with fail
  refine Calls.mono HN.out ?_
  rintro e w1 ⟨rfl, hw1⟩
  subst hw1
  go_wp2_with fail
  go_ret2
  exact ⟨rfl, Upd.refl _ _⟩
theorem HM.start {n : Nat} (hn : 1 ≤ n) (hp : PoolAt w bp bf (pl0 n)) : HM (w.alloc (.cells #[.pointer (some ⟨bp, 0, none⟩), .pointer none, .pointer none, .pointer none, .pointer none] 83)) w.heap.size bp bf G (hs0 n) := by
  have u := (Upd.refl (fun _ => False) w).alloc (.cells #[.pointer (some ⟨bp, 0, none⟩), .pointer none, .pointer none, .pointer none, .pointer none] 83)
  have hlt := hp.lt hn
  have hlp := hp.ltp
  have e : ∀ i y, (hs0 n).g i = some y → False := fun i y hy => by cases hy
  refine ⟨by rw [World.cell?_alloc_new]; rfl, fun i hi => ?_, fun o => World.frozen?_alloc_new _ _ _ _, hp.upd u (fun f => f) (fun f => f) hlt, fun i y hy => (e i y hy).elim, fun i y hy => (e i y hy).elim, ⟨by omega, by omega⟩, fun i y hy => (e i y hy).elim, fun i j y z hy => (e i y hy).elim, hn⟩
  rw [World.cell?_alloc_new]
  have : i = 0 ∨ i = 1 ∨ i = 2 ∨ i = 3 := by omega
  rcases this with rfl | rfl | rfl | rfl <;> rfl
theorem hNew_yes (w : World) (n : Nat) (h1 : 1 ≤ n) (h2 : n ≤ 64) : Calls Tryz.prog 10 #[.int .i64 (n : Int)] w fun e w' => ∃ bh bp bf, e = .returned (.tuple #[.pointer (some ⟨bh, 0, none⟩), .nilIface]) ∧ (∀ G, HM w' bh bp bf G (hs0 n)) ∧ w.heap.size ≤ bh ∧ w.heap.size ≤ bp ∧ w.heap.size ≤ bf ∧ Upd (fun _ => False) w w' := by
  have HN : Hid _ := new_any w n h1 h2
  go_enter Tryz.func10, Tryz.ntmps10
  go_wp2_with fail
  refine Calls.mono HN.out ?_
  rintro e w1 ⟨rfl, hp, hu, hz⟩
  have HP : Hid _ := hp
  have HU : Hid _ := hu
  have HZ : Hid _ := hz
  clear hp hu hz
  go_wp2_with fail
  go_ret2
  exact ⟨w1.heap.size, w.heap.size + 1, w.heap.size, rfl, fun G => HM.start h1 HP.out, HU.out.size, by omega, by omega, HU.out.alloc _⟩
/-- A guest is made. -/
theorem HM.made {k : Nat} {q : G3} (m : HM w bh bp bf G h) (hk : k < 4) (hx : h.g k = none) (u0 : Upd (fun _ => False) w w') (g : GM1 w' bp q gs0) (ap : GAp q.g bp bf q.l q.c) (hq : ∀ j, q.has j → w.heap.size ≤ j) :
    HM (w'.setCell ⟨bh, 1 + k, none⟩ (.pointer (some ⟨q.g, 0, none⟩))) bh bp bf (setAt G k q) ⟨h.s, setAt h.g k (some gs0)⟩ := by
  have m1 := m.same u0
  have u := Upd.one w' bh (1 + k) (.pointer (some ⟨q.g, 0, none⟩))
  have hlt := m.lt
  have hp := m.hp
  have hne : ∀ i y, setAt h.g k (some gs0) i = some y → (i = k ∧ y = gs0) ∨ (i ≠ k ∧ h.g i = some y) := fun i y hy => by
    by_cases e : i = k
    · subst e; rw [setAt_same] at hy; cases hy; exact Or.inl ⟨rfl, rfl⟩
    · rw [setAt_other _ _ _ _ e] at hy; exact Or.inr ⟨e, hy⟩
  have hc := m1.cg k hk
  refine ⟨?_, fun i hi => ?_, fun o => by rw [World.frozen?_setCell]; exact m1.fz o, m1.pool.upd u (fun e => hp.1 e.symm) (fun e => hp.2 e.symm) m1.lt.2.2, fun i y hy => ?_, fun i y hy => ?_, hp, fun i y hy => ?_, fun i j y z hy hz e => ?_, m.hn⟩
  · rw [World.cell?_setCell_other _ _ _ _ (addr_ne (Or.inr (by omega)))]; exact m1.c0
  · by_cases e : i = k
    · subst e
      rw [World.cell?_setCell_same _ _ _ hc]
      show _ = some (gPtr (setAt h.g i (some gs0) i) (setAt G i q i).g)
      rw [setAt_same, setAt_same]; rfl
    · rw [World.cell?_setCell_other _ _ _ _ (addr_ne (Or.inr (by omega))), m1.cg i hi]
      show _ = some (gPtr (setAt h.g k (some gs0) i) (setAt G k q i).g)
      rw [setAt_other _ _ _ _ e, setAt_other _ _ _ _ e]
  · rcases hne i y hy with ⟨rfl, rfl⟩ | ⟨e, hy'⟩
    · rw [setAt_same]
      exact g.upd u (fun j hj e => by have := hq j hj; omega)
    · rw [setAt_other _ _ _ _ e]
      exact (m1.gu i y hy').upd u (fun j hj e => m.ne i y hy' (by rw [← e]; exact hj))
  · rcases hne i y hy with ⟨rfl, rfl⟩ | ⟨e, hy'⟩
    · rw [setAt_same]; exact ap
    · rw [setAt_other _ _ _ _ e]; exact m.ap i y hy'
  · rcases hne i y hy with ⟨rfl, rfl⟩ | ⟨e, hy'⟩
    · rw [setAt_same]
      intro hj
      have := hq _ hj
      omega
    · rw [setAt_other _ _ _ _ e]; exact m.ne i y hy'
  · rcases hne i y hy with ⟨rfl, rfl⟩ | ⟨e1, hy'⟩
    · rcases hne j z hz with ⟨rfl, rfl⟩ | ⟨e2, hz'⟩
      · exact absurd rfl e
      · rw [setAt_same, setAt_other _ _ _ _ e2]
        intro a ha hb
        have := hq a ha
        have := m.gLt hz' hb
        omega
    · rcases hne j z hz with ⟨rfl, rfl⟩ | ⟨e2, hz'⟩
      · rw [setAt_same, setAt_other _ _ _ _ e1]
        intro a ha hb
        have := hq a hb
        have := m.gLt hy' ha
        omega
      · rw [setAt_other _ _ _ _ e1, setAt_other _ _ _ _ e2]
        exact m.nx i j y z hy' hz' e
/-- How Add ends. -/
def MAdd (w : World) (bh bp bf : Nat) (G : Nat → G3) (h : Hs) (r : (Int × Int) × Hs) (e : Ending) (w' : World) : Prop :=
  e = .returned (.tuple #[.int .i64 r.1.1, errV r.1.2]) ∧ (∃ G', HM w' bh bp bf G' r.2 ∧ ∀ k, Own bh bp bf G' r.2 k → Own bh bp bf G h k ∨ w.heap.size ≤ k) ∧ Upd (Own bh bp bf G h) w w'
set_option maxHeartbeats 1000000 in
theorem hAdd_m (m : HM w bh bp bf G h) : Calls Tryz.prog 53 #[.pointer (some ⟨bh, 0, none⟩)] w (MAdd w bh bp bf G h (hAdd h)) := by
  have HMM : Hid (HM w bh bp bf G h) := m
  have c0 := m.c0
  clear m
  go_enter Tryz.func53, Tryz.ntmps53
  go_wp2_with fail
  go_loopg [7] 4 (fun g i wr => ∃ k : Nat, k + g = 4 ∧ i = .int .i64 k ∧ wr = w ∧ Hid (∀ i, i < k → h.g i ≠ none))
  case atStart => exact ⟨0, by omega, rfl, rfl, fun i hi => absurd hi (by omega)⟩
  case round =>
    obtain ⟨k, hk, rfl, rfl, HS⟩ := hrel
    have HK : Hid _ := hk
    clear hk
    by_cases hlt : k < 4
    · have k0 : (0 : Int) ≤ (k : Int) := by omega
      have k1 : (k : Int) < 4 := by omega
      cases hx : h.g k with
      | none =>
        have c := HMM.out.cNone hlt hx
        have HX : Hid _ := hx
        have HF : Hid _ := hFree_at hlt HS.out hx
        have HE : Hid (hAdd h = (((k : Int), 0), ⟨h.s, setAt h.g k (some gs0)⟩)) := by show hAdd h = _; unfold hAdd; rw [HF.out]
        have HN : Hid _ := gNew wr bp
        clear hx
        go_wp2_with fail
        refine Calls.mono HN.out ?_
        rintro e w1 ⟨bg, bl, bc, rfl, hce, hlv, hca, q1, q2, q3, n1, n2, n3, hu⟩
        have d := hu.cell c (fun f => f)
        have z : w1.frozen? ⟨bh, 1 + k, none⟩ = false := (HMM.out.same hu).fz (1 + k)
        have hl := HMM.out.lt
        have HM1 : Hid _ := HMM.out.made hlt HX.out hu (q := ⟨bg, bl, bc⟩) ⟨hce, hlv, hca⟩ (by unfold GAp; have := HMM.out.pool.ne; simp only; omega) (fun j hj => by rcases hj with e | e | e <;> simp only at e <;> omega)
        have HU : Hid (Upd (Own bh bp bf G h) wr (w1.setCell ⟨bh, 1 + k, none⟩ (.pointer (some ⟨bg, 0, none⟩)))) := (MRead.no _ hu).trans (Upd.one w1 bh (1 + k) (.pointer (some ⟨bg, 0, none⟩))) (fun i _ e => Or.inl e)
        have HO : Hid (∀ j, Own bh bp bf (setAt G k ⟨bg, bl, bc⟩) ⟨h.s, setAt h.g k (some gs0)⟩ j → Own bh bp bf G h j ∨ wr.heap.size ≤ j) := fun j hj => by
          rcases hj with e | e | e | ⟨i, y, hy, e⟩
          · exact Or.inl (Or.inl e)
          · exact Or.inl (Or.inr (Or.inl e))
          · exact Or.inl (Or.inr (Or.inr (Or.inl e)))
          · by_cases ei : i = k
            · subst ei
              rw [setAt_same] at e
              right
              rcases e with e | e | e <;> simp only at e <;> omega
            · rw [setAt_other _ _ _ _ ei] at e
              have hy' : h.g i = some y := by rw [← hy]; exact (setAt_other _ _ _ _ ei).symm
              exact Or.inl (Or.inr (Or.inr (Or.inr ⟨i, y, hy', e⟩)))
        clear hce hlv hca hu
        go_wp2_with fail
        go_ret2
        rw [HE.out]
        exact ⟨by rw [errV_zero]; first | done | rfl, ⟨_, HM1.out, HO.out⟩, HU.out⟩
      | some x =>
        have c := HMM.out.cSome hlt hx
        have HX : Hid _ := hx
        clear hx
        go_wp2_with fail
        go_roundg (4 - (k + 1))
        case rel =>
          refine ⟨k + 1, by omega, by go_num, rfl, fun i hi => ?_⟩
          by_cases e : i = k
          · subst e; rw [HX.out]; simp
          · exact HS.out i (by omega)
        case measure => have := HK.out; omega
    · obtain rfl : k = 4 := by have := HK.out; omega
      have HF : Hid _ := hFree_no HS.out
      have HE : Hid (hAdd h = ((0, 4), h)) := by show hAdd h = _; unfold hAdd; rw [HF.out]
      go_wp2_with fail
      go_ret2
      rw [HE.out]
      exact ⟨by rw [errV4]; first | done | rfl, ⟨G, HMM.out, fun k hk => Or.inl hk⟩, Upd.refl _ _⟩
end Go.Proofs.YtadpibcgjgcjhabGreatDoor
