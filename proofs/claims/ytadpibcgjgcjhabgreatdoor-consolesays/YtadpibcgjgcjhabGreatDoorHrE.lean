/- The document's host: Add. -/
import Derived.Test.YtadpibcgjgcjhabGreatDoorHrZ
namespace Go.Proofs.YtadpibcgjgcjhabGreatDoor
open Go.ChangeShapes Go.WideShapes Go.ChangeAt Go.RowKit
set_option maxRecDepth 100000
attribute [local go_sem ↓] Go.wp_at_zero Go.wp_at_succ
variable {w w' : World} {bh bm base : Nat} {bx : Nat → Nat} {v : Nat → Value} {h : Hs} {x : Gs} {s' : Pl} {x' : Gs} {W : Int}

/-- A guest is made. -/
theorem RHo.made {k : Nat} (r : RHo w bh bm base bx v h) (hk : k < 4) (hx : h.g k = none) :
    RHo ((w.alloc (.cells (rgZero (.pointer (some ⟨bm, 0, none⟩)) (-1)) 99)).setCell ⟨bh, 1 + k, none⟩ (.pointer (some ⟨w.heap.size, 0, none⟩))) bh bm base (setAt bx k w.heap.size) (setAt v k (.slice none 0 0)) ⟨h.s, setAt h.g k (some gs0)⟩ := by
  have u1 := (Upd.refl (fun _ => False) w).alloc (.cells (rgZero (.pointer (some ⟨bm, 0, none⟩)) (-1)) 99)
  have r1 := r.same u1
  have u2 := Upd.one (w.alloc (.cells (rgZero (.pointer (some ⟨bm, 0, none⟩)) (-1)) 99)) bh (1 + k) (.pointer (some ⟨w.heap.size, 0, none⟩))
  have hlt := r.lt
  have hne : ∀ i y, setAt h.g k (some gs0) i = some y → (i = k ∧ y = gs0) ∨ (i ≠ k ∧ h.g i = some y) := fun i y hy => by
    by_cases e : i = k
    · subst e; rw [setAt_same] at hy; cases hy; exact Or.inl ⟨rfl, rfl⟩
    · rw [setAt_other _ _ _ _ e] at hy; exact Or.inr ⟨e, hy⟩
  have hb : ∀ i y, h.g i = some y → bx i < w.heap.size := fun i y hy => (r.gu i y hy).mp.lt
  refine ⟨?_, fun i hi => ?_, fun o => by rw [World.frozen?_setCell]; exact r1.fz o, r1.ref.upd u2 (fun e => r.hm e.symm), fun i y hy => ?_, r.hm, fun i y hy => ?_, fun i j y z hy hz e => ?_, fun i y q hy hq => ?_, Nat.le_trans r1.base u2.size, fun j hj => ?_, fun i y q j hy hq hj => ?_⟩
  · rw [World.cell?_setCell_other _ _ _ _ (addr_ne (Or.inr (by omega)))]; exact r1.c0
  · by_cases e : i = k
    · subst e
      rw [World.cell?_setCell_same _ _ _ (r1.cg i hi)]
      simp only [setAt_same]
      rfl
    · rw [World.cell?_setCell_other _ _ _ _ (addr_ne (Or.inr (by omega))), r1.cg i hi]
      simp only [setAt_other _ _ _ _ e]
  · rcases hne i y hy with ⟨rfl, rfl⟩ | ⟨e, hy'⟩
    · rw [setAt_same, setAt_same]
      exact (RGu.new w bm base).upd u2 (by omega) (fun k hk => by simp [Value.ownBlock] at hk)
    · rw [setAt_other _ _ _ _ e, setAt_other _ _ _ _ e]
      exact (r1.gu i y hy').upd u2 (r.ne i y hy').1 (fun k hk e => (r.nv i y k hy' hk).1 e)
  · rcases hne i y hy with ⟨rfl, rfl⟩ | ⟨e, hy'⟩
    · rw [setAt_same]; omega
    · rw [setAt_other _ _ _ _ e]; exact r.ne i y hy'
  · rcases hne i y hy with ⟨rfl, rfl⟩ | ⟨e1, hy'⟩
    · rcases hne j z hz with ⟨rfl, rfl⟩ | ⟨e2, hz'⟩
      · exact absurd rfl e
      · rw [setAt_same, setAt_other _ _ _ _ e2]
        have := hb j z hz'
        omega
    · rw [setAt_other _ _ _ _ e1]
      rcases hne j z hz with ⟨rfl, rfl⟩ | ⟨e2, hz'⟩
      · rw [setAt_same]
        have := hb i y hy'
        omega
      · rw [setAt_other _ _ _ _ e2]; exact r.nx i j y z hy' hz' e
  · rcases hne i y hy with ⟨rfl, rfl⟩ | ⟨e1, hy'⟩
    · rw [setAt_same] at hq; simp [Value.ownBlock] at hq
    · rw [setAt_other _ _ _ _ e1] at hq
      have h2 := r.nv i y q hy' hq
      have h3 := ((r.gu i y hy').sl.ownLt hq).2
      refine ⟨h2.1, h2.2.1, fun j z hz => ?_⟩
      rcases hne j z hz with ⟨rfl, rfl⟩ | ⟨e2, hz'⟩
      · rw [setAt_same]; omega
      · rw [setAt_other _ _ _ _ e2]; exact h2.2.2 j z hz'
  · rw [setAt_other _ _ _ _ (by omega)]
    exact Nat.lt_of_lt_of_le (r1.lx j hj) u2.size
  · rw [setAt_other bx _ _ _ (by omega)]
    rcases hne i y hy with ⟨rfl, rfl⟩ | ⟨e1, hy'⟩
    · rw [setAt_same] at hq; simp [Value.ownBlock] at hq
    · rw [setAt_other _ _ _ _ e1] at hq
      exact r.nl i y q j hy' hq hj
/-- How the literal is built, with nothing to be laid open. -/
theorem made_hyps : ∃ (Z : Array Value) (A : Value → Array Value) (G0 : Array Value) (G1 G : Value → Array Value), (∀ w, (zeroValue 95).run Tryz.prog w = .ok (.agg Z) w) ∧ (¬ Z = #[]) ∧ (∀ v, Z.setIfInBounds 0 v = A v) ∧ (∀ v, (A v).size = 65) ∧
    (∀ w, (zeroValue 99).run Tryz.prog w = .ok (.agg G0) w) ∧ (G0.size = 68) ∧ (∀ v, Array.foldl (fun (cs : Array Value) (x : Value × Nat) => cs.setIfInBounds x.snd x.fst) G0 (A v).zipIdx 0 65 = G1 v) ∧ (∀ v, (G1 v).size = 68) ∧ (∀ v, (G1 v).setIfInBounds 66 (.int .i64 (-1)) = G v) ∧ (∀ v, ¬ G v = #[]) ∧ ∀ v, G v = rgZero v (-1) :=
  ⟨rmZero (.pointer none), rmZero, rgZero (.pointer none) 0, fun v => rgZero v 0, fun v => rgZero v (-1), zero72, rmZero_ne, rmZero_set, fun _ => rfl, zeroG, rfl, fun v => by kernel_rfl, fun _ => rfl, fun v => rgZero_root v (-1), fun v => by unfold rgZero; simp, fun _ => rfl⟩
set_option maxHeartbeats 1000000 in
theorem rAdd_any (r : RHo w bh bm base bx v h) : Calls Tryz.prog 17 #[.pointer (some ⟨bh, 0, none⟩)] w fun e w' => e = .returned (.tuple #[.int .i64 (hAdd h).1.1, .int .i64 (hAdd h).1.2]) ∧ (∃ bx' v', RHo w' bh bm base bx' v' (hAdd h).2 ∧ (∀ i y, h.g i = some y → bx' i = bx i) ∧ (∀ i, 4 ≤ i → bx' i = bx i) ∧ ∀ i y, h.g i = none → (hAdd h).2.g i = some y → w.heap.size ≤ bx' i) ∧ Upd (fun k => k = bh) w w' := by
  have HR : Hid (RHo w bh bm base bx v h) := r
  have c0 := r.c0
  obtain ⟨Z, A, G0, G1, G, y1, y2, y3, y4, x1, x3, x4, x6, x5, x7, hG⟩ := made_hyps
  have HGG : Hid _ := hG
  clear r hG
  go_enter Tryz.func17, Tryz.ntmps17
  go_wp2_with fail
  go_loopg [4] 4 (fun g i wr => ∃ k : Nat, k + g = 4 ∧ i = .int .i64 k ∧ wr = w ∧ Hid (∀ i, i < k → h.g i ≠ none))
  case atStart => exact ⟨0, by omega, rfl, rfl, fun i hi => absurd hi (by omega)⟩
  case round =>
    obtain ⟨k, hk, rfl, rfl, HS⟩ := hrel
    have HK : Hid _ := hk
    clear hk
    by_cases hlt : k < 4
    · have k0 : (0 : Int) ≤ (k : Int) := by omega
      have k1 : (k : Int) < 4 := by omega
      cases hx : h.g k with
      | none =>
        have c := HR.out.cNone hlt hx
        have z := HR.out.fz (1 + k)
        have HM : Hid _ := HR.out.made hlt hx
        have HF : Hid _ := hFree_at hlt HS.out hx
        have ua := (Upd.refl (fun _ => False) wr).alloc (.cells (G (.pointer (some ⟨bm, 0, none⟩))) 99)
        have d := ua.cell c (fun f => f)
        have zd := (ua.frozen (p := ⟨bh, 1 + k, none⟩) c (fun f => f)).trans z
        have HU : Hid _ := (((Upd.refl (fun j => j = bh) wr).alloc (.cells (G (.pointer (some ⟨bm, 0, none⟩))) 99)).trans (Upd.one (wr.alloc (.cells (G (.pointer (some ⟨bm, 0, none⟩))) 99)) bh (1 + k) (.pointer (some ⟨wr.heap.size, 0, none⟩))) (fun _ _ f => f)).drew
        have HE : Hid (hAdd h = (((k : Int), 0), ⟨h.s, setAt h.g k (some gs0)⟩)) := by show hAdd h = _; unfold hAdd; rw [HF.out]
        rw [← HGG.out] at HM
        have HN : Hid (∀ i y, h.g i = some y → setAt bx k wr.heap.size i = bx i) := fun i y hy => by
          rw [setAt_other]
          intro e
          rw [e, hx] at hy
          cases hy
        have HN4 : Hid (∀ i, 4 ≤ i → setAt bx k wr.heap.size i = bx i) := fun i hi => setAt_other _ _ _ _ (by omega)
        have HN5 : Hid (∀ i y, h.g i = none → setAt h.g k (some gs0) i = some y → wr.heap.size ≤ setAt bx k wr.heap.size i) := fun i y h0 h1 => by
          by_cases e : i = k
          · subst e; rw [setAt_same]; exact Nat.le_refl _
          · rw [setAt_other _ _ _ _ e, h0] at h1; cases h1
        clear hx ua
        go_wp2_with fail
        go_region
        go_wp2_with fail
        go_ret2
        rw [HE.out]
        exact ⟨rfl, ⟨_, _, HM.out.same (Upd.refl (fun _ => False) _).drew, HN.out, HN4.out, HN5.out⟩, HU.out⟩
      | some x =>
        have c := HR.out.cSome hlt hx
        have HX : Hid _ := hx
        clear hx
        go_wp2_with fail
        go_roundg (4 - (k + 1))
        case rel =>
          refine ⟨k + 1, by omega, by go_num, rfl, fun i hi => ?_⟩
          by_cases e : i = k
          · subst e; rw [HX.out]; simp
          · exact HS.out i (by omega)
        case measure => have := HK.out; omega
    · obtain rfl : k = 4 := by have := HK.out; omega
      have HF : Hid _ := hFree_no HS.out
      have HE : Hid (hAdd h = ((0, 4), h)) := by show hAdd h = _; unfold hAdd; rw [HF.out]
      go_wp2_with fail
      go_ret2
      rw [HE.out]
      exact ⟨rfl, ⟨bx, v, HR.out, fun _ _ _ => rfl, fun _ _ => rfl, fun i y h0 h1 => by rw [h0] at h1; cases h1⟩, Upd.refl _ _⟩
end Go.Proofs.YtadpibcgjgcjhabGreatDoor
