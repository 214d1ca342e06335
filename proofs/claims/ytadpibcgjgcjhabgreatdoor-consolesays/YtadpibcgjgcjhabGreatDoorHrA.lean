/- The document's host in memory; whom a number names. -/
import Derived.Test.YtadpibcgjgcjhabGreatDoorHoO
import Derived.Test.YtadpibcgjgcjhabGreatDoorGuS
namespace Go.Proofs.YtadpibcgjgcjhabGreatDoor
open Go.ChangeShapes Go.WideShapes Go.ChangeAt Go.RowKit
set_option maxRecDepth 100000
attribute [local go_sem ↓] Go.wp_at_zero Go.wp_at_succ

/-- The document's host: its block bh, its pool bm, its guests' blocks bx, the lists that they keep v. -/
structure RHo (w : World) (bh bm base : Nat) (bx : Nat → Nat) (v : Nat → Value) (h : Hs) : Prop where
  c0 : w.cell? ⟨bh, 0, none⟩ = some (.pointer (some ⟨bm, 0, none⟩))
  cg : ∀ i, i < 4 → w.cell? ⟨bh, 1 + i, none⟩ = some (gPtr (h.g i) (bx i))
  fz : ∀ o, w.frozen? ⟨bh, o, none⟩ = false
  ref : RefAt w bm h.s
  gu : ∀ i x, h.g i = some x → RGu w (bx i) bm base (v i) x
  hm : bh ≠ bm
  ne : ∀ i x, h.g i = some x → bx i ≠ bh ∧ bx i ≠ bm
  nx : ∀ i j x y, h.g i = some x → h.g j = some y → i ≠ j → bx i ≠ bx j
  nv : ∀ i x k, h.g i = some x → (v i).ownBlock = some k → k ≠ bh ∧ k ≠ bm ∧ ∀ j y, h.g j = some y → k ≠ bx j
  base : base ≤ w.heap.size
  lx : ∀ j, 4 ≤ j → bx j < w.heap.size
  nl : ∀ i x k j, h.g i = some x → (v i).ownBlock = some k → 4 ≤ j → k ≠ bx j
variable {w w' : World} {bh bm base : Nat} {bx : Nat → Nat} {v : Nat → Value} {h : Hs} {n : Nat} {x : Gs} {s' : Pl} {x' : Gs}
theorem RHo.lt (r : RHo w bh bm base bx v h) : bh < w.heap.size ∧ bm < w.heap.size := ⟨World.block_lt_of_cell? w _ r.c0, World.block_lt_of_cell? w _ r.ref.num⟩
theorem RHo.same (r : RHo w bh bm base bx v h) (u : Upd (fun _ => False) w w') : RHo w' bh bm base bx v h :=
  ⟨u.cell r.c0 (fun f => f), fun i hi => u.cell (r.cg i hi) (fun f => f), fun o => by rw [World.frozen?_of_block (w := w) (u.block bh r.lt.1 (fun f => f))]; exact r.fz o, r.ref.upd u (fun f => f), fun i x hx => (r.gu i x hx).upd u (fun f => f) (fun _ _ f => f), r.hm, r.ne, r.nx, r.nv, Nat.le_trans r.base u.size, fun j hj => Nat.lt_of_lt_of_le (r.lx j hj) u.size, r.nl⟩
theorem RHo.drew (r : RHo w bh bm base bx v h) : RHo w.drew bh bm base bx v h := r.same (Upd.refl _ _).drew
/-- One guest's act. -/
theorem RHo.act {v' : Value} (r : RHo w bh bm base bx v h) (hx : h.g n = some x) (hr : RefAt w' bm s') (hg : RGu w' (bx n) bm base v' x') (hf : Fr w (v n) v') (u : Upd (fun k => k = bm ∨ k = bx n) w w') : RHo w' bh bm base bx (setAt v n v') (h.put n (s', x')) := by
  have hn := r.ne n x hx
  have hne : ∀ i y, (h.put n (s', x')).g i = some y → i ≠ n → h.g i = some y := fun i y hy e => by rw [← hy]; exact (setAt_other _ _ _ _ e).symm
  have hany : ∀ i y, (h.put n (s', x')).g i = some y → ∃ z, h.g i = some z := fun i y hy => by
    by_cases e : i = n
    · subst e; exact ⟨x, hx⟩
    · exact ⟨y, hne i y hy e⟩
  have hlt : ∀ i z, h.g i = some z → bx i < w.heap.size := fun i z hz => (r.gu i z hz).mp.lt
  refine ⟨u.cell r.c0 (by have := r.hm; simp only; omega), fun i hi => ?_, fun o => ?_, hr, fun i y hy => ?_, r.hm, fun i y hy => ?_, fun i j y z hy hz e => ?_, fun i y k hy hk => ?_, Nat.le_trans r.base u.size, fun j hj => Nat.lt_of_lt_of_le (r.lx j hj) u.size, fun i y k j hy hk hj => ?_⟩
  · have hc := u.cell (r.cg i hi) (by have := r.hm; simp only; omega)
    rw [hc]
    by_cases e : i = n
    · subst e
      rw [put_at, hx]; rfl
    · rw [show (h.put n (s', x')).g i = h.g i from setAt_other _ _ _ _ e]
  · rw [World.frozen?_of_block (w := w) (u.block bh r.lt.1 (by have := r.hm; omega))]; exact r.fz o
  · by_cases e : i = n
    · subst e
      rw [put_at] at hy
      cases hy
      rw [setAt_same]
      exact hg
    · have hy' := hne i y hy e
      rw [setAt_other _ _ _ _ e]
      have h1 := r.ne i y hy'
      have h2 := r.nx i n y x hy' hx e
      exact (r.gu i y hy').upd u (by omega) (fun k hk hs => by
        have h3 := r.nv i y k hy' hk
        have h4 := h3.2.2 n x hx
        omega)
  · obtain ⟨z, hz⟩ := hany i y hy
    exact r.ne i z hz
  · obtain ⟨y', hy'⟩ := hany i y hy
    obtain ⟨z', hz'⟩ := hany j z hz
    exact r.nx i j y' z' hy' hz' e
  · obtain ⟨y', hy'⟩ := hany i y hy
    by_cases e : i = n
    · subst e
      rw [setAt_same] at hk
      rcases hf k hk with h3 | h3
      · have h4 := r.nv i y' k hy' h3
        refine ⟨h4.1, h4.2.1, fun j z hz => ?_⟩
        obtain ⟨z', hz'⟩ := hany j z hz
        exact h4.2.2 j z' hz'
      · have := r.lt
        refine ⟨by omega, by omega, fun j z hz => ?_⟩
        obtain ⟨z', hz'⟩ := hany j z hz
        have := hlt j z' hz'
        omega
    · rw [setAt_other _ _ _ _ e] at hk
      have h4 := r.nv i y' k hy' hk
      refine ⟨h4.1, h4.2.1, fun j z hz => ?_⟩
      obtain ⟨z', hz'⟩ := hany j z hz
      exact h4.2.2 j z' hz'
  · obtain ⟨y', hy'⟩ := hany i y hy
    by_cases e : i = n
    · subst e
      rw [setAt_same] at hk
      rcases hf k hk with h3 | h3
      · exact r.nl i y' k j hy' h3 hj
      · have := r.lx j hj; omega
    · rw [setAt_other _ _ _ _ e] at hk
      exact r.nl i y' k j hy' hk hj
/-- Where an act of a guest begins. -/
theorem RHo.pre {W : Int} (r : RHo w bh bm base bx v h) (hi : HInv h W) (hW : W ≤ 1000000) (hx : h.g n = some x) : RPre w (bx n) bm base (v n) h.s x (oth h n) :=
  ⟨r.gu n x hx, r.ref, (r.ne n x hx).2, (hi.ginv hx).more hW, r.base⟩
theorem RHo.cNone (r : RHo w bh bm base bx v h) {k : Nat} (hk : k < 4) (hx : h.g k = none) : w.cell? ⟨bh, 1 + k, none⟩ = some (.pointer none) := by
  have := r.cg k hk
  rw [hx] at this
  exact this
theorem RHo.cSome (r : RHo w bh bm base bx v h) {k : Nat} (hk : k < 4) {x : Gs} (hx : h.g k = some x) : w.cell? ⟨bh, 1 + k, none⟩ = some (.pointer (some ⟨bx k, 0, none⟩)) := by
  have := r.cg k hk
  rw [hx] at this
  exact this
/-- What Who answers. -/
def whoV (h : Hs) (bx : Nat → Nat) (n : Int) : Value := if 0 < hWho h n then .pointer none else .pointer (some ⟨bx n.toNat, 0, none⟩)
theorem rWho_any (r : RHo w bh bm base bx v h) (n : Int) : Calls Tryz.prog 31 #[.pointer (some ⟨bh, 0, none⟩), .int .i64 n] w fun e w' => e = .returned (.tuple #[whoV h bx n, .int .i64 (hWho h n)]) ∧ ∃ m, w' = w.drewN m := by
  by_cases ho : n < 0 ∨ 3 < n
  · have hw : hWho h n = 1 := by unfold hWho; rw [if_pos ho]
    have hv : whoV h bx n = .pointer none := by unfold whoV; rw [hw, if_pos (by omega)]
    rw [hw, hv]
    clear hw hv r
    rcases ho with h0 | h0
    · have d0 : decide (n < 0) = true := by simp; omega
      go_enter Tryz.func31, Tryz.ntmps31
      go_wp2_with fail
      go_ret2
      exact ⟨rfl, 0, rfl⟩
    · have d0 : decide (n < 0) = false := by simp; omega
      have d1 : decide (3 < n) = true := by simp; omega
      go_enter Tryz.func31, Tryz.ntmps31
      go_wp2_with fail
      go_ret2
      exact ⟨rfl, 0, rfl⟩
  · obtain ⟨k, rfl⟩ := Int.eq_ofNat_of_zero_le (show 0 ≤ n by omega)
    have hk : k < 4 := by omega
    have d0 : decide ((k : Int) < 0) = false := by simp
    have d1 : decide ((3 : Int) < (k : Int)) = false := by simp; omega
    have k0 : (0 : Int) ≤ (k : Int) := by omega
    have k1 : (k : Int) < 4 := by omega
    cases hx : h.g k with
    | none =>
      have hw : hWho h k = 2 := by unfold hWho; rw [if_neg ho, Int.toNat_natCast, hx]
      have hv : whoV h bx k = .pointer none := by unfold whoV; rw [hw, if_pos (by omega)]
      have c := r.cNone hk hx
      rw [hw, hv]
      clear hw hv r hx ho
      go_enter Tryz.func31, Tryz.ntmps31
      go_wp2_with fail
      go_ret2
      exact ⟨rfl, 0, rfl⟩
    | some x =>
      have hw : hWho h k = 0 := (hWho_some hx hk).1
      have hv : whoV h bx k = .pointer (some ⟨bx k, 0, none⟩) := by unfold whoV; rw [hw, if_neg (by omega), Int.toNat_natCast]
      have c := r.cSome hk hx
      rw [hw, hv]
      clear hw hv r hx ho
      go_enter Tryz.func31, Tryz.ntmps31
      go_wp2_with fail
      go_ret2
      exact ⟨rfl, 0, rfl⟩
theorem whoV_yes (hx : h.g n = some x) (hn : n < 4) : whoV h bx n = .pointer (some ⟨bx n, 0, none⟩) := by unfold whoV; rw [(hWho_some hx hn).1, if_neg (by omega), Int.toNat_natCast]
end Go.Proofs.YtadpibcgjgcjhabGreatDoor
