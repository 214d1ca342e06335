/- The document's Guest.say. -/
import Derived.Test.YtadpibcgjgcjhabGreatDoorCnK
namespace Go.Proofs.YtadpibcgjgcjhabGreatDoor
open Go.ChangeShapes Go.WideShapes Go.ChangeAt Go.RowKit
set_option maxRecDepth 100000
attribute [local go_sem ↓] Go.wp_at_zero Go.wp_at_succ
variable {W w w1 w2 w3 w' : World} {rh rm base : Nat} {bx bx2 : Nat → Nat} {v v2 : Nat → Value} {h h2 : Hs} {x : Gs} {n k j : Nat}

/-- How a line ends, in the document. -/
def DP (w : World) (rh rm base : Nat) (bx : Nat → Nat) (h : Hs) (r : List UInt8 × Hs) (e : Ending) (w' : World) : Prop :=
  e = .returned (.string (TX r.1)) ∧ (∃ bx' v', RHo w' rh rm base bx' v' r.2 ∧ ∀ j, RFt rh rm bx' r.2 j → RFt rh rm bx h j ∨ w.heap.size ≤ j) ∧ Upd (RFt rh rm bx h) w w'
/-- The host has acted. -/
structure DM (w w2 : World) (rh rm base : Nat) (bx : Nat → Nat) (h h2 : Hs) : Prop where
  ex : ∃ bx' v', RHo w2 rh rm base bx' v' h2 ∧ ∀ j, RFt rh rm bx' h2 j → RFt rh rm bx h j ∨ w.heap.size ≤ j
  up : Upd (RFt rh rm bx h) w w2
theorem DM.refl (r : RHo w rh rm base bx v h) : DM w w rh rm base bx h h := ⟨⟨bx, v, r, fun _ hj => Or.inl hj⟩, Upd.refl _ _⟩
theorem DM.more (d : DM w w2 rh rm base bx h h2) (u : Upd (fun _ => False) w2 w3) : DM w w3 rh rm base bx h h2 := by
  obtain ⟨bx', v', r, hj⟩ := d.ex
  exact ⟨⟨bx', v', r.same u, hj⟩, d.up.trans u (fun _ _ f => f.elim)⟩
theorem DM.fore (u : Upd (fun _ => False) w w1) (d : DM w1 w2 rh rm base bx h h2) : DM w w2 rh rm base bx h h2 := by
  obtain ⟨bx', v', r, hj⟩ := d.ex
  have := u.size
  exact ⟨⟨bx', v', r, fun j h => (hj j h).imp id (fun e => by omega)⟩, (MRead.no _ u).trans d.up (fun _ _ f => f)⟩
theorem DM.fin (d : DM w w2 rh rm base bx h h2) {t : List UInt8} : DP w rh rm base bx h (t, h2) (.returned (.string (TX t))) w2 := ⟨rfl, d.ex, d.up⟩
theorem ft_put {r : Pl × Gs} (hx : h.g j = some x) : ∀ i, RFt rh rm bx (h.put j r) i → RFt rh rm bx h i := fun i hi => by
  rcases hi with e | e | ⟨q, y, hy, e⟩
  · exact Or.inl e
  · exact Or.inr (Or.inl e)
  · by_cases hq : q = j
    · subst hq; exact Or.inr (Or.inr ⟨q, x, hx, e⟩)
    · exact Or.inr (Or.inr ⟨q, y, by rw [← hy]; exact (setAt_other _ _ _ _ hq).symm, e⟩)
theorem upd_put (hx : h.g j = some x) (u : Upd (fun k => k = rm ∨ k = bx j) w w') : Upd (RFt rh rm bx h) w w' := u.wide (fun i e => by
  rcases e with e | e
  · exact Or.inr (Or.inl e)
  · exact Or.inr (Or.inr ⟨j, x, hx, e⟩))
theorem dm_go {f : Nat} {av : Array Value} {res : Int × Pl × Gs} (r : RHo w rh rm base bx v h) (hi : HInv h (k : Int)) (hk : k ≤ 1000) (hx : h.g j = some x) (hc : ∀ v, RPre w (bx j) rm base v h.s x (oth h j) → Calls Tryz.prog f av w (RPost w (bx j) rm base v res)) :
    Calls Tryz.prog f av w fun e w2 => e = .returned (.int .i64 res.1) ∧ DM w w2 rh rm base bx h (h.put j res.2) := by
  refine (RHo.go r hi (by omega) hx hc).mono ?_
  rintro e w2 ⟨he, ⟨v2, hr⟩, hu⟩
  exact ⟨he, ⟨⟨bx, v2, hr, fun i hi => Or.inl (ft_put hx i hi)⟩, upd_put hx hu⟩⟩
theorem dm_load (r : RHo w rh rm base bx v h) (hi : HInv h (k : Int)) (hk : k ≤ 1000) (hx : h.g j = some x) (addr : Int) :
    Calls Tryz.prog 44 #[.pointer (some ⟨bx j, 0, none⟩), .int .i64 addr] w fun e w2 => e = .returned (.tuple #[.int .u8 (gLoad h.s x addr).1.1, .int .i64 (gLoad h.s x addr).1.2]) ∧ DM w w2 rh rm base bx h (h.put j (gLoad h.s x addr).2) := by
  refine ((r.pre hi (by omega) hx).load addr).mono ?_
  rintro e w2 ⟨he, hr, ⟨v2, hg, hf⟩, hu⟩
  exact ⟨he, ⟨⟨bx, _, r.act hx hr hg hf hu, fun i hi => Or.inl (ft_put hx i hi)⟩, upd_put hx hu⟩⟩
theorem say_load (r : RHo w rh rm base bx v h) (o : HOk h n k) (hk : k ≤ 1000) (hx : h.g j = some x) (hj : j < 4) (a b c : Int) :
    Calls Tryz.prog 32 #[.pointer (some ⟨bx j, 0, none⟩), .string (TX kLoad), .agg #[.int .i64 a, .int .i64 b, .int .i64 c], .pointer (some ⟨rm, 0, none⟩)] w (DP w rh rm base bx h (valT (hLoad h (j : Int) b).1.1 (hLoad h (j : Int) b).1.2, (hLoad h (j : Int) b).2)) := by
  have ht : (TX kLoad).toList = [108, 111, 97, 100] := TX_toList _
  have hby := o.byte (j : Int) b
  have hcd := o.code (acOf kLoad (j : Int) b 0) (Int.le_refl _) (by show (0 : Int) ≤ 255; omega)
  rw [did_load] at hcd
  have HL : Hid (∀ w1, Upd (fun _ => False) w w1 → _) := fun w1 u => dm_load (r.same u) o.inv hk hx b
  have he : hLoad h (j : Int) b = ((gLoad h.s x b).1, h.put j (gLoad h.s x b).2) := by
    obtain ⟨e1, e2⟩ := hWho_some hx hj
    unfold hLoad
    rw [e1, e2, if_neg (by omega), Int.toNat_natCast]
  rw [he] at hby hcd ⊢
  revert HL hby hcd
  generalize gLoad h.s x b = q
  obtain ⟨⟨q1, q2⟩, q3⟩ := q
  simp only
  intro hby hcd HL
  have HF : Hid _ := fun w => fault_any w q2 hcd.1 (by omega)
  have HD : Hid _ := fun w => dec_any w q1 hby.1 (by omega)
  unfold valT
  by_cases h0 : 0 < q2
  · rw [if_pos h0]
    have d0 : decide (0 < q2) = true := by simp; exact h0
    clear r he
    go_enter Tryz.func32, Tryz.ntmps32
    go_wp2_with (first
      | (go_at_call 44; refine Calls.mono (HL.out _ ((Upd.refl _ _).alloc _)) ?_; rintro e w2 ⟨rfl, hd2⟩)
      | (go_at_call 15; refine Calls.mono (HF.out _) ?_; rintro e w3 ⟨rfl, hu3⟩))
    go_ret
    exact (DM.fore ((Upd.refl _ _).alloc _) (hd2.more hu3)).fin
  · rw [if_neg h0]
    have d0 : decide (0 < q2) = false := by simp; omega
    clear r he
    go_enter Tryz.func32, Tryz.ntmps32
    go_wp2_with (first
      | (go_at_call 44; refine Calls.mono (HL.out _ ((Upd.refl _ _).alloc _)) ?_; rintro e w2 ⟨rfl, hd2⟩)
      | (go_at_call 18; refine Calls.mono (HD.out _) ?_; rintro e w3 ⟨rfl, hu3⟩))
    go_ret
    exact (DM.fore ((Upd.refl _ _).alloc _) (hd2.more hu3)).fin
theorem say_store (r : RHo w rh rm base bx v h) (o : HOk h n k) (hk : k ≤ 1000) (hx : h.g j = some x) (hj : j < 4) (a b c : Int) (c0 : 0 ≤ c) (c1 : c ≤ 255) :
    Calls Tryz.prog 32 #[.pointer (some ⟨bx j, 0, none⟩), .string (TX kStore), .agg #[.int .i64 a, .int .i64 b, .int .i64 c], .pointer (some ⟨rm, 0, none⟩)] w (DP w rh rm base bx h (doneT (hStore h (j : Int) b c).1, (hStore h (j : Int) b c).2)) := by
  have ht : (TX kStore).toList = [115, 116, 111, 114, 101] := TX_toList _
  have hcd := o.code (acOf kStore (j : Int) b c) c0 c1
  rw [did_store] at hcd
  have hw8 : IntKind.u8.wrap c = c := by rw [IntKind.wrap_u8]; omega
  have HL : Hid (∀ w1, Upd (fun _ => False) w w1 → _) := fun w1 u => dm_go (res := gStore h.s x b c) (r.same u) o.inv hk hx (fun v p => RPre.store p b c)
  have he : hStore h (j : Int) b c = ((gStore h.s x b c).1, h.put j (gStore h.s x b c).2) := by
    obtain ⟨e1, e2⟩ := hWho_some hx hj
    unfold hStore hAct
    rw [e1, e2, if_neg (by omega), Int.toNat_natCast]
  rw [he] at hcd ⊢
  revert HL hcd
  generalize gStore h.s x b c = q
  obtain ⟨q2, q3⟩ := q
  simp only
  intro hcd HL
  have HD : Hid _ := fun w => done_any w q2 hcd.1 (by omega)
  clear r he
  go_enter Tryz.func32, Tryz.ntmps32
  go_wp2_with (first
    | (go_at_call 45; refine Calls.mono (HL.out _ ((Upd.refl _ _).alloc _)) ?_; rintro e w2 ⟨rfl, hd2⟩)
    | (go_at_call 24; refine Calls.mono (HD.out _) ?_; rintro e w3 ⟨rfl, hu3⟩))
  go_ret
  exact (DM.fore ((Upd.refl _ _).alloc _) (hd2.more hu3)).fin
theorem say_root (r : RHo w rh rm base bx v h) (o : HOk h n k) (hk : k ≤ 1000) (hx : h.g j = some x) (hj : j < 4) (a b c : Int) :
    Calls Tryz.prog 32 #[.pointer (some ⟨bx j, 0, none⟩), .string (TX kRoot), .agg #[.int .i64 a, .int .i64 b, .int .i64 c], .pointer (some ⟨rm, 0, none⟩)] w (DP w rh rm base bx h (doneT (hRoot h (j : Int) b).1, (hRoot h (j : Int) b).2)) := by
  have ht : (TX kRoot).toList = [114, 111, 111, 116] := TX_toList _
  have hcd := o.code (acOf kRoot (j : Int) b 0) (Int.le_refl _) (by show (0 : Int) ≤ 255; omega)
  rw [did_root] at hcd
  have HL : Hid (∀ w1, Upd (fun _ => False) w w1 → _) := fun w1 u => dm_go (res := onS h.s (gRoot x b)) (r.same u) o.inv hk hx (fun v p => RPre.root p b)
  have he : hRoot h (j : Int) b = ((onS h.s (gRoot x b)).1, h.put j (onS h.s (gRoot x b)).2) := by
    obtain ⟨e1, e2⟩ := hWho_some hx hj
    unfold hRoot hAct
    rw [e1, e2, if_neg (by omega), Int.toNat_natCast]
  rw [he] at hcd ⊢
  revert HL hcd
  generalize onS h.s (gRoot x b) = q
  obtain ⟨q2, q3⟩ := q
  simp only
  intro hcd HL
  have HD : Hid _ := fun w => done_any w q2 hcd.1 (by omega)
  clear r he
  go_enter Tryz.func32, Tryz.ntmps32
  go_wp2_with (first
    | (go_at_call 46; refine Calls.mono (HL.out _ ((Upd.refl _ _).alloc _)) ?_; rintro e w2 ⟨rfl, hd2⟩)
    | (go_at_call 24; refine Calls.mono (HD.out _) ?_; rintro e w3 ⟨rfl, hu3⟩))
  go_ret
  exact (DM.fore ((Upd.refl _ _).alloc _) (hd2.more hu3)).fin
theorem say_forget (r : RHo w rh rm base bx v h) (o : HOk h n k) (hk : k ≤ 1000) (hx : h.g j = some x) (hj : j < 4) (a b c : Int) :
    Calls Tryz.prog 32 #[.pointer (some ⟨bx j, 0, none⟩), .string (TX kForget), .agg #[.int .i64 a, .int .i64 b, .int .i64 c], .pointer (some ⟨rm, 0, none⟩)] w (DP w rh rm base bx h (doneT (hForget h (j : Int) b).1, (hForget h (j : Int) b).2)) := by
  have ht : (TX kForget).toList = [102, 111, 114, 103, 101, 116] := TX_toList _
  have hcd := o.code (acOf kForget (j : Int) b 0) (Int.le_refl _) (by show (0 : Int) ≤ 255; omega)
  rw [did_forget] at hcd
  have HL : Hid (∀ w1, Upd (fun _ => False) w w1 → _) := fun w1 u => dm_go (res := onS h.s (gForget x b)) (r.same u) o.inv hk hx (fun v p => RPre.forget p b)
  have he : hForget h (j : Int) b = ((onS h.s (gForget x b)).1, h.put j (onS h.s (gForget x b)).2) := by
    obtain ⟨e1, e2⟩ := hWho_some hx hj
    unfold hForget hAct
    rw [e1, e2, if_neg (by omega), Int.toNat_natCast]
  rw [he] at hcd ⊢
  revert HL hcd
  generalize onS h.s (gForget x b) = q
  obtain ⟨q2, q3⟩ := q
  simp only
  intro hcd HL
  have HD : Hid _ := fun w => done_any w q2 hcd.1 (by omega)
  clear r he
  go_enter Tryz.func32, Tryz.ntmps32
  go_wp2_with (first
    | (go_at_call 47; refine Calls.mono (HL.out _ ((Upd.refl _ _).alloc _)) ?_; rintro e w2 ⟨rfl, hd2⟩)
    | (go_at_call 24; refine Calls.mono (HD.out _) ?_; rintro e w3 ⟨rfl, hu3⟩))
  go_ret
  exact (DM.fore ((Upd.refl _ _).alloc _) (hd2.more hu3)).fin
theorem say_drop (r : RHo w rh rm base bx v h) (o : HOk h n k) (hk : k ≤ 1000) (hx : h.g j = some x) (hj : j < 4) (a b c : Int) :
    Calls Tryz.prog 32 #[.pointer (some ⟨bx j, 0, none⟩), .string (TX kDrop), .agg #[.int .i64 a, .int .i64 b, .int .i64 c], .pointer (some ⟨rm, 0, none⟩)] w (DP w rh rm base bx h (doneT (hDrop h (j : Int) b).1, (hDrop h (j : Int) b).2)) := by
  have ht : (TX kDrop).toList = [100, 114, 111, 112] := TX_toList _
  have hcd := o.code (acOf kDrop (j : Int) b 0) (Int.le_refl _) (by show (0 : Int) ≤ 255; omega)
  rw [did_drop] at hcd
  have HL : Hid (∀ w1, Upd (fun _ => False) w w1 → _) := fun w1 u => dm_go (res := onS h.s (gForgetAll x b)) (r.same u) o.inv hk hx (fun v p => RPre.forgetAll p b)
  have he : hDrop h (j : Int) b = ((onS h.s (gForgetAll x b)).1, h.put j (onS h.s (gForgetAll x b)).2) := by
    obtain ⟨e1, e2⟩ := hWho_some hx hj
    unfold hDrop hAct
    rw [e1, e2, if_neg (by omega), Int.toNat_natCast]
  rw [he] at hcd ⊢
  revert HL hcd
  generalize onS h.s (gForgetAll x b) = q
  obtain ⟨q2, q3⟩ := q
  simp only
  intro hcd HL
  have HD : Hid _ := fun w => done_any w q2 hcd.1 (by omega)
  clear r he
  go_enter Tryz.func32, Tryz.ntmps32
  go_wp2_with (first
    | (go_at_call 48; refine Calls.mono (HL.out _ ((Upd.refl _ _).alloc _)) ?_; rintro e w2 ⟨rfl, hd2⟩)
    | (go_at_call 24; refine Calls.mono (HD.out _) ?_; rintro e w3 ⟨rfl, hu3⟩))
  go_ret
  exact (DM.fore ((Upd.refl _ _).alloc _) (hd2.more hu3)).fin
end Go.Proofs.YtadpibcgjgcjhabGreatDoor
