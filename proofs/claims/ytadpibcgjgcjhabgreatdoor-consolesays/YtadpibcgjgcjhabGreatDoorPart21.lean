/- The document's Guest.say. -/
import Derived.Test.YtadpibcgjgcjhabGreatDoorPart20
namespace Go.Proofs.YtadpibcgjgcjhabGreatDoor
open Go.ChangeShapes Go.WideShapes Go.ChangeAt Go.RowKit
set_option maxRecDepth 100000
attribute [local go_sem ↓] Go.wp_at_zero Go.wp_at_succ
variable {W w w1 w2 w3 w' : World} {rh rm base : Nat} {bx bx2 : Nat → Nat} {v v2 : Nat → Value} {h h2 : Hs} {x : Gs} {n k j : Nat}

/-- How a line ends, in the document. -/
def DP (w : World) (rh rm base : Nat) (bx : Nat → Nat) (h : Hs) (r : List UInt8 × Hs) (e : Ending) (w' : World) : Prop :=
  e = .returned (.string (TX r.1)) ∧ (∃ bx' v', RHo w' rh rm base bx' v' r.2 ∧ ∀ j, RFt rh rm bx' r.2 j → RFt rh rm bx h j ∨ w.heap.size ≤ j) ∧ Upd (RFt rh rm bx h) w w'
/-- The host has acted. -/
structure DM (w w2 : World) (rh rm base : Nat) (bx : Nat → Nat) (h h2 : Hs) : Prop where
  ex : ∃ bx' v', RHo w2 rh rm base bx' v' h2 ∧ ∀ j, RFt rh rm bx' h2 j → RFt rh rm bx h j ∨ w.heap.size ≤ j
  up : Upd (RFt rh rm bx h) w w2
theorem DM.refl (r : RHo w rh rm base bx v h) : DM w w rh rm base bx h h := ⟨⟨bx, v, r, fun _ hj => Or.inl hj⟩, Upd.refl _ _⟩
theorem DM.more (d : DM w w2 rh rm base bx h h2) (u : Upd (fun _ => False) w2 w3) : DM w w3 rh rm base bx h h2 := by
  obtain ⟨bx', v', r, hj⟩ := d.ex
  exact ⟨⟨bx', v', r.same u, hj⟩, d.up.trans u (fun _ _ f => f.elim)⟩
theorem DM.fore (u : Upd (fun _ => False) w w1) (d : DM w1 w2 rh rm base bx h h2) : DM w w2 rh rm base bx h h2 := by
  obtain ⟨bx', v', r, hj⟩ := d.ex
  have := u.size
  exact ⟨⟨bx', v', r, fun j h => (hj j h).imp id (fun e => by omega)⟩, (MRead.no _ u).trans d.up (fun _ _ f => f)⟩
theorem DM.fin (d : DM w w2 rh rm base bx h h2) {t : List UInt8} : DP w rh rm base bx h (t, h2) (.returned (.string (TX t))) w2 := ⟨rfl, d.ex, d.up⟩
theorem ft_put {r : Pl × Gs} (hx : h.g j = some x) : ∀ i, RFt rh rm bx (h.put j r) i → RFt rh rm bx h i := fun i hi => by
  rcases hi with e | e | ⟨q, y, hy, e⟩
  · exact Or.inl e
  · exact Or.inr (Or.inl e)
  · by_cases hq : q = j
    · subst hq; exact Or.inr (Or.inr ⟨q, x, hx, e⟩)
    · exact Or.inr (Or.inr ⟨q, y, by rw [← hy]; exact (setAt_other _ _ _ _ hq).symm, e⟩)
theorem upd_put (hx : h.g j = some x) (u : Upd (fun k => k = rm ∨ k = bx j) w w') : Upd (RFt rh rm bx h) w w' := u.wide (fun i e => by
  rcases e with e | e
  · exact Or.inr (Or.inl e)
  · exact Or.inr (Or.inr ⟨j, x, hx, e⟩))
theorem dm_go {f : Nat} {av : Array Value} {res : Int × Pl × Gs} (r : RHo w rh rm base bx v h) (hi : HInv h (k : Int)) (hk : k ≤ 1000) (hx : h.g j = some x) (hc : ∀ v, RPre w (bx j) rm base v h.s x (oth h j) → Calls Tryz.prog f av w (RPost w (bx j) rm base v res)) :
    Calls Tryz.prog f av w fun e w2 => e = .returned (.int .i64 res.1) ∧ DM w w2 rh rm base bx h (h.put j res.2) := by
  refine (RHo.go r hi (by omega) hx hc).mono ?_
  rintro e w2 ⟨he, ⟨v2, hr⟩, hu⟩
  exact ⟨he, ⟨⟨bx, v2, hr, fun i hi => Or.inl (ft_put hx i hi)⟩, upd_put hx hu⟩⟩
theorem dm_load (r : RHo w rh rm base bx v h) (hi : HInv h (k : Int)) (hk : k ≤ 1000) (hx : h.g j = some x) (addr : Int) :
    Calls Tryz.prog 44 #[.pointer (some ⟨bx j, 0, none⟩), .int .i64 addr] w fun e w2 => e = .returned (.tuple #[.int .u8 (gLoad h.s x addr).1.1, .int .i64 (gLoad h.s x addr).1.2]) ∧ DM w w2 rh rm base bx h (h.put j (gLoad h.s x addr).2) := by
  refine ((r.pre hi (by omega) hx).load addr).mono ?_
  rintro e w2 ⟨he, hr, ⟨v2, hg, hf⟩, hu⟩
  exact ⟨he, ⟨⟨bx, _, r.act hx hr hg hf hu, fun i hi => Or.inl (ft_put hx i hi)⟩, upd_put hx hu⟩⟩
theorem say_load (r : RHo w rh rm base bx v h) (o : HOk h n k) (hk : k ≤ 1000) (hx : h.g j = some x) (hj : j < 4) (a b c : Int) :
    Calls Tryz.prog 32 #[.pointer (some ⟨bx j, 0, none⟩), .string (TX kLoad), .agg #[.int .i64 a, .int .i64 b, .int .i64 c], .pointer (some ⟨rm, 0, none⟩)] w (DP w rh rm base bx h (valT (hLoad h (j : Int) b).1.1 (hLoad h (j : Int) b).1.2, (hLoad h (j : Int) b).2)) := by
  have ht : (TX kLoad).toList = [108, 111, 97, 100] := TX_toList _
  have hby := o.byte (j : Int) b
  have hcd := o.code (acOf kLoad (j : Int) b 0) (Int.le_refl _) (by show (0 : Int) ≤ 255; omega)
  rw [did_load] at hcd
  have HL : Hid (∀ w1, Upd (fun _ => False) w w1 → _) := fun w1 u => dm_load (r.same u) o.inv hk hx b
  have he : hLoad h (j : Int) b = ((gLoad h.s x b).1, h.put j (gLoad h.s x b).2) := by
    obtain ⟨e1, e2⟩ := hWho_some hx hj
    unfold hLoad
    rw [e1, e2, if_neg (by omega), Int.toNat_natCast]
  rw [he] at hby hcd ⊢
  revert HL hby hcd
  generalize gLoad h.s x b = q
  obtain ⟨⟨q1, q2⟩, q3⟩ := q
  simp only
  intro hby hcd HL
  have HF : Hid _ := fun w => fault_any w q2 hcd.1 (by omega)
  have HD : Hid _ := fun w => dec_any w q1 hby.1 (by omega)
  unfold valT
  by_cases h0 : 0 < q2
  · rw [if_pos h0]
    have d0 : decide (0 < q2) = true := by simp; exact h0
    clear r he
    go_enter Tryz.func32, Tryz.ntmps32
    go_wp2_with (first
      | (go_at_call 44; refine Calls.mono (HL.out _ ((Upd.refl _ _).alloc _)) ?_; rintro e w2 ⟨rfl, hd2⟩)
      | (go_at_call 15; refine Calls.mono (HF.out _) ?_; rintro e w3 ⟨rfl, hu3⟩))
    go_ret
    exact (DM.fore ((Upd.refl _ _).alloc _) (hd2.more hu3)).fin
  · rw [if_neg h0]
    have d0 : decide (0 < q2) = false := by simp; omega
    clear r he
    go_enter Tryz.func32, Tryz.ntmps32
    go_wp2_with (first
      | (go_at_call 44; refine Calls.mono (HL.out _ ((Upd.refl _ _).alloc _)) ?_; rintro e w2 ⟨rfl, hd2⟩)
      | (go_at_call 18; refine Calls.mono (HD.out _) ?_; rintro e w3 ⟨rfl, hu3⟩))
    go_ret
    exact (DM.fore ((Upd.refl _ _).alloc _) (hd2.more hu3)).fin
theorem say_store (r : RHo w rh rm base bx v h) (o : HOk h n k) (hk : k ≤ 1000) (hx : h.g j = some x) (hj : j < 4) (a b c : Int) (c0 : 0 ≤ c) (c1 : c ≤ 255) :
    Calls Tryz.prog 32 #[.pointer (some ⟨bx j, 0, none⟩), .string (TX kStore), .agg #[.int .i64 a, .int .i64 b, .int .i64 c], .pointer (some ⟨rm, 0, none⟩)] w (DP w rh rm base bx h (doneT (hStore h (j : Int) b c).1, (hStore h (j : Int) b c).2)) := by
  have ht : (TX kStore).toList = [115, 116, 111, 114, 101] := TX_toList _
  have hcd := o.code (acOf kStore (j : Int) b c) c0 c1
  rw [did_store] at hcd
  have hw8 : IntKind.u8.wrap c = c := by rw [IntKind.wrap_u8]; omega
  have HL : Hid (∀ w1, Upd (fun _ => False) w w1 → _) := fun w1 u => dm_go (res := gStore h.s x b c) (r.same u) o.inv hk hx (fun v p => RPre.store p b c)
  have he : hStore h (j : Int) b c = ((gStore h.s x b c).1, h.put j (gStore h.s x b c).2) := by
    obtain ⟨e1, e2⟩ := hWho_some hx hj
    unfold hStore hAct
    rw [e1, e2, if_neg (by omega), Int.toNat_natCast]
  rw [he] at hcd ⊢
  revert HL hcd
  generalize gStore h.s x b c = q
  obtain ⟨q2, q3⟩ := q
  simp only
  intro hcd HL
  have HD : Hid _ := fun w => done_any w q2 hcd.1 (by omega)
  clear r he
  go_enter Tryz.func32, Tryz.ntmps32
  go_wp2_with (first
    | (go_at_call 45; refine Calls.mono (HL.out _ ((Upd.refl _ _).alloc _)) ?_; rintro e w2 ⟨rfl, hd2⟩)
    | (go_at_call 24; refine Calls.mono (HD.out _) ?_; rintro e w3 ⟨rfl, hu3⟩))
  go_ret
  exact (DM.fore ((Upd.refl _ _).alloc _) (hd2.more hu3)).fin
theorem say_root (r : RHo w rh rm base bx v h) (o : HOk h n k) (hk : k ≤ 1000) (hx : h.g j = some x) (hj : j < 4) (a b c : Int) :
    Calls Tryz.prog 32 #[.pointer (some ⟨bx j, 0, none⟩), .string (TX kRoot), .agg #[.int .i64 a, .int .i64 b, .int .i64 c], .pointer (some ⟨rm, 0, none⟩)] w (DP w rh rm base bx h (doneT (hRoot h (j : Int) b).1, (hRoot h (j : Int) b).2)) := by
  have ht : (TX kRoot).toList = [114, 111, 111, 116] := TX_toList _
  have hcd := o.code (acOf kRoot (j : Int) b 0) (Int.le_refl _) (by show (0 : Int) ≤ 255; omega)
  rw [did_root] at hcd
  have HL : Hid (∀ w1, Upd (fun _ => False) w w1 → _) := fun w1 u => dm_go (res := onS h.s (gRoot x b)) (r.same u) o.inv hk hx (fun v p => RPre.root p b)
  have he : hRoot h (j : Int) b = ((onS h.s (gRoot x b)).1, h.put j (onS h.s (gRoot x b)).2) := by
    obtain ⟨e1, e2⟩ := hWho_some hx hj
    unfold hRoot hAct
    rw [e1, e2, if_neg (by omega), Int.toNat_natCast]
  rw [he] at hcd ⊢
  revert HL hcd
  generalize onS h.s (gRoot x b) = q
  obtain ⟨q2, q3⟩ := q
  simp only
  intro hcd HL
  have HD : Hid _ := fun w => done_any w q2 hcd.1 (by omega)
  clear r he
  go_enter Tryz.func32, Tryz.ntmps32
  go_wp2_with (first
    | (go_at_call 46; refine Calls.mono (HL.out _ ((Upd.refl _ _).alloc _)) ?_; rintro e w2 ⟨rfl, hd2⟩)
    | (go_at_call 24; refine Calls.mono (HD.out _) ?_; rintro e w3 ⟨rfl, hu3⟩))
  go_ret
  exact (DM.fore ((Upd.refl _ _).alloc _) (hd2.more hu3)).fin
theorem say_forget (r : RHo w rh rm base bx v h) (o : HOk h n k) (hk : k ≤ 1000) (hx : h.g j = some x) (hj : j < 4) (a b c : Int) :
    Calls Tryz.prog 32 #[.pointer (some ⟨bx j, 0, none⟩), .string (TX kForget), .agg #[.int .i64 a, .int .i64 b, .int .i64 c], .pointer (some ⟨rm, 0, none⟩)] w (DP w rh rm base bx h (doneT (hForget h (j : Int) b).1, (hForget h (j : Int) b).2)) := by
  have ht : (TX kForget).toList = [102, 111, 114, 103, 101, 116] := TX_toList _
  have hcd := o.code (acOf kForget (j : Int) b 0) (Int.le_refl _) (by show (0 : Int) ≤ 255; omega)
  rw [did_forget] at hcd
  have HL : Hid (∀ w1, Upd (fun _ => False) w w1 → _) := fun w1 u => dm_go (res := onS h.s (gForget x b)) (r.same u) o.inv hk hx (fun v p => RPre.forget p b)
  have he : hForget h (j : Int) b = ((onS h.s (gForget x b)).1, h.put j (onS h.s (gForget x b)).2) := by
    obtain ⟨e1, e2⟩ := hWho_some hx hj
    unfold hForget hAct
    rw [e1, e2, if_neg (by omega), Int.toNat_natCast]
  rw [he] at hcd ⊢
  revert HL hcd
  generalize onS h.s (gForget x b) = q
  obtain ⟨q2, q3⟩ := q
  simp only
  intro hcd HL
  have HD : Hid _ := fun w => done_any w q2 hcd.1 (by omega)
  clear r he
  go_enter Tryz.func32, Tryz.ntmps32
  go_wp2_with (first
    | (go_at_call 47; refine Calls.mono (HL.out _ ((Upd.refl _ _).alloc _)) ?_; rintro e w2 ⟨rfl, hd2⟩)
    | (go_at_call 24; refine Calls.mono (HD.out _) ?_; rintro e w3 ⟨rfl, hu3⟩))
  go_ret
  exact (DM.fore ((Upd.refl _ _).alloc _) (hd2.more hu3)).fin
theorem say_drop (r : RHo w rh rm base bx v h) (o : HOk h n k) (hk : k ≤ 1000) (hx : h.g j = some x) (hj : j < 4) (a b c : Int) :
    Calls Tryz.prog 32 #[.pointer (some ⟨bx j, 0, none⟩), .string (TX kDrop), .agg #[.int .i64 a, .int .i64 b, .int .i64 c], .pointer (some ⟨rm, 0, none⟩)] w (DP w rh rm base bx h (doneT (hDrop h (j : Int) b).1, (hDrop h (j : Int) b).2)) := by
  have ht : (TX kDrop).toList = [100, 114, 111, 112] := TX_toList _
  have hcd := o.code (acOf kDrop (j : Int) b 0) (Int.le_refl _) (by show (0 : Int) ≤ 255; omega)
  rw [did_drop] at hcd
  have HL : Hid (∀ w1, Upd (fun _ => False) w w1 → _) := fun w1 u => dm_go (res := onS h.s (gForgetAll x b)) (r.same u) o.inv hk hx (fun v p => RPre.forgetAll p b)
  have he : hDrop h (j : Int) b = ((onS h.s (gForgetAll x b)).1, h.put j (onS h.s (gForgetAll x b)).2) := by
    obtain ⟨e1, e2⟩ := hWho_some hx hj
    unfold hDrop hAct
    rw [e1, e2, if_neg (by omega), Int.toNat_natCast]
  rw [he] at hcd ⊢
  revert HL hcd
  generalize onS h.s (gForgetAll x b) = q
  obtain ⟨q2, q3⟩ := q
  simp only
  intro hcd HL
  have HD : Hid _ := fun w => done_any w q2 hcd.1 (by omega)
  clear r he
  go_enter Tryz.func32, Tryz.ntmps32
  go_wp2_with (first
    | (go_at_call 48; refine Calls.mono (HL.out _ ((Upd.refl _ _).alloc _)) ?_; rintro e w2 ⟨rfl, hd2⟩)
    | (go_at_call 24; refine Calls.mono (HD.out _) ?_; rintro e w3 ⟨rfl, hu3⟩))
  go_ret
  exact (DM.fore ((Upd.refl _ _).alloc _) (hd2.more hu3)).fin
end Go.Proofs.YtadpibcgjgcjhabGreatDoor
/- The document's Guest.say: a page. -/
namespace Go.Proofs.YtadpibcgjgcjhabGreatDoor
open Go.ChangeShapes Go.WideShapes Go.ChangeAt Go.RowKit
set_option maxRecDepth 100000
attribute [local go_sem ↓] Go.wp_at_zero Go.wp_at_succ
variable {W w w1 w2 w3 w' : World} {rh rm base : Nat} {bx bx2 : Nat → Nat} {v v2 : Nat → Value} {h h2 : Hs} {x : Gs} {n k j : Nat}

theorem page_off {b : Int} (hx : h.g j = some x) (hj : j < 4) (hb : onB b = false) : pageT h (j : Int) b = errT 1 := by
  obtain ⟨e1, e2⟩ := hWho_some hx hj
  have e : hState h (j : Int) b = (0, 1) := by unfold hState stR; rw [e1, if_neg (by omega), if_neg (by rw [hb]; decide)]
  unfold pageT
  rw [e]
  rfl
theorem page_on {p : Nat} (hx : h.g j = some x) (hj : j < 4) (hp : p < 16) : pageT h (j : Int) (p : Int) = if (x.m.lf p).there = true then numT (x.m.st p) ++ (if (x.m.lf p).wr = true then [32, 111, 119, 110, 32] else [32, 115, 101, 97, 108, 101, 100, 32]) ++ numT (h.s.of (x.m.lf p).fr).2.1 else numT (x.m.st p) ++ [32, 110, 111, 119, 104, 101, 114, 101] := by
  obtain ⟨e1, e2⟩ := hWho_some hx hj
  have hb : onB (p : Int) = true := (onB_iff _).2 (by omega)
  have e : hState h (j : Int) (p : Int) = (x.m.st p, 0) := by unfold hState stR; rw [e1, e2, if_neg (by omega), if_pos hb, Int.toNat_natCast]
  have e' : hLeaf h (j : Int) (p : Int) = (x.m.lf p, 0) := by unfold hLeaf lfR; rw [e1, e2, if_neg (by omega), if_pos hb, Int.toNat_natCast]
  unfold pageT
  rw [e, e']
  rfl
theorem say_page_off (r : RHo w rh rm base bx v h) (hx : h.g j = some x) (hj : j < 4) (a b c : Int) (hb : onB b = false) :
    Calls Tryz.prog 32 #[.pointer (some ⟨bx j, 0, none⟩), .string (TX kPage), .agg #[.int .i64 a, .int .i64 b, .int .i64 c], .pointer (some ⟨rm, 0, none⟩)] w (DP w rh rm base bx h (pageT h (j : Int) b, h)) := by
  have ht : (TX kPage).toList = [112, 97, 103, 101] := TX_toList _
  rw [page_off hx hj hb]
  have HR : Hid _ := r
  clear r
  have HO : Hid _ := fun w => on_any w b
  rw [hb] at HO
  have HF : Hid _ := fun w => fault_any w 1 (by omega) (by omega)
  go_enter Tryz.func32, Tryz.ntmps32
  go_wp2_with (first
    | (go_at_call 39; refine Calls.mono (HO.out _) ?_; rintro e w2 ⟨rfl, hw2⟩; subst hw2)
    | (go_at_call 15; refine Calls.mono (HF.out _) ?_; rintro e w3 ⟨rfl, hu3⟩))
  go_ret
  exact (DM.more (DM.more (DM.refl HR.out) ((Upd.refl _ _).alloc _)) hu3).fin
theorem say_page_none (r : RHo w rh rm base bx v h) (o : HOk h n k) (hx : h.g j = some x) (hj : j < 4) (a c : Int) {p : Nat} (hp : p < 16) (h1 : (x.m.lf p).there = false) :
    Calls Tryz.prog 32 #[.pointer (some ⟨bx j, 0, none⟩), .string (TX kPage), .agg #[.int .i64 a, .int .i64 (p : Int), .int .i64 c], .pointer (some ⟨rm, 0, none⟩)] w (DP w rh rm base bx h (pageT h (j : Int) (p : Int), h)) := by
  have ht : (TX kPage).toList = [112, 97, 103, 101] := TX_toList _
  rw [page_on hx hj hp, if_neg (by rw [h1]; decide)]
  have HR : Hid _ := r
  have hm := (r.gu j x hx).mp
  have m1 := hm.st p hp
  have m2 := hm.th p hp
  have m3 := hm.wr p hp
  have m4 := hm.fr p hp
  simp only at m1 m2 m3 m4
  have hlt := hm.lt
  have hst := ((o.inv.gi j x hx).2.pg p hp).1
  have HO : Hid _ := fun w => on_yes w hp
  have HD : Hid _ := fun w => dec_any w (x.m.st p) hst.1 (by omega)
  have hs1 := numT_le (x.m.st p) (by omega)
  rw [← TX_size] at hs1
  rw [h1] at m2
  have p0 : (0 : Int) ≤ (p : Int) := by omega
  have p1 : (p : Int) < 16 := by omega
  have hz : ¬ 9223372036854775807 < (TX (numT (x.m.st p))).size + 8 := by omega
  clear r hm
  generalize x.m.st p = st at *
  go_enter Tryz.func32, Tryz.ntmps32
  go_wp2_with (first
    | (go_at_call 39; refine Calls.mono (HO.out _) ?_; rintro e w2 ⟨rfl, hw2⟩; subst hw2))
  go_region_with (go_at_call 18; refine Calls.mono (HD.out _) ?_; rintro e w2 ⟨rfl, hu2⟩)
  have U2 : Upd (fun _ => False) w w2 := by first | exact ((Upd.refl _ w).alloc _).drew.trans hu2 (fun _ _ f => f) | exact ((Upd.refl _ w).alloc _).trans hu2 (fun _ _ f => f)
  have d2 := U2.cell m2 (fun f => f)
  have d3 := U2.cell m3 (fun f => f)
  have d4 := U2.cell m4 (fun f => f)
  have hq : w2.cell? ⟨w.heap.size, 1, none⟩ = some (.int .i64 (p : Int)) := hu2.cell (by show (w.alloc _).cell? _ = _; rw [World.cell?_alloc_new]; rfl) (fun f => f)
  have HU2 : Hid _ := U2
  have hl2 : bx j < w2.heap.size := Nat.lt_of_lt_of_le hlt U2.size
  have hq2 : w.heap.size < w2.heap.size := World.block_lt_of_cell? w2 _ hq
  obtain ⟨y0, y1, y2, z0, z1, z2⟩ := box0 w2 92
  clear m1 m2 m3 m4 hu2 U2
  generalize w.heap.size = q at *
  go_wp2_with fail
  simp only [Act.put, List.setIfInBounds_toArray]
  go_region_with (fail)
  all_goals (
    clear y0 y1 y2 z0 z1 z2 d2 d3 d4
    go_wp2_with fail
    go_ret
    have d := (DM.more (DM.refl HR.out) (HU2.out.alloc (.cells #[.bool false, .bool (x.m.lf p).wr, .int .i64 (x.m.lf p).fr] 92)).drew).fin (t := numT st ++ [32, 110, 111, 119, 104, 101, 114, 101])
    rw [← TX_append] at d
    exact d)
theorem say_page_own (r : RHo w rh rm base bx v h) (o : HOk h n k) (hx : h.g j = some x) (hj : j < 4) (a c : Int) {p : Nat} (hp : p < 16) (h1 : (x.m.lf p).there = true) (h2 : (x.m.lf p).wr = true) :
    Calls Tryz.prog 32 #[.pointer (some ⟨bx j, 0, none⟩), .string (TX kPage), .agg #[.int .i64 a, .int .i64 (p : Int), .int .i64 c], .pointer (some ⟨rm, 0, none⟩)] w (DP w rh rm base bx h (pageT h (j : Int) (p : Int), h)) := by
  have ht : (TX kPage).toList = [112, 97, 103, 101] := TX_toList _
  rw [page_on hx hj hp, if_pos h1, if_pos h2]
  have HR : Hid _ := r
  have hm := (r.gu j x hx).mp
  have m1 := hm.st p hp
  have m2 := hm.th p hp
  have m3 := hm.wr p hp
  have m4 := hm.fr p hp
  simp only at m1 m2 m3 m4
  have hlt := hm.lt
  have hst := ((o.inv.gi j x hx).2.pg p hp).1
  have HO : Hid _ := fun w => on_yes w hp
  have HD : Hid _ := fun w => dec_any w (x.m.st p) hst.1 (by omega)
  have hs1 := numT_le (x.m.st p) (by omega)
  rw [← TX_size] at hs1
  rw [h1] at m2
  rw [h2] at m3
  have p0 : (0 : Int) ≤ (p : Int) := by omega
  have p1 : (p : Int) < 16 := by omega
  have hz : ¬ 9223372036854775807 < (TX (numT (x.m.st p))).size + 5 := by omega
  have hrg := o.inv.cn.rng (16 * j + p) (by omega)
  have hrl : rowL h (16 * j + p) = x.m.lf p := by
    unfold rowL gLf
    rw [show (16 * j + p) / 16 = j by omega, show (16 * j + p) % 16 = p by omega, hx]
  rw [hrl] at hrg
  have hrg2 := hrg h1
  obtain ⟨f, hfe⟩ := Int.eq_ofNat_of_zero_le hrg2.1
  rw [hfe] at hrg2 m4
  have hfn : f < h.s.n := by omega
  have hle := r.ref.le
  have hrf := o.refs (x.m.lf p).fr
  rw [hfe] at hrf
  have hof : (h.s.of (f : Int)).2.1 = h.s.refs f := by unfold Pl.of; rw [if_pos ⟨by omega, by omega⟩, Int.toNat_natCast]
  have HOF : Hid (numT (h.s.of (x.m.lf p).fr).2.1 = numT (h.s.refs f)) := show _ = _ by rw [hfe, hof]
  rw [hof] at hrf
  have mr := r.ref.refs f hfn
  have hlm := (r.ftLt (Or.inr (Or.inl rfl)) : rm < w.heap.size)
  have HD2 : Hid _ := fun w => dec_any w (h.s.refs f) hrf.2.2.1 (by omega)
  have hs2 := numT_le (h.s.refs f) (by omega)
  rw [← TX_size] at hs2
  have hz2 : ¬ 9223372036854775807 < (TX (numT (x.m.st p))).size + 5 + (TX (numT (h.s.refs f))).size := by omega
  rw [HOF.out]
  clear hrg hrl hfe hof hrf HOF
  generalize h.s.refs f = rf at *
  have f0 : (0 : Int) ≤ (f : Int) := by omega
  have f1 : (f : Int) < 64 := by omega
  clear r hm
  generalize x.m.st p = st at *
  go_enter Tryz.func32, Tryz.ntmps32
  go_wp2_with (first
    | (go_at_call 39; refine Calls.mono (HO.out _) ?_; rintro e w2 ⟨rfl, hw2⟩; subst hw2))
  go_region_with (go_at_call 18; refine Calls.mono (HD.out _) ?_; rintro e w2 ⟨rfl, hu2⟩)
  have U2 : Upd (fun _ => False) w w2 := by first | exact ((Upd.refl _ w).alloc _).drew.trans hu2 (fun _ _ f => f) | exact ((Upd.refl _ w).alloc _).trans hu2 (fun _ _ f => f)
  have d2 := U2.cell m2 (fun f => f)
  have d3 := U2.cell m3 (fun f => f)
  have d4 := U2.cell m4 (fun f => f)
  have dr := U2.cell mr (fun f => f)
  have hlr := Nat.lt_of_lt_of_le hlm U2.size
  have hq : w2.cell? ⟨w.heap.size, 1, none⟩ = some (.int .i64 (p : Int)) := hu2.cell (by show (w.alloc _).cell? _ = _; rw [World.cell?_alloc_new]; rfl) (fun f => f)
  have HU2 : Hid _ := U2
  have hl2 : bx j < w2.heap.size := Nat.lt_of_lt_of_le hlt U2.size
  have hq2 : w.heap.size < w2.heap.size := World.block_lt_of_cell? w2 _ hq
  obtain ⟨y0, y1, y2, z0, z1, z2⟩ := box0 w2 92
  clear m1 m2 m3 m4 mr hu2 U2
  generalize w.heap.size = q at *
  go_wp2_with fail
  simp only [Act.put, List.setIfInBounds_toArray]
  go_region_with (fail)
  all_goals (
    clear y0 y1 y2 z0 z1 z2 d2 d3 d4
    have LX : LfAt (w2.alloc (.cells #[.bool true, .bool true, .int .i64 (f : Int)] 92)) w2.heap.size ⟨true, true, f⟩ := LfAt.new w2 92 ⟨true, true, f⟩
    have HU3 : Hid (Upd (fun _ => False) w (w2.alloc (.cells #[.bool true, .bool true, .int .i64 (f : Int)] 92))) := HU2.out.alloc _
    have er : (w2.alloc (.cells #[.bool true, .bool true, .int .i64 (f : Int)] 92)).cell? ⟨rm, 1025 + f, none⟩ = some (.int .i64 rf) := ((Upd.refl (fun _ => False) w2).alloc _).cell dr (fun f => f)
    clear dr hl2 hlr hq2 hq
    revert LX HU3 er
    generalize w2.alloc (.cells #[.bool true, .bool true, .int .i64 (f : Int)] 92) = w4
    generalize w2.heap.size = q2
    intro LX HU3 er
    have l0 := LX.c0
    have l1 := LX.c1
    have l2 := LX.c2
    simp only at l0 l1 l2
    clear LX
    go_wp2_with fail
    go_region_with (go_at_call 18; refine Calls.mono (HD2.out _) ?_; rintro e w5 ⟨rfl, hu5⟩)
    all_goals go_wp2_with fail
    all_goals go_ret
    all_goals have ud : Upd (fun _ => False) w4 w5 := (by first | exact (Upd.refl _ w4).drew.drew.trans hu5 (fun _ _ f => f) | exact (Upd.refl _ w4).drew.trans hu5 (fun _ _ f => f) | exact (Upd.refl _ w4).trans hu5 (fun _ _ f => f) | exact (Upd.refl _ w4).drew.drew.drew.trans hu5 (fun _ _ f => f))
    all_goals have d := (DM.more (DM.more (DM.refl HR.out) HU3.out) ud).fin (t := numT st ++ [32, 111, 119, 110, 32] ++ numT rf)
    all_goals rw [← TX_append, ← TX_append] at d
    all_goals exact d)
theorem say_page_sealed (r : RHo w rh rm base bx v h) (o : HOk h n k) (hx : h.g j = some x) (hj : j < 4) (a c : Int) {p : Nat} (hp : p < 16) (h1 : (x.m.lf p).there = true) (h2 : (x.m.lf p).wr = false) :
    Calls Tryz.prog 32 #[.pointer (some ⟨bx j, 0, none⟩), .string (TX kPage), .agg #[.int .i64 a, .int .i64 (p : Int), .int .i64 c], .pointer (some ⟨rm, 0, none⟩)] w (DP w rh rm base bx h (pageT h (j : Int) (p : Int), h)) := by
  have ht : (TX kPage).toList = [112, 97, 103, 101] := TX_toList _
  rw [page_on hx hj hp, if_pos h1, if_neg (by rw [h2]; decide)]
  have HR : Hid _ := r
  have hm := (r.gu j x hx).mp
  have m1 := hm.st p hp
  have m2 := hm.th p hp
  have m3 := hm.wr p hp
  have m4 := hm.fr p hp
  simp only at m1 m2 m3 m4
  have hlt := hm.lt
  have hst := ((o.inv.gi j x hx).2.pg p hp).1
  have HO : Hid _ := fun w => on_yes w hp
  have HD : Hid _ := fun w => dec_any w (x.m.st p) hst.1 (by omega)
  have hs1 := numT_le (x.m.st p) (by omega)
  rw [← TX_size] at hs1
  rw [h1] at m2
  rw [h2] at m3
  have p0 : (0 : Int) ≤ (p : Int) := by omega
  have p1 : (p : Int) < 16 := by omega
  have hz : ¬ 9223372036854775807 < (TX (numT (x.m.st p))).size + 8 := by omega
  have hrg := o.inv.cn.rng (16 * j + p) (by omega)
  have hrl : rowL h (16 * j + p) = x.m.lf p := by
    unfold rowL gLf
    rw [show (16 * j + p) / 16 = j by omega, show (16 * j + p) % 16 = p by omega, hx]
  rw [hrl] at hrg
  have hrg2 := hrg h1
  obtain ⟨f, hfe⟩ := Int.eq_ofNat_of_zero_le hrg2.1
  rw [hfe] at hrg2 m4
  have hfn : f < h.s.n := by omega
  have hle := r.ref.le
  have hrf := o.refs (x.m.lf p).fr
  rw [hfe] at hrf
  have hof : (h.s.of (f : Int)).2.1 = h.s.refs f := by unfold Pl.of; rw [if_pos ⟨by omega, by omega⟩, Int.toNat_natCast]
  have HOF : Hid (numT (h.s.of (x.m.lf p).fr).2.1 = numT (h.s.refs f)) := show _ = _ by rw [hfe, hof]
  rw [hof] at hrf
  have mr := r.ref.refs f hfn
  have hlm := (r.ftLt (Or.inr (Or.inl rfl)) : rm < w.heap.size)
  have HD2 : Hid _ := fun w => dec_any w (h.s.refs f) hrf.2.2.1 (by omega)
  have hs2 := numT_le (h.s.refs f) (by omega)
  rw [← TX_size] at hs2
  have hz2 : ¬ 9223372036854775807 < (TX (numT (x.m.st p))).size + 8 + (TX (numT (h.s.refs f))).size := by omega
  rw [HOF.out]
  clear hrg hrl hfe hof hrf HOF
  generalize h.s.refs f = rf at *
  have f0 : (0 : Int) ≤ (f : Int) := by omega
  have f1 : (f : Int) < 64 := by omega
  clear r hm
  generalize x.m.st p = st at *
  go_enter Tryz.func32, Tryz.ntmps32
  go_wp2_with (first
    | (go_at_call 39; refine Calls.mono (HO.out _) ?_; rintro e w2 ⟨rfl, hw2⟩; subst hw2))
  go_region_with (go_at_call 18; refine Calls.mono (HD.out _) ?_; rintro e w2 ⟨rfl, hu2⟩)
  have U2 : Upd (fun _ => False) w w2 := by first | exact ((Upd.refl _ w).alloc _).drew.trans hu2 (fun _ _ f => f) | exact ((Upd.refl _ w).alloc _).trans hu2 (fun _ _ f => f)
  have d2 := U2.cell m2 (fun f => f)
  have d3 := U2.cell m3 (fun f => f)
  have d4 := U2.cell m4 (fun f => f)
  have dr := U2.cell mr (fun f => f)
  have hlr := Nat.lt_of_lt_of_le hlm U2.size
  have hq : w2.cell? ⟨w.heap.size, 1, none⟩ = some (.int .i64 (p : Int)) := hu2.cell (by show (w.alloc _).cell? _ = _; rw [World.cell?_alloc_new]; rfl) (fun f => f)
  have HU2 : Hid _ := U2
  have hl2 : bx j < w2.heap.size := Nat.lt_of_lt_of_le hlt U2.size
  have hq2 : w.heap.size < w2.heap.size := World.block_lt_of_cell? w2 _ hq
  obtain ⟨y0, y1, y2, z0, z1, z2⟩ := box0 w2 92
  clear m1 m2 m3 m4 mr hu2 U2
  generalize w.heap.size = q at *
  go_wp2_with fail
  simp only [Act.put, List.setIfInBounds_toArray]
  go_region_with (fail)
  all_goals (
    clear y0 y1 y2 z0 z1 z2 d2 d3 d4
    have LX : LfAt (w2.alloc (.cells #[.bool true, .bool false, .int .i64 (f : Int)] 92)) w2.heap.size ⟨true, false, f⟩ := LfAt.new w2 92 ⟨true, false, f⟩
    have HU3 : Hid (Upd (fun _ => False) w (w2.alloc (.cells #[.bool true, .bool false, .int .i64 (f : Int)] 92))) := HU2.out.alloc _
    have er : (w2.alloc (.cells #[.bool true, .bool false, .int .i64 (f : Int)] 92)).cell? ⟨rm, 1025 + f, none⟩ = some (.int .i64 rf) := ((Upd.refl (fun _ => False) w2).alloc _).cell dr (fun f => f)
    clear dr hl2 hlr hq2 hq
    revert LX HU3 er
    generalize w2.alloc (.cells #[.bool true, .bool false, .int .i64 (f : Int)] 92) = w4
    generalize w2.heap.size = q2
    intro LX HU3 er
    have l0 := LX.c0
    have l1 := LX.c1
    have l2 := LX.c2
    simp only at l0 l1 l2
    clear LX
    go_wp2_with fail
    go_region_with (go_at_call 18; refine Calls.mono (HD2.out _) ?_; rintro e w5 ⟨rfl, hu5⟩)
    all_goals go_wp2_with fail
    all_goals go_ret
    all_goals have ud : Upd (fun _ => False) w4 w5 := (by first | exact (Upd.refl _ w4).drew.drew.trans hu5 (fun _ _ f => f) | exact (Upd.refl _ w4).drew.trans hu5 (fun _ _ f => f) | exact (Upd.refl _ w4).trans hu5 (fun _ _ f => f) | exact (Upd.refl _ w4).drew.drew.drew.trans hu5 (fun _ _ f => f))
    all_goals have d := (DM.more (DM.more (DM.refl HR.out) HU3.out) ud).fin (t := numT st ++ [32, 115, 101, 97, 108, 101, 100, 32] ++ numT rf)
    all_goals rw [← TX_append, ← TX_append] at d
    all_goals exact d)
end Go.Proofs.YtadpibcgjgcjhabGreatDoor
/- The document's Host.Say: lines that are none. -/
namespace Go.Proofs.YtadpibcgjgcjhabGreatDoor
open Go.ChangeShapes Go.WideShapes Go.ChangeAt Go.RowKit
set_option maxRecDepth 100000
attribute [local go_sem ↓] Go.wp_at_zero Go.wp_at_succ
variable {W w w1 w2 w3 w' : World} {rh rm base : Nat} {bx bx2 : Nat → Nat} {v v2 : Nat → Value} {h h2 : Hs} {x : Gs} {n k j : Nat}

theorem manyL_le (c : List UInt8) {m : Nat} (h : manyL c = some m) : m ≤ 3 := by
  unfold manyL at h
  by_cases eAdd : c = kAdd
  · rw [if_pos eAdd] at h; cases h; omega
  rw [if_neg eAdd] at h
  by_cases eScanall : c = kScanall
  · rw [if_pos eScanall] at h; cases h; omega
  rw [if_neg eScanall] at h
  by_cases eLeft : c = kLeft
  · rw [if_pos eLeft] at h; cases h; omega
  rw [if_neg eLeft] at h
  by_cases ePromised : c = kPromised
  · rw [if_pos ePromised] at h; cases h; omega
  rw [if_neg ePromised] at h
  by_cases eGuests : c = kGuests
  · rw [if_pos eGuests] at h; cases h; omega
  rw [if_neg eGuests] at h
  by_cases eRemove : c = kRemove
  · rw [if_pos eRemove] at h; cases h; omega
  rw [if_neg eRemove] at h
  by_cases eFrame : c = kFrame
  · rw [if_pos eFrame] at h; cases h; omega
  rw [if_neg eFrame] at h
  by_cases ePlug : c = kPlug
  · rw [if_pos ePlug] at h; cases h; omega
  rw [if_neg ePlug] at h
  by_cases eUnplug : c = kUnplug
  · rw [if_pos eUnplug] at h; cases h; omega
  rw [if_neg eUnplug] at h
  by_cases eGive : c = kGive
  · rw [if_pos eGive] at h; cases h; omega
  rw [if_neg eGive] at h
  by_cases eBack : c = kBack
  · rw [if_pos eBack] at h; cases h; omega
  rw [if_neg eBack] at h
  by_cases eLoad : c = kLoad
  · rw [if_pos eLoad] at h; cases h; omega
  rw [if_neg eLoad] at h
  by_cases eRoot : c = kRoot
  · rw [if_pos eRoot] at h; cases h; omega
  rw [if_neg eRoot] at h
  by_cases eForget : c = kForget
  · rw [if_pos eForget] at h; cases h; omega
  rw [if_neg eForget] at h
  by_cases eDrop : c = kDrop
  · rw [if_pos eDrop] at h; cases h; omega
  rw [if_neg eDrop] at h
  by_cases eScan : c = kScan
  · rw [if_pos eScan] at h; cases h; omega
  rw [if_neg eScan] at h
  by_cases ePage : c = kPage
  · rw [if_pos ePage] at h; cases h; omega
  rw [if_neg ePage] at h
  by_cases eStore : c = kStore
  · rw [if_pos eStore] at h; cases h; omega
  rw [if_neg eStore] at h
  cases h
theorem manyI_iff (c : List UInt8) (m : Nat) : manyI c = (m : Int) ↔ manyL c = some m := by
  unfold manyI
  cases manyL c with
  | none => simp only [reduceCtorEq]
  | some k => simp only [Option.some.injEq]; omega
/-- Words that a slice has. -/
theorem txs_get {l : List (List UInt8)} {i : Nat} (hi : i < l.length) : (txs l).getD i ByteArray.empty = TX (l.getD i []) := by
  unfold txs
  rw [List.getD_eq_getElem?_getD, List.getD_eq_getElem?_getD, List.getElem?_map, List.getElem?_eq_getElem hi]
  rfl
theorem say_bad1 (r : RHo w rh rm base bx v h) (s : ByteArray) (hs : s.size ≤ 300) (c : List UInt8) (args : List (List UInt8)) (hw : wordsL s.data.toList = c :: args) (hb : manyL c ≠ some args.length ∨ 200 < s.size) :
    Calls Tryz.prog 8 #[.pointer (some ⟨rh, 0, none⟩), .string s] w (DP w rh rm base bx h (errT 9, h)) := by
  have HR : Hid _ := r
  have HW : Hid _ := words_any w s hs
  rw [hw] at HW
  have HM : Hid (∀ w, Calls Tryz.prog 14 #[.string (TX c)] w fun e w' => e = .returned (.int .i64 (manyI c)) ∧ w' = w) := fun w => many_any w (TX c)
  have HF : Hid _ := fun w => fault_any w 9 (by omega) (by omega)
  have hlen := wordsL_length s.data.toList
  rw [hw] at hlen
  have hcl : s.data.toList.count 32 ≤ s.data.toList.length := List.count_le_length
  have hz : s.size = s.data.toList.length := (Array.length_toList (xs := s.data)).symm
  have hal : args.length ≤ 300 := by rw [List.length_cons] at hlen; omega
  have HD : Hid (manyI c ≠ (args.length : Int) ∨ 200 < s.size) := hb.imp (fun h e => h ((manyI_iff c _).1 e)) id
  clear r hw hb hlen hcl hz
  go_enter Tryz.func8, Tryz.ntmps8
  go_wp2_with fail
  refine Calls.mono HW.out ?_
  rintro e w2 ⟨v2, rfl, hs2, hu2⟩
  obtain ⟨a, cap, rfl, ht, hbs⟩ := hs2.txAt
  obtain ⟨g, o, rfl, hg, hc⟩ := ht 0 (by rw [txs_length]; simp)
  rw [txs_get (by simp), Nat.add_zero] at hc
  rw [txs_length]
  simp only [List.getD_cons_zero, List.length_cons] at hc ⊢
  have hI : ((manyI c) != (args.length : Int)) = true ∨ ((manyI c) != (args.length : Int)) = false ∧ decide (200 < (s.size : Int)) = true := by
    rcases HD.out with h | h
    · exact Or.inl (by simpa using h)
    · by_cases h2 : manyI c = args.length
      · exact Or.inr ⟨by simpa using h2, by simp; omega⟩
      · exact Or.inl (by simpa using h2)
  have HI : Hid _ := hI
  generalize manyI c = mi at *
  clear hs2 ht hbs HW hI
  have HU2 : Hid _ := hu2
  clear hu2
  rcases HI.out with hI | ⟨hI, hI2⟩
  · clear HI HD
    go_wp2_with (first
      | (go_at_call 14; refine Calls.mono (HM.out _) ?_; rintro e w3 ⟨rfl, hw3⟩; subst hw3)
      | (go_at_call 15; refine Calls.mono (HF.out _) ?_; rintro e w4 ⟨rfl, hu4⟩))
    go_ret
    exact (DM.more (DM.more (DM.refl HR.out) HU2.out) hu4).fin
  · clear HI HD
    go_wp2_with (first
      | (go_at_call 14; refine Calls.mono (HM.out _) ?_; rintro e w3 ⟨rfl, hw3⟩; subst hw3)
      | (go_at_call 15; refine Calls.mono (HF.out _) ?_; rintro e w4 ⟨rfl, hu4⟩))
    go_ret
    exact (DM.more (DM.more (DM.refl HR.out) HU2.out) hu4).fin
/-- The numbers so far, in their box. -/
structure NAt (w : World) (q : Nat) (ns : List Int) : Prop where
  c0 : w.cell? ⟨q, 0, none⟩ = some (.int .i64 (ns.getD 0 0))
  c1 : w.cell? ⟨q, 1, none⟩ = some (.int .i64 (ns.getD 1 0))
  c2 : w.cell? ⟨q, 2, none⟩ = some (.int .i64 (ns.getD 2 0))
  fz : ∀ o, w.frozen? ⟨q, o, none⟩ = false
theorem NAt.new (w : World) (t : TypeId) : NAt (w.alloc (.cells #[.int .i64 0, .int .i64 0, .int .i64 0] t)) w.heap.size [] :=
  ⟨by rw [World.cell?_alloc_new]; rfl, by rw [World.cell?_alloc_new]; rfl, by rw [World.cell?_alloc_new]; rfl, fun o => World.frozen?_alloc_new _ _ _ _⟩
theorem NAt.lt {q : Nat} {ns : List Int} (h : NAt w q ns) : q < w.heap.size := World.block_lt_of_cell? w _ h.c0
theorem NAt.upd {S : Nat → Prop} {q : Nat} {ns : List Int} (h : NAt w q ns) (u : Upd S w w') (hq : ¬ S q) : NAt w' q ns :=
  ⟨u.cell h.c0 hq, u.cell h.c1 hq, u.cell h.c2 hq, fun o => by rw [World.frozen?_of_block (w := w) (u.block q h.lt hq)]; exact h.fz o⟩
theorem NAt.put {q : Nat} {ns : List Int} (h : NAt w q ns) (x : Int) (hl : ns.length < 3) : NAt (w.setCell ⟨q, ns.length, none⟩ (.int .i64 x)) q (ns ++ [x]) := by
  have hne : ∀ i, i ≠ ns.length → (w.setCell ⟨q, ns.length, none⟩ (.int .i64 x)).cell? ⟨q, i, none⟩ = w.cell? ⟨q, i, none⟩ := fun i hi => World.cell?_setCell_other _ _ _ _ (addr_ne (Or.inr (by omega)))
  have hfz : ∀ o, (w.setCell ⟨q, ns.length, none⟩ (.int .i64 x)).frozen? ⟨q, o, none⟩ = false := fun o => by rw [World.frozen?_setCell]; exact h.fz o
  have hin : ∀ u, w.cell? ⟨q, ns.length, none⟩ = some u → (w.setCell ⟨q, ns.length, none⟩ (.int .i64 x)).cell? ⟨q, ns.length, none⟩ = some (.int .i64 x) := fun u hu => World.cell?_setCell_same _ _ _ hu
  match ns, hl, h, hne, hfz, hin with
  | [], _, h, hne, hfz, hin => exact ⟨hin _ h.c0, (hne 1 (by simp)).trans h.c1, (hne 2 (by simp)).trans h.c2, hfz⟩
  | [a], _, h, hne, hfz, hin => exact ⟨(hne 0 (by simp)).trans h.c0, hin _ h.c1, (hne 2 (by simp)).trans h.c2, hfz⟩
  | [a, b], _, h, hne, hfz, hin => exact ⟨(hne 0 (by simp)).trans h.c0, (hne 1 (by simp)).trans h.c1, hin _ h.c2, hfz⟩
/-- How far the numbers are read. -/
structure RdAt (args : List (List UInt8)) (k : Nat) (ns : List Int) : Prop where
  le : k ≤ args.length
  ok : (args.take k).mapM numW = some ns
theorem RdAt.start (args : List (List UInt8)) : RdAt args 0 [] := ⟨Nat.zero_le _, rfl⟩
theorem mapM_length {l : List (List UInt8)} : ∀ {ns : List Int}, l.mapM numW = some ns → ns.length = l.length := by
  induction l with
  | nil => intro ns h; cases h; rfl
  | cons a l ih =>
    intro ns h
    simp only [List.mapM_cons, Option.bind_eq_bind, Option.bind_eq_some_iff, Option.pure_def, Option.some.injEq] at h
    obtain ⟨x, _, r, hr, rfl⟩ := h
    simp [ih hr]
theorem mapM_snoc (l : List (List UInt8)) (a : List UInt8) : (l ++ [a]).mapM numW = (l.mapM numW).bind fun ns => (numW a).map fun x => ns ++ [x] := by
  induction l with
  | nil => simp [List.mapM_cons]; cases numW a <;> rfl
  | cons b l ih =>
    rw [List.cons_append, List.mapM_cons, List.mapM_cons, ih]
    cases numW b with
    | none => rfl
    | some y =>
      cases l.mapM numW with
      | none => rfl
      | some ns => cases numW a <;> rfl
theorem RdAt.len {args : List (List UInt8)} {k : Nat} {ns : List Int} (h : RdAt args k ns) : ns.length = k := by
  rw [mapM_length h.ok, List.length_take]
  have := h.le
  omega
theorem take_nextL {args : List (List UInt8)} {k : Nat} (hk : k < args.length) : args.take (k + 1) = args.take k ++ [args.getD k []] := by
  rw [List.take_add_one, List.getElem?_eq_getElem hk]
  simp [List.getD_eq_getElem?_getD, List.getElem?_eq_getElem hk]
theorem RdAt.next {args : List (List UInt8)} {k : Nat} {ns : List Int} {x : Int} (h : RdAt args k ns) (hk : k < args.length) (hx : numW (args.getD k []) = some x) : RdAt args (k + 1) (ns ++ [x]) :=
  ⟨hk, by rw [take_nextL hk, mapM_snoc, h.ok, hx]; rfl⟩
theorem read_bad {args : List (List UInt8)} {k : Nat} (hk : k < args.length) (hx : numW (args.getD k []) = none) : args.mapM numW = none := by
  have e : args = args.take k ++ args.getD k [] :: args.drop (k + 1) := by
    rw [List.getD_eq_getElem?_getD, List.getElem?_eq_getElem hk]
    simp
  have H : ∀ l : List (List UInt8), ∀ a r, numW a = none → (l ++ a :: r).mapM numW = none := by
    intro l a r ha
    induction l with
    | nil => simp [List.mapM_cons, ha]
    | cons b l ih =>
      rw [List.cons_append, List.mapM_cons, ih]
      cases numW b <;> rfl
  rw [e]
  exact H _ _ _ hx
theorem RdAt.fin {args : List (List UInt8)} {ns ms : List Int} (h : RdAt args args.length ns) (hm : args.mapM numW = some ms) : ns = ms := by
  have := h.ok
  rw [List.take_length, hm] at this
  cases this
  rfl
theorem words_len : ∀ (l x : List UInt8), x ∈ wordsL l → x.length ≤ l.length
  | [], x, h => by
    simp [wordsL] at h
    rw [h]
    exact Nat.le_refl _
  | b :: l, x, h => by
    have ih := words_len l
    unfold wordsL at h
    split at h
    · rcases List.mem_cons.1 h with e | e
      · rw [e]; simp
      · have := ih x e
        simp only [List.length_cons]
        omega
    · cases hw : wordsL l with
      | nil => exact absurd hw (wordsL_ne l)
      | cons y r =>
        rw [hw] at h ih
        rcases List.mem_cons.1 h with e | e
        · have := ih y (List.mem_cons_self)
          rw [e]
          simp only [List.length_append, List.length_cons, List.length_nil]
          omega
        · have := ih x (List.mem_cons_of_mem _ e)
          simp only [List.length_cons]
          omega
theorem NAt.at {q k : Nat} {ns : List Int} (h : NAt w q ns) (hk : k < 3) : w.cell? ⟨q, k, none⟩ = some (.int .i64 (ns.getD k 0)) := by
  have : k = 0 ∨ k = 1 ∨ k = 2 := by omega
  rcases this with rfl | rfl | rfl
  · exact h.c0
  · exact h.c1
  · exact h.c2
theorem say_bad2 (r : RHo w rh rm base bx v h) (s : ByteArray) (hs : s.size ≤ 200) (c : List UInt8) (args : List (List UInt8)) (hw : wordsL s.data.toList = c :: args) (hb : manyL c = some args.length) (hn : args.mapM numW = none) :
    Calls Tryz.prog 8 #[.pointer (some ⟨rh, 0, none⟩), .string s] w (DP w rh rm base bx h (errT 9, h)) := by
  have HR : Hid _ := r
  have HW : Hid _ := words_any w s (by omega)
  rw [hw] at HW
  have h3 := manyL_le c hb
  have HM : Hid (∀ w, Calls Tryz.prog 14 #[.string (TX c)] w fun e w' => e = .returned (.int .i64 (args.length : Int)) ∧ w' = w) := fun w => by
    have := many_any w (TX c)
    rw [show manyI (TX c).data.toList = (args.length : Int) from (manyI_iff c _).2 hb] at this
    exact this
  have HF : Hid _ := fun w => fault_any w 9 (by omega) (by omega)
  have HN : Hid _ := hn
  have hz : s.size = s.data.toList.length := (Array.length_toList (xs := s.data)).symm
  have HA : Hid (∀ i, i < args.length → (TX (args.getD i [])).size ≤ 300) := fun i hi => by
    have := words_len s.data.toList (args.getD i []) (by rw [hw, List.getD_eq_getElem?_getD, List.getElem?_eq_getElem hi]; exact List.mem_cons_of_mem _ (List.getElem_mem hi))
    rw [TX_size]
    omega
  clear r hw hb hn hz
  have hI : ((args.length : Int) != (args.length : Int)) = false := by simp
  have hI2 : decide (200 < (s.size : Int)) = false := by simp; omega
  go_enter Tryz.func8, Tryz.ntmps8
  go_wp2_with fail
  refine Calls.mono HW.out ?_
  rintro e w2 ⟨v2, rfl, hs2, hu2⟩
  obtain ⟨a, cap, rfl, ht, hbs⟩ := hs2.txAt
  obtain ⟨g, o, rfl, hg, hc⟩ := ht 0 (by rw [txs_length]; simp)
  rw [txs_get (by simp), Nat.add_zero] at hc
  rw [txs_length]
  simp only [List.getD_cons_zero, List.length_cons] at hc ⊢
  have HT : Hid (TxAt w2 (some ⟨g, o, none⟩) (txs (c :: args))) := ht
  have HU2 : Hid _ := hu2
  clear hs2 ht hbs HW hu2
  go_wp2_with (first
    | (go_at_call 14; refine Calls.mono (HM.out _) ?_; rintro e w3 ⟨rfl, hw3⟩; subst hw3))
  have N0 : NAt (w3.alloc (.cells #[.int .i64 0, .int .i64 0, .int .i64 0] 56)) w3.heap.size [] := NAt.new w3 _
  have HU3 : Hid (Upd (fun _ => False) w (w3.alloc (.cells #[.int .i64 0, .int .i64 0, .int .i64 0] 56))) := HU2.out.alloc _
  have HT3 : Hid (TxAt (w3.alloc (.cells #[.int .i64 0, .int .i64 0, .int .i64 0] 56)) (some ⟨g, o, none⟩) (txs (c :: args))) := HT.out.upd ((Upd.refl (fun _ => False) w3).alloc _) (fun _ _ _ f => f)
  have hqg : g < w3.heap.size := hg
  have HQW : Hid (w.heap.size ≤ w3.heap.size) := HU2.out.size
  have HN0 : Hid _ := N0
  clear HT hc hg N0
  revert HN0 HU3 HT3
  generalize w3.alloc (.cells #[.int .i64 0, .int .i64 0, .int .i64 0] 56) = wb
  generalize w3.heap.size = q at *
  intro HU3 HT3 HN0
  go_loopg [7] args.length (fun gk iv wr => ∃ (k : Nat) (ns : List Int), k + gk = args.length ∧ iv = .int .i64 ((k : Int) + 1) ∧ Hid (RdAt args k ns) ∧ Hid (NAt wr q ns) ∧ Hid (TxAt wr (some ⟨g, o, none⟩) (txs (c :: args))) ∧ Hid (Upd (fun _ => False) w wr))
  case atStart => exact ⟨0, [], by omega, by rfl, RdAt.start _, HN0.out, HT3.out, HU3.out⟩
  case round =>
    clear HN0 HU3 HT3
    obtain ⟨k, ns, hk, rfl, HD, HQ, HT, HU⟩ := hrel
    have HK : Hid _ := hk
    clear hk
    by_cases hlt : k < args.length
    · obtain ⟨g', o', e, _, hc⟩ := HT.out (k + 1) (by rw [txs_length]; simp; exact hlt)
      cases e
      rw [txs_get (by simp; exact hlt), List.getD_cons_succ] at hc
      have HFI : Hid _ := fun w => figures_any w (TX (args.getD k [])) (HA.out k hlt)
      cases hx : numW (args.getD k []) with
      | none =>
        have HX : Hid (numW (TX (args.getD k [])).data.toList = none) := hx
        clear hx
        generalize TX (args.getD k []) = word at *
        go_wp2_with (first
          | (go_at_call 16; refine Calls.mono (HFI.out _) ?_; rintro e w4 ⟨⟨x, ok, rfl, _, hok⟩, hu4⟩; have hok := hok HX.out; subst hok)
          | (go_at_call 15; refine Calls.mono (HF.out _) ?_; rintro e w5 ⟨rfl, hu5⟩))
        go_ret
        exact (DM.more (DM.more (DM.more (DM.refl HR.out) HU.out) hu4) hu5).fin
      | some y =>
        have HX : Hid (numW (TX (args.getD k [])).data.toList = some y) := hx
        have HD2 : Hid _ := HD.out.next hlt hx
        have hnl := HD.out.len
        clear hx
        generalize TX (args.getD k []) = word at *
        go_wp2_with fail
        refine Calls.mono (HFI.out _) ?_
        rintro e w4 ⟨⟨x, ok, rfl, hok, _⟩, hu4⟩
        obtain ⟨rfl, rfl⟩ := hok _ HX.out
        have HQ4 : Hid (NAt w4 q ns) := HQ.out.upd hu4 (fun f => f)
        have hck := HQ4.out.at (k := k) (by omega)
        have hfz := HQ4.out.fz k
        have HP : Hid (NAt (w4.setCell ⟨q, k, none⟩ (.int .i64 x)) q (ns ++ [x])) := by
          have := HQ4.out.put x (by omega)
          rw [hnl] at this
          exact this
        have HU4 : Hid (Upd (fun _ => False) w (w4.setCell ⟨q, k, none⟩ (.int .i64 x))) := (HU.out.trans hu4 (fun _ _ f => f)).setCell _ (fun e => by have := HQW.out; simp only at e; omega) _
        have HT4 : Hid (TxAt (w4.setCell ⟨q, k, none⟩ (.int .i64 x)) (some ⟨g, o, none⟩) (txs (c :: args))) := (HT.out.upd hu4 (fun _ _ _ f => f)).upd (Upd.one w4 q k (.int .i64 x)) (fun g' o' e => by cases e; omega)
        clear hu4 hc
        go_wp2_with fail
        go_roundg (args.length - (k + 1))
        case rel => exact ⟨k + 1, ns ++ [x], by omega, by go_num, HD2.out, HP.out, HT4.out, HU4.out⟩
        case measure => have := HK.out; omega
    · exact absurd HN.out (by
        have := HD.out.ok
        have e : k = args.length := by have := HK.out; omega
        rw [e, List.take_length] at this
        rw [this]
        simp)
end Go.Proofs.YtadpibcgjgcjhabGreatDoor
