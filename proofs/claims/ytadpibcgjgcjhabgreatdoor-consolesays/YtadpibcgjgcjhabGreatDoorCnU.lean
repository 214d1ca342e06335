/- The console: refusal, counted, guests, frame, store. -/
import Derived.Test.YtadpibcgjgcjhabGreatDoorCnT
import Derived.Test.YtadpibcgjgcjhabGreatDoorCnO
namespace Go.Proofs.YtadpibcgjgcjhabGreatDoor
open Go.ChangeShapes Go.WideShapes Go.ChangeAt Go.RowKit
set_option maxRecDepth 100000
attribute [local go_sem ↓] Go.wp_at_zero Go.wp_at_succ
variable {W w w1 w2 w3 w' : World} {bh bp bf : Nat} {G G' : Nat → G3} {h h2 : Hs} {n k : Nat}

theorem told_one (w : World) (ht : Tab w) (x : Int) (h0 : 0 ≤ x) (h1 : x ≤ 1000000) : Calls Tryz.prog 51 #[.slice (some ⟨w.heap.size, 0, none⟩) 1 1] (w.alloc (.cells #[.int .i64 x] 3)) fun e w' => e = .returned (.string (TX (numT x))) ∧ Upd (fun _ => False) w w' := by
  have := told_any (w.alloc (.cells #[.int .i64 x] 3)) (ht.upd ((Upd.refl _ _).alloc _)) (some ⟨w.heap.size, 0, none⟩) 1 [x] (fun i hi => ⟨_, rfl, by
    have : i = 0 := by simp at hi; omega
    subst this
    rw [World.cell?_alloc_new]
    rfl⟩) (by simp) (fun y hy => by simp at hy; subst hy; exact ⟨h0, h1⟩)
  rw [listT_one] at this
  exact this.mono fun _ _ ⟨he, hu⟩ => ⟨he, ((Upd.refl _ _).alloc _).trans hu (fun _ _ f => f)⟩
theorem refusal_any (w : World) (ht : Tab w) (e : Int) (h0 : 0 < e) (h1 : e ≤ 9) : Calls Tryz.prog 35 #[errV e] w fun r w' => r = .returned (.string (TX (errT e))) ∧ Upd (fun _ => False) w w' := by
  rw [errV_no (by omega)]
  have HT : Hid _ := fun w1 (u : Upd (fun _ => False) w w1) => told_one w1 (ht.upd u) e (by omega) (by omega)
  have hsz : ¬ 9223372036854775807 < 6 + (TX (numT e)).size := by
    have := numT_le e (by omega)
    rw [TX_size]
    omega
  have ha := assert61 w
  clear ht
  go_enter Tryz.func35, Tryz.ntmps35
  go_wp2_with (go_at_call 51; refine Calls.mono (HT.out _ (Upd.refl _ _)) ?_; rintro e w2 ⟨rfl, hu2⟩)
  go_ret
  exact ⟨by unfold errT; rw [← TX_append]; rfl, hu2⟩
theorem counted_int (w : World) (ht : Tab w) (x : Int) (h0 : 0 ≤ x) (h1 : x ≤ 1000000) (e : Int) : Calls Tryz.prog 52 #[.int .i64 x, errV e] w fun r w' => r = .returned (.tuple #[.string (TX (numT x)), errV e]) ∧ Upd (fun _ => False) w w' := by
  have HT : Hid _ := fun w1 (u : Upd (fun _ => False) w w1) => told_one w1 (ht.upd u) x h0 h1
  clear ht
  generalize errV e = ev
  go_enter Tryz.func52, Tryz.ntmps52
  go_wp2_with (go_at_call 51; refine Calls.mono (HT.out _ (Upd.refl _ _)) ?_; rintro e w2 ⟨rfl, hu2⟩)
  go_ret2
  exact ⟨rfl, hu2⟩
theorem counted_byte (w : World) (ht : Tab w) (x : Int) (h0 : 0 ≤ x) (h1 : x ≤ 255) (e : Int) : Calls Tryz.prog 54 #[.int .u8 x, errV e] w fun r w' => r = .returned (.tuple #[.string (TX (numT x)), errV e]) ∧ Upd (fun _ => False) w w' := by
  have HT : Hid _ := fun w1 (u : Upd (fun _ => False) w w1) => told_one w1 (ht.upd u) x h0 (by omega)
  clear ht
  have hw : IntKind.i64.wrap x = x := by rw [IntKind.wrap_i64]; omega
  generalize errV e = ev
  go_enter Tryz.func54, Tryz.ntmps54
  go_wp2_with (go_at_call 51; refine Calls.mono (HT.out _ (Upd.refl _ _)) ?_; rintro e w2 ⟨rfl, hu2⟩)
  go_ret2
  exact ⟨rfl, hu2⟩
/-- The host has acted. -/
structure PM (w w2 : World) (bh bp bf : Nat) (G : Nat → G3) (h h2 : Hs) : Prop where
  ex : ∃ G', HM w2 bh bp bf G' h2 ∧ ∀ j, Own bh bp bf G' h2 j → Own bh bp bf G h j ∨ w.heap.size ≤ j
  up : Upd (Own bh bp bf G h) w w2
theorem PM.refl (m : HM w bh bp bf G h) : PM w w bh bp bf G h h := ⟨⟨G, m, fun _ hj => Or.inl hj⟩, Upd.refl _ _⟩
theorem PM.more (d : PM w w2 bh bp bf G h h2) (u : Upd (fun _ => False) w2 w3) : PM w w3 bh bp bf G h h2 := by
  obtain ⟨G', r, hj⟩ := d.ex
  exact ⟨⟨G', r.same u, hj⟩, d.up.trans u (fun _ _ f => f.elim)⟩
theorem PM.fore (u : Upd (fun _ => False) w w1) (d : PM w1 w2 bh bp bf G h h2) : PM w w2 bh bp bf G h h2 := by
  obtain ⟨G', r, hj⟩ := d.ex
  have := u.size
  exact ⟨⟨G', r, fun j h => (hj j h).imp id (fun e => by omega)⟩, (MRead.no _ u).trans d.up (fun _ _ f => f)⟩
theorem pm_of {f : Nat} {av : Array Value} {r : Int × Hs} (ho : ∀ j, Own bh bp bf G r.2 j → Own bh bp bf G h j) (hc : Calls Tryz.prog f av w (MPost w bh bp bf G h r)) :
    Calls Tryz.prog f av w fun e w2 => e = .returned (errV r.1) ∧ PM w w2 bh bp bf G h r.2 :=
  hc.mono fun _ _ ⟨he, hm, hu⟩ => ⟨he, ⟨⟨G, hm, fun j hj => Or.inl (ho j hj)⟩, hu⟩⟩
theorem pm_read {f : Nat} {av : Array Value} {x : Value} (m : HM w bh bp bf G h) (hc : Calls Tryz.prog f av w (MRead w x)) :
    Calls Tryz.prog f av w fun e w2 => e = .returned x ∧ PM w w2 bh bp bf G h h :=
  hc.mono fun _ _ ⟨he, hu⟩ => ⟨he, (PM.refl m).more hu⟩
theorem pm_remove (m : HM w bh bp bf G h) (o : HOk h n k) (_hk : k ≤ 1000) (a : Int) : Calls Tryz.prog 89 #[.pointer (some ⟨bh, 0, none⟩), .int .i64 a] w fun e w2 => e = .returned (errV (hRemove h a).1) ∧ PM w w2 bh bp bf G h (hRemove h a).2 := by
  obtain ⟨⟨t, F, hf⟩, _⟩ := o
  exact pm_of (fun j hj => own_remove hj) (hRemove_m m hf.hr.inv a)
theorem pm_plug (m : HM w bh bp bf G h) (o : HOk h n k) (_hk : k ≤ 1000) (a b : Int) : Calls Tryz.prog 90 #[.pointer (some ⟨bh, 0, none⟩), .int .i64 a, .int .i64 b] w fun e w2 => e = .returned (errV (hPlug h a b).1) ∧ PM w w2 bh bp bf G h (hPlug h a b).2 := by
  obtain ⟨⟨t, F, hf⟩, _⟩ := o
  exact pm_of (fun j hj => own_plug hj) (hPlug_m m hf.hr.inv hf.blk a b)
theorem pm_unplug (m : HM w bh bp bf G h) (o : HOk h n k) (_hk : k ≤ 1000) (a b : Int) : Calls Tryz.prog 91 #[.pointer (some ⟨bh, 0, none⟩), .int .i64 a, .int .i64 b] w fun e w2 => e = .returned (errV (hUnplug h a b).1) ∧ PM w w2 bh bp bf G h (hUnplug h a b).2 := by
  obtain ⟨⟨t, F, hf⟩, _⟩ := o
  exact pm_of (fun j hj => own_unplug hj) (hUnplug_m m hf.hr.inv a b)
theorem pm_give (m : HM w bh bp bf G h) (o : HOk h n k) (_hk : k ≤ 1000) (a b : Int) : Calls Tryz.prog 92 #[.pointer (some ⟨bh, 0, none⟩), .int .i64 a, .int .i64 b] w fun e w2 => e = .returned (errV (hGive h a b false).1) ∧ PM w w2 bh bp bf G h (hGive h a b false).2 := by
  obtain ⟨⟨t, F, hf⟩, _⟩ := o
  exact by rw [give_false]; exact pm_of (fun j hj => own_act hj) (hGive_m m hf.hr.inv a b)
theorem pm_back (m : HM w bh bp bf G h) (o : HOk h n k) (_hk : k ≤ 1000) (a b : Int) : Calls Tryz.prog 93 #[.pointer (some ⟨bh, 0, none⟩), .int .i64 a, .int .i64 b] w fun e w2 => e = .returned (errV (hGive h a b true).1) ∧ PM w w2 bh bp bf G h (hGive h a b true).2 := by
  obtain ⟨⟨t, F, hf⟩, _⟩ := o
  exact pm_of (fun j hj => own_give hj) (hBack_m m hf.hr.inv hf.hr.le a b)
theorem pm_store (m : HM w bh bp bf G h) (o : HOk h n k) (_hk : k ≤ 1000) (a b v : Int) (v0 : 0 ≤ v) (v1 : v ≤ 255) : Calls Tryz.prog 126 #[.pointer (some ⟨bh, 0, none⟩), .int .i64 a, .int .i64 b, .int .u8 v] w fun e w2 => e = .returned (errV (hStore h a b v).1) ∧ PM w w2 bh bp bf G h (hStore h a b v).2 := by
  obtain ⟨⟨t, F, hf⟩, _⟩ := o
  exact pm_of (fun j hj => own_act hj) (hStore_m m hf.hr.inv a b v v0 v1 (by omega))
theorem pm_root (m : HM w bh bp bf G h) (o : HOk h n k) (_hk : k ≤ 1000) (a b : Int) : Calls Tryz.prog 95 #[.pointer (some ⟨bh, 0, none⟩), .int .i64 a, .int .i64 b] w fun e w2 => e = .returned (errV (hRoot h a b).1) ∧ PM w w2 bh bp bf G h (hRoot h a b).2 := by
  obtain ⟨⟨t, F, hf⟩, _⟩ := o
  exact pm_of (fun j hj => own_act hj) (hSetRoot_m m hf.hr.inv a b)
theorem pm_forget (m : HM w bh bp bf G h) (o : HOk h n k) (_hk : k ≤ 1000) (a b : Int) : Calls Tryz.prog 96 #[.pointer (some ⟨bh, 0, none⟩), .int .i64 a, .int .i64 b] w fun e w2 => e = .returned (errV (hForget h a b).1) ∧ PM w w2 bh bp bf G h (hForget h a b).2 := by
  obtain ⟨⟨t, F, hf⟩, _⟩ := o
  exact pm_of (fun j hj => own_act hj) (hForget_m m hf.hr.inv a b)
theorem pm_drop (m : HM w bh bp bf G h) (o : HOk h n k) (_hk : k ≤ 1000) (a b : Int) : Calls Tryz.prog 97 #[.pointer (some ⟨bh, 0, none⟩), .int .i64 a, .int .i64 b] w fun e w2 => e = .returned (errV (hDrop h a b).1) ∧ PM w w2 bh bp bf G h (hDrop h a b).2 := by
  obtain ⟨⟨t, F, hf⟩, _⟩ := o
  exact pm_of (fun j hj => own_act hj) (hForgetAll_m m hf.hr.inv a b)
theorem pm_add (m : HM w bh bp bf G h) : Calls Tryz.prog 53 #[.pointer (some ⟨bh, 0, none⟩)] w fun e w2 => e = .returned (.tuple #[.int .i64 (hAdd h).1.1, errV (hAdd h).1.2]) ∧ PM w w2 bh bp bf G h (hAdd h).2 :=
  (hAdd_m m).mono fun _ _ ⟨he, hm, hu⟩ => ⟨he, ⟨hm, hu⟩⟩
theorem pm_load (m : HM w bh bp bf G h) (o : HOk h n k) (_hk : k ≤ 1000) (a b : Int) : Calls Tryz.prog 55 #[.pointer (some ⟨bh, 0, none⟩), .int .i64 a, .int .i64 b] w fun e w2 => e = .returned (.tuple #[.int .u8 (hLoad h a b).1.1, errV (hLoad h a b).1.2]) ∧ PM w w2 bh bp bf G h (hLoad h a b).2 := by
  obtain ⟨⟨t, F, hf⟩, _⟩ := o
  exact (hLoad_m m hf.hr.inv a b (by omega)).mono fun _ _ ⟨he, hm, hu⟩ => ⟨he, ⟨⟨G, hm, fun j hj => Or.inl (own_load hj)⟩, hu⟩⟩
theorem pm_scan (m : HM w bh bp bf G h) (o : HOk h n k) (a b : Int) : Calls Tryz.prog 59 #[.pointer (some ⟨bh, 0, none⟩), .int .i64 a, .int .i64 b] w fun e w2 => e = .returned (.tuple #[.bool (hScan h a b).1.1, errV (hScan h a b).1.2]) ∧ PM w w2 bh bp bf G h (hScan h a b).2 := by
  obtain ⟨⟨t, F, hf⟩, _⟩ := o
  exact (hScan_m m hf a b).mono fun _ _ ⟨he, hm, hu⟩ => ⟨he, ⟨⟨G, hm, fun j hj => Or.inl (own_scan hf hj)⟩, hu⟩⟩
theorem pm_scanall (m : HM w bh bp bf G h) (o : HOk h n k) : Calls Tryz.prog 56 #[.pointer (some ⟨bh, 0, none⟩)] w fun e w2 => e = .returned (.int .i64 (hScanTo h 64).1) ∧ PM w w2 bh bp bf G h (hScanTo h 64).2 := by
  obtain ⟨⟨t, F, hf⟩, _⟩ := o
  exact (hScanAll_m m hf).mono fun _ _ ⟨he, hm, hu⟩ => ⟨he, ⟨⟨G, hm, fun j hj => Or.inl (own_of (hf.scans 64 (Nat.le_refl _)).2.2.2.1 hj)⟩, hu⟩⟩
theorem pm_promised (m : HM w bh bp bf G h) (o : HOk h n k) : Calls Tryz.prog 58 #[.pointer (some ⟨bh, 0, none⟩)] w fun e w2 => e = .returned (.int .i64 ((pln (rowS h) 64 : Nat) : Int)) ∧ PM w w2 bh bp bf G h h := pm_read m (hPromised_any m o.inv)
theorem pm_left (m : HM w bh bp bf G h) : Calls Tryz.prog 57 #[.pointer (some ⟨bh, 0, none⟩)] w fun e w2 => e = .returned (.int .i64 (h.s.left : Int)) ∧ PM w w2 bh bp bf G h h := pm_read m (hLeft_any m)
end Go.Proofs.YtadpibcgjgcjhabGreatDoor
