/- The tops' did: an act on a host. -/
import Derived.Test.YtadpibcgjgcjhabGreatPart17
import Derived.Test.YtadpibcgjgcjhabGreatPart14
import Derived.Test.YtadpibcgjgcjhabGreatPart09
namespace Go.Proofs.YtadpibcgjgcjhabGreat
open Go.ChangeShapes Go.WideShapes Go.ChangeAt Go.RowKit
set_option maxRecDepth 100000
attribute [local go_sem ↓] Go.wp_at_zero Go.wp_at_succ
variable {w w' : World} {bh bp bf : Nat} {G G' : Nat → G3} {h h' : Hs} {W : Int} {t : Nat → Nat → Int} {F : Nat → Option Fl}

/-- An act on a host, plainly: a number, an error. -/
def hDid (h : Hs) (x : Ac) : (Int × Int) × Hs :=
  if (x.kind.toList == [97, 100, 100]) = true then hAdd h else
  if (x.kind.toList == [114, 101, 109, 111, 118, 101]) = true then ((0, (hRemove h x.n).1), (hRemove h x.n).2) else
  if (x.kind.toList == [112, 108, 117, 103]) = true then ((0, (hPlug h x.n x.a).1), (hPlug h x.n x.a).2) else
  if (x.kind.toList == [117, 110, 112, 108, 117, 103]) = true then ((0, (hUnplug h x.n x.a).1), (hUnplug h x.n x.a).2) else
  if (x.kind.toList == [103, 105, 118, 101]) = true then ((0, (hGive h x.n x.a false).1), (hGive h x.n x.a false).2) else
  if (x.kind.toList == [98, 97, 99, 107]) = true then ((0, (hGive h x.n x.a true).1), (hGive h x.n x.a true).2) else
  if (x.kind.toList == [108, 111, 97, 100]) = true then hLoad h x.n x.a else
  if (x.kind.toList == [115, 116, 111, 114, 101]) = true then ((0, (hStore h x.n x.a x.v).1), (hStore h x.n x.a x.v).2) else
  if (x.kind.toList == [114, 111, 111, 116]) = true then ((0, (hRoot h x.n x.a).1), (hRoot h x.n x.a).2) else
  if (x.kind.toList == [102, 111, 114, 103, 101, 116]) = true then ((0, (hForget h x.n x.a).1), (hForget h x.n x.a).2) else
  if (x.kind.toList == [100, 114, 111, 112]) = true then ((0, (hDrop h x.n x.a).1), (hDrop h x.n x.a).2) else
  if (x.kind.toList == [115, 99, 97, 110]) = true then ((0, (hScan h x.n x.a).1.2), (hScan h x.n x.a).2) else
  if (x.kind.toList == [115, 99, 97, 110, 97, 108, 108]) = true then ((0, 0), (hScanTo h 64).2) else
  ((0, 0), h)
theorem give_false (h : Hs) (n p : Int) : hGive h n p false = hAct h n fun s x => gGive s x p false := by
  unfold hGive hAct
  simp only [Bool.false_and, Bool.false_eq_true, false_and, if_false]
theorem load_le {s : Pl} {x : Gs} (a : Int) : 0 ≤ (gLoad s x a).1.2 := by
  have := at_code s x a false
  unfold gLoad
  split <;> simp only <;> omega
theorem act_le {n : Int} {r : Pl → Gs → Int × Pl × Gs} (hr : ∀ s x, 0 ≤ (r s x).1) : 0 ≤ (hAct h n r).1 := by
  have := hWho_le (h := h) n
  unfold hAct
  split
  · exact this
  · exact hr _ _
theorem hLoad_val (hf : HF h t F W) (n a : Int) : 0 ≤ (hLoad h n a).1.1 ∧ (hLoad h n a).1.1 ≤ 255 := by
  unfold hLoad
  split
  · simp
  · next h0 =>
    obtain ⟨k, x, rfl, _, hx, hat⟩ := hWho_zero (show hWho h n = 0 by have := hWho_le (h := h) n; omega)
    obtain ⟨f, hq, _⟩ := hf.view hx
    have hb := (hf.load hx hq a).2.hr.inv.byt
    have hb : BytOk (gLoad h.s x a).2.1 := hb
    rw [hat]
    unfold gLoad at hb ⊢
    split
    · simp
    · next e =>
      rw [if_neg e] at hb
      exact hb _ _
theorem hDid_cases {P : (Int × Int) × Hs → Prop} (x : Ac) (h0 : (x.kind.toList == [97, 100, 100]) = true → P (hAdd h)) (h1 : (x.kind.toList == [114, 101, 109, 111, 118, 101]) = true → P (((0, (hRemove h x.n).1), (hRemove h x.n).2))) (h2 : (x.kind.toList == [112, 108, 117, 103]) = true → P (((0, (hPlug h x.n x.a).1), (hPlug h x.n x.a).2))) (h3 : (x.kind.toList == [117, 110, 112, 108, 117, 103]) = true → P (((0, (hUnplug h x.n x.a).1), (hUnplug h x.n x.a).2))) (h4 : (x.kind.toList == [103, 105, 118, 101]) = true → P (((0, (hGive h x.n x.a false).1), (hGive h x.n x.a false).2))) (h5 : (x.kind.toList == [98, 97, 99, 107]) = true → P (((0, (hGive h x.n x.a true).1), (hGive h x.n x.a true).2))) (h6 : (x.kind.toList == [108, 111, 97, 100]) = true → P (hLoad h x.n x.a)) (h7 : (x.kind.toList == [115, 116, 111, 114, 101]) = true → P (((0, (hStore h x.n x.a x.v).1), (hStore h x.n x.a x.v).2))) (h8 : (x.kind.toList == [114, 111, 111, 116]) = true → P (((0, (hRoot h x.n x.a).1), (hRoot h x.n x.a).2))) (h9 : (x.kind.toList == [102, 111, 114, 103, 101, 116]) = true → P (((0, (hForget h x.n x.a).1), (hForget h x.n x.a).2))) (h10 : (x.kind.toList == [100, 114, 111, 112]) = true → P (((0, (hDrop h x.n x.a).1), (hDrop h x.n x.a).2))) (h11 : (x.kind.toList == [115, 99, 97, 110]) = true → P (((0, (hScan h x.n x.a).1.2), (hScan h x.n x.a).2))) (h12 : (x.kind.toList == [115, 99, 97, 110, 97, 108, 108]) = true → P (((0, 0), (hScanTo h 64).2))) (he : P ((0, 0), h)) : P (hDid h x) := by
  unfold hDid
  by_cases k0 : (x.kind.toList == [97, 100, 100]) = true
  · rw [if_pos k0]; exact h0 k0
  · rw [if_neg k0]
    by_cases k1 : (x.kind.toList == [114, 101, 109, 111, 118, 101]) = true
    · rw [if_pos k1]; exact h1 k1
    · rw [if_neg k1]
      by_cases k2 : (x.kind.toList == [112, 108, 117, 103]) = true
      · rw [if_pos k2]; exact h2 k2
      · rw [if_neg k2]
        by_cases k3 : (x.kind.toList == [117, 110, 112, 108, 117, 103]) = true
        · rw [if_pos k3]; exact h3 k3
        · rw [if_neg k3]
          by_cases k4 : (x.kind.toList == [103, 105, 118, 101]) = true
          · rw [if_pos k4]; exact h4 k4
          · rw [if_neg k4]
            by_cases k5 : (x.kind.toList == [98, 97, 99, 107]) = true
            · rw [if_pos k5]; exact h5 k5
            · rw [if_neg k5]
              by_cases k6 : (x.kind.toList == [108, 111, 97, 100]) = true
              · rw [if_pos k6]; exact h6 k6
              · rw [if_neg k6]
                by_cases k7 : (x.kind.toList == [115, 116, 111, 114, 101]) = true
                · rw [if_pos k7]; exact h7 k7
                · rw [if_neg k7]
                  by_cases k8 : (x.kind.toList == [114, 111, 111, 116]) = true
                  · rw [if_pos k8]; exact h8 k8
                  · rw [if_neg k8]
                    by_cases k9 : (x.kind.toList == [102, 111, 114, 103, 101, 116]) = true
                    · rw [if_pos k9]; exact h9 k9
                    · rw [if_neg k9]
                      by_cases k10 : (x.kind.toList == [100, 114, 111, 112]) = true
                      · rw [if_pos k10]; exact h10 k10
                      · rw [if_neg k10]
                        by_cases k11 : (x.kind.toList == [115, 99, 97, 110]) = true
                        · rw [if_pos k11]; exact h11 k11
                        · rw [if_neg k11]
                          by_cases k12 : (x.kind.toList == [115, 99, 97, 110, 97, 108, 108]) = true
                          · rw [if_pos k12]; exact h12 k12
                          · rw [if_neg k12]
                            exact he
theorem hDid_code (hf : HF h t F W) (x : Ac) (hW : 0 ≤ W) : 0 ≤ (hDid h x).1.2 := by
  have hw := hWho_le (h := h) x.n
  refine hDid_cases (P := fun r => 0 ≤ r.1.2) x (fun _ => ?_) (fun _ => ?_) (fun _ => ?_) (fun _ => ?_) (fun _ => ?_) (fun _ => ?_) (fun _ => ?_) (fun _ => ?_) (fun _ => ?_) (fun _ => ?_) (fun _ => ?_) (fun _ => ?_) (fun _ => ?_) ?_
  · exact (hf.hadd hW).2.2
  · exact (hf.rem x.n).choose_spec.2.2
  · exact (hf.plug x.n x.a).choose_spec.2.2.1
  · exact (hf.unplug x.n x.a).choose_spec.2.2.1
  · exact (hf.give x.n x.a false).choose_spec.2.2.1
  · exact (hf.give x.n x.a true).choose_spec.2.2.1
  · unfold hLoad
    split
    · exact hw
    · exact load_le _
  · refine act_le (fun s x => ?_)
    have := at_code s x
    unfold gStore
    split
    · exact this _ _
    · unfold Pl.set
      repeat' split
      all_goals simp
  · refine act_le (fun s x => ?_)
    unfold onS gRoot
    simp only
    split <;> simp
  · refine act_le (fun s x => ?_)
    unfold onS gForget
    simp only
    split <;> simp
  · refine act_le (fun s x => ?_)
    unfold onS gForgetAll
    simp only
    split <;> simp
  · by_cases h0 : 0 < hWho h x.n
    · rw [hScan_wrong _ h0]; exact hw
    · obtain ⟨k, y, e, hk, hx, _⟩ := hWho_zero (show hWho h x.n = 0 by omega)
      rw [e]
      cases hp : onB x.a with
      | false => rw [hScan_off hx hk hp]; simp
      | true =>
        obtain ⟨p0, p1⟩ := (onB_iff x.a).1 hp
        obtain ⟨q, e2⟩ := Int.eq_ofNat_of_zero_le p0
        rw [e2, (hf.scan hx (show q < 16 by omega)).2.1]
        exact Int.le_refl _
  · exact Int.le_refl _
  · exact Int.le_refl _
/-- How an act ends. -/
def DPost (w : World) (bh bp bf : Nat) (G : Nat → G3) (h : Hs) (r : (Int × Int) × Hs) (w' : World) : Prop :=
  (∃ G', HM w' bh bp bf G' r.2 ∧ ∀ k, Own bh bp bf G' r.2 k → Own bh bp bf G h k ∨ w.heap.size ≤ k) ∧ Upd (Own bh bp bf G h) w w'
theorem dpost_of {W1 : World} {r : (Int × Int) × Hs} (u0 : Upd (fun _ => False) w W1) (hm : HM w' bh bp bf G r.2) (ho : ∀ k, Own bh bp bf G r.2 k → Own bh bp bf G h k) (hu : Upd (Own bh bp bf G h) W1 w') : DPost w bh bp bf G h r w' :=
  ⟨⟨G, hm, fun k hk => Or.inl (ho k hk)⟩, (MRead.no _ u0).trans hu (fun _ _ f => f)⟩
theorem own_act {n : Int} {r : Pl → Gs → Int × Pl × Gs} {k : Nat} (hk : Own bh bp bf G (hAct h n r).2 k) : Own bh bp bf G h k := by
  unfold hAct at hk
  split at hk
  · exact hk
  · next h0 =>
    obtain ⟨j, x, rfl, _, hx, hat⟩ := hWho_zero (show hWho h n = 0 by have := hWho_le (h := h) n; omega)
    rw [Int.toNat_natCast] at hk
    exact own_put hx hk
theorem own_load {n a : Int} {k : Nat} (hk : Own bh bp bf G (hLoad h n a).2 k) : Own bh bp bf G h k := by
  unfold hLoad at hk
  split at hk
  · exact hk
  · next h0 =>
    obtain ⟨j, x, rfl, _, hx, hat⟩ := hWho_zero (show hWho h n = 0 by have := hWho_le (h := h) n; omega)
    rw [Int.toNat_natCast] at hk
    exact own_put hx hk
theorem own_remove {n : Int} {k : Nat} (hk : Own bh bp bf G (hRemove h n).2 k) : Own bh bp bf G h k := by
  unfold hRemove at hk
  split at hk
  · exact hk
  · rcases hk with e | e | e | ⟨i, y, hy, e⟩
    · exact Or.inl e
    · exact Or.inr (Or.inl e)
    · exact Or.inr (Or.inr (Or.inl e))
    · have hy : setAt h.g n.toNat none i = some y := hy
      by_cases ei : i = n.toNat
      · rw [ei, setAt_same] at hy; cases hy
      · rw [setAt_other _ _ _ _ ei] at hy
        exact Or.inr (Or.inr (Or.inr ⟨i, y, hy, e⟩))
theorem own_plug {n c : Int} {k : Nat} (hk : Own bh bp bf G (hPlug h n c).2 k) : Own bh bp bf G h k := by
  unfold hPlug at hk
  repeat' split at hk
  all_goals first | exact hk | skip
  next h0 _ _ _ =>
    obtain ⟨j, x, rfl, _, hx, hat⟩ := hWho_zero (show hWho h n = 0 by have := hWho_le (h := h) n; omega)
    rw [Int.toNat_natCast] at hk
    exact own_put hx hk
theorem own_unplug {n c : Int} {k : Nat} (hk : Own bh bp bf G (hUnplug h n c).2 k) : Own bh bp bf G h k := by
  unfold hUnplug at hk
  repeat' split at hk
  all_goals first | exact hk | skip
  next h0 _ =>
    obtain ⟨j, x, rfl, _, hx, hat⟩ := hWho_zero (show hWho h n = 0 by have := hWho_le (h := h) n; omega)
    rw [Int.toNat_natCast] at hk
    exact own_put hx hk
theorem own_give {n p : Int} {bk : Bool} {k : Nat} (hk : Own bh bp bf G (hGive h n p bk).2 k) : Own bh bp bf G h k := by
  unfold hGive at hk
  repeat' split at hk
  all_goals first | exact hk | skip
  next h0 _ =>
    obtain ⟨j, x, rfl, _, hx, hat⟩ := hWho_zero (show hWho h n = 0 by have := hWho_le (h := h) n; omega)
    rw [Int.toNat_natCast] at hk
    exact own_put hx hk
theorem own_scan (hf : HF h t F W) {n p : Int} {k : Nat} (hk : Own bh bp bf G (hScan h n p).2 k) : Own bh bp bf G h k := by
  by_cases h0 : 0 < hWho h n
  · rw [hScan_wrong _ h0] at hk; exact hk
  · obtain ⟨j, y, rfl, hj, hx, _⟩ := hWho_zero (show hWho h n = 0 by have := hWho_le (h := h) n; omega)
    cases hp : onB p with
    | false => rw [hScan_off hx hj hp] at hk; exact hk
    | true =>
      obtain ⟨p0, p1⟩ := (onB_iff p).1 hp
      obtain ⟨q, rfl⟩ := Int.eq_ofNat_of_zero_le p0
      exact own_of (hf.scan hx (show q < 16 by omega)).2.2.2.2.2.2.2.1 hk
set_option maxHeartbeats 8000000 in
theorem did_any (m : HM w bh bp bf G h) (hf : HF h t F W) (hW0 : 0 ≤ W) (hW : W ≤ 1000000) (x : Ac) (v0 : 0 ≤ x.v) (v1 : x.v ≤ 255) :
    Calls Tryz.prog 6 #[.pointer (some ⟨bh, 0, none⟩), .agg #[.string x.kind, .int .i64 x.n, .int .i64 x.a, .int .i64 x.b, .int .u8 x.v, .bool x.on]] w
      fun e w' => e = .returned (.tuple #[.int .i64 (hDid h x).1.1, .int .i64 (hDid h x).1.2]) ∧ DPost w bh bp bf G h (hDid h x) w' := by
  have HCD : Hid _ := hDid_code hf x hW0
  have HHF : Hid (HF h t F W) := hf
  have HI : Hid (HInv h W) := hf.hr.inv
  go_enter Tryz.func6, Tryz.ntmps6
  go_upto_block 0 with fail
  have hB := BoxAt.new w x
  have u0 := (Upd.refl (fun _ => False) w).alloc (.cells #[.string x.kind, .int .i64 x.n, .int .i64 x.a, .int .i64 x.b, .int .u8 x.v, .bool x.on] 32)
  have HJ : Hid (HM (w.alloc (.cells #[.string x.kind, .int .i64 x.n, .int .i64 x.a, .int .i64 x.b, .int .u8 x.v, .bool x.on] 32)) bh bp bf G h) := m.same u0
  have HU0 : Hid _ := u0
  clear m u0 hf
  revert hB HU0 HJ
  generalize w.alloc (.cells #[.string x.kind, .int .i64 x.n, .int .i64 x.a, .int .i64 x.b, .int .u8 x.v, .bool x.on] 32) = W1
  generalize w.heap.size = q
  intro hB HJ HU0
  go_cut [6, 7] (fun ev nv wc => ev = errV (hDid h x).1.2 ∧ nv = .int .i64 (hDid h x).1.1 ∧ Hid (DPost w bh bp bf G h (hDid h x) wc))
  case first =>
    by_cases k0 : (x.kind.toList == [97, 100, 100]) = true
    · have HD : Hid (hDid h x = hAdd h) := show hDid h x = _ by unfold hDid; simp only [k0, if_true]
      have HC : Hid _ := hAdd_m HJ.out
      go_wp2_with fail
      refine Calls.mono HC.out ?_
      rintro e w4 ⟨rfl, ⟨G4, hm4, ho4⟩, hu4⟩
      have HP : Hid (DPost w bh bp bf G h (hAdd h) w4) := ⟨⟨G4, hm4, fun j hj => (ho4 j hj).imp id (fun e => Nat.le_trans HU0.out.size e)⟩, (MRead.no _ HU0.out).trans hu4 (fun _ _ f => f)⟩
      clear hm4 ho4 hu4 HC
      go_wp2_with fail
      go_meet
      case rel => exact ⟨by rw [HD.out]; first | done | rfl, by rw [HD.out]; first | done | rfl | rw [wv], by rw [HD.out]; exact HP.out⟩
    · have k0' : (x.kind.toList == [97, 100, 100]) = false := by simpa using k0
      clear k0
      by_cases k1 : (x.kind.toList == [114, 101, 109, 111, 118, 101]) = true
      · have HD : Hid (hDid h x = ((0, (hRemove h x.n).1), (hRemove h x.n).2)) := show hDid h x = _ by unfold hDid; simp only [k0', k1, Bool.false_eq_true, if_false, if_true]
        have c1 := hB.c1
        have HC : Hid _ := hRemove_m HJ.out HI.out x.n
        go_wp2_with fail
        refine Calls.mono HC.out ?_
        rintro e w4 ⟨rfl, hm4, hu4⟩
        have HP : Hid (DPost w bh bp bf G h (((0, (hRemove h x.n).1), (hRemove h x.n).2)) w4) := dpost_of HU0.out hm4 (fun j hk => own_remove hk) hu4
        clear hm4 hu4 HC
        go_wp2_with fail
        go_meet
        case rel => exact ⟨by rw [HD.out]; first | done | rfl, by rw [HD.out]; first | done | rfl | rw [wv], by rw [HD.out]; exact HP.out⟩
      · have k1' : (x.kind.toList == [114, 101, 109, 111, 118, 101]) = false := by simpa using k1
        clear k1
        by_cases k2 : (x.kind.toList == [112, 108, 117, 103]) = true
        · have HD : Hid (hDid h x = ((0, (hPlug h x.n x.a).1), (hPlug h x.n x.a).2)) := show hDid h x = _ by unfold hDid; simp only [k0', k1', k2, Bool.false_eq_true, if_false, if_true]
          have c1 := hB.c1
          have c2 := hB.c2
          have HC : Hid _ := hPlug_m HJ.out HI.out HHF.out.blk x.n x.a
          go_wp2_with fail
          refine Calls.mono HC.out ?_
          rintro e w4 ⟨rfl, hm4, hu4⟩
          have HP : Hid (DPost w bh bp bf G h (((0, (hPlug h x.n x.a).1), (hPlug h x.n x.a).2)) w4) := dpost_of HU0.out hm4 (fun j hk => own_plug hk) hu4
          clear hm4 hu4 HC
          go_wp2_with fail
          go_meet
          case rel => exact ⟨by rw [HD.out]; first | done | rfl, by rw [HD.out]; first | done | rfl | rw [wv], by rw [HD.out]; exact HP.out⟩
        · have k2' : (x.kind.toList == [112, 108, 117, 103]) = false := by simpa using k2
          clear k2
          by_cases k3 : (x.kind.toList == [117, 110, 112, 108, 117, 103]) = true
          · have HD : Hid (hDid h x = ((0, (hUnplug h x.n x.a).1), (hUnplug h x.n x.a).2)) := show hDid h x = _ by unfold hDid; simp only [k0', k1', k2', k3, Bool.false_eq_true, if_false, if_true]
            have c1 := hB.c1
            have c2 := hB.c2
            have HC : Hid _ := hUnplug_m HJ.out HI.out x.n x.a
            go_wp2_with fail
            refine Calls.mono HC.out ?_
            rintro e w4 ⟨rfl, hm4, hu4⟩
            have HP : Hid (DPost w bh bp bf G h (((0, (hUnplug h x.n x.a).1), (hUnplug h x.n x.a).2)) w4) := dpost_of HU0.out hm4 (fun j hk => own_unplug hk) hu4
            clear hm4 hu4 HC
            go_wp2_with fail
            go_meet
            case rel => exact ⟨by rw [HD.out]; first | done | rfl, by rw [HD.out]; first | done | rfl | rw [wv], by rw [HD.out]; exact HP.out⟩
          · have k3' : (x.kind.toList == [117, 110, 112, 108, 117, 103]) = false := by simpa using k3
            clear k3
            by_cases k4 : (x.kind.toList == [103, 105, 118, 101]) = true
            · have HD : Hid (hDid h x = ((0, (hGive h x.n x.a false).1), (hGive h x.n x.a false).2)) := show hDid h x = _ by unfold hDid; simp only [k0', k1', k2', k3', k4, Bool.false_eq_true, if_false, if_true]
              have c1 := hB.c1
              have c2 := hB.c2
              rw [give_false] at HD
              have HC : Hid _ := hGive_m HJ.out HI.out x.n x.a
              go_wp2_with fail
              refine Calls.mono HC.out ?_
              rintro e w4 ⟨rfl, hm4, hu4⟩
              have HP : Hid (DPost w bh bp bf G h (((0, (hAct h x.n fun s y => gGive s y x.a false).1), (hAct h x.n fun s y => gGive s y x.a false).2)) w4) := dpost_of HU0.out hm4 (fun j hk => own_act hk) hu4
              clear hm4 hu4 HC
              go_wp2_with fail
              go_meet
              case rel => exact ⟨by rw [HD.out]; first | done | rfl, by rw [HD.out]; first | done | rfl | rw [wv], by rw [HD.out]; exact HP.out⟩
            · have k4' : (x.kind.toList == [103, 105, 118, 101]) = false := by simpa using k4
              clear k4
              by_cases k5 : (x.kind.toList == [98, 97, 99, 107]) = true
              · have HD : Hid (hDid h x = ((0, (hGive h x.n x.a true).1), (hGive h x.n x.a true).2)) := show hDid h x = _ by unfold hDid; simp only [k0', k1', k2', k3', k4', k5, Bool.false_eq_true, if_false, if_true]
                have c1 := hB.c1
                have c2 := hB.c2
                have HC : Hid _ := hBack_m HJ.out HI.out HHF.out.hr.le x.n x.a
                go_wp2_with fail
                refine Calls.mono HC.out ?_
                rintro e w4 ⟨rfl, hm4, hu4⟩
                have HP : Hid (DPost w bh bp bf G h (((0, (hGive h x.n x.a true).1), (hGive h x.n x.a true).2)) w4) := dpost_of HU0.out hm4 (fun j hk => own_give hk) hu4
                clear hm4 hu4 HC
                go_wp2_with fail
                go_meet
                case rel => exact ⟨by rw [HD.out]; first | done | rfl, by rw [HD.out]; first | done | rfl | rw [wv], by rw [HD.out]; exact HP.out⟩
              · have k5' : (x.kind.toList == [98, 97, 99, 107]) = false := by simpa using k5
                clear k5
                by_cases k6 : (x.kind.toList == [108, 111, 97, 100]) = true
                · have HD : Hid (hDid h x = hLoad h x.n x.a) := show hDid h x = _ by unfold hDid; simp only [k0', k1', k2', k3', k4', k5', k6, Bool.false_eq_true, if_false, if_true]
                  have c1 := hB.c1
                  have c2 := hB.c2
                  have wv : wrap64 (hLoad h x.n x.a).1.1 = (hLoad h x.n x.a).1.1 := by have := hLoad_val HHF.out x.n x.a; unfold wrap64; omega
                  have HC : Hid _ := hLoad_m HJ.out HI.out x.n x.a hW
                  go_wp2_with fail
                  refine Calls.mono HC.out ?_
                  rintro e w4 ⟨rfl, hm4, hu4⟩
                  have HP : Hid (DPost w bh bp bf G h (hLoad h x.n x.a) w4) := dpost_of HU0.out hm4 (fun j hk => own_load hk) hu4
                  clear hm4 hu4 HC
                  go_wp2_with fail
                  go_meet
                  case rel => exact ⟨by rw [HD.out]; first | done | rfl, by rw [HD.out]; first | done | rfl | rw [wv], by rw [HD.out]; exact HP.out⟩
                · have k6' : (x.kind.toList == [108, 111, 97, 100]) = false := by simpa using k6
                  clear k6
                  by_cases k7 : (x.kind.toList == [115, 116, 111, 114, 101]) = true
                  · have HD : Hid (hDid h x = ((0, (hStore h x.n x.a x.v).1), (hStore h x.n x.a x.v).2)) := show hDid h x = _ by unfold hDid; simp only [k0', k1', k2', k3', k4', k5', k6', k7, Bool.false_eq_true, if_false, if_true]
                    have c1 := hB.c1
                    have c2 := hB.c2
                    have c4 := hB.c4
                    have HC : Hid _ := hStore_m HJ.out HI.out x.n x.a x.v v0 v1 hW
                    go_wp2_with fail
                    refine Calls.mono HC.out ?_
                    rintro e w4 ⟨rfl, hm4, hu4⟩
                    have HP : Hid (DPost w bh bp bf G h (((0, (hStore h x.n x.a x.v).1), (hStore h x.n x.a x.v).2)) w4) := dpost_of HU0.out hm4 (fun j hk => own_act hk) hu4
                    clear hm4 hu4 HC
                    go_wp2_with fail
                    go_meet
                    case rel => exact ⟨by rw [HD.out]; first | done | rfl, by rw [HD.out]; first | done | rfl | rw [wv], by rw [HD.out]; exact HP.out⟩
                  · have k7' : (x.kind.toList == [115, 116, 111, 114, 101]) = false := by simpa using k7
                    clear k7
                    by_cases k8 : (x.kind.toList == [114, 111, 111, 116]) = true
                    · have HD : Hid (hDid h x = ((0, (hRoot h x.n x.a).1), (hRoot h x.n x.a).2)) := show hDid h x = _ by unfold hDid; simp only [k0', k1', k2', k3', k4', k5', k6', k7', k8, Bool.false_eq_true, if_false, if_true]
                      have c1 := hB.c1
                      have c2 := hB.c2
                      have HC : Hid _ := hSetRoot_m HJ.out HI.out x.n x.a
                      go_wp2_with fail
                      refine Calls.mono HC.out ?_
                      rintro e w4 ⟨rfl, hm4, hu4⟩
                      have HP : Hid (DPost w bh bp bf G h (((0, (hRoot h x.n x.a).1), (hRoot h x.n x.a).2)) w4) := dpost_of HU0.out hm4 (fun j hk => own_act hk) hu4
                      clear hm4 hu4 HC
                      go_wp2_with fail
                      go_meet
                      case rel => exact ⟨by rw [HD.out]; first | done | rfl, by rw [HD.out]; first | done | rfl | rw [wv], by rw [HD.out]; exact HP.out⟩
                    · have k8' : (x.kind.toList == [114, 111, 111, 116]) = false := by simpa using k8
                      clear k8
                      by_cases k9 : (x.kind.toList == [102, 111, 114, 103, 101, 116]) = true
                      · have HD : Hid (hDid h x = ((0, (hForget h x.n x.a).1), (hForget h x.n x.a).2)) := show hDid h x = _ by unfold hDid; simp only [k0', k1', k2', k3', k4', k5', k6', k7', k8', k9, Bool.false_eq_true, if_false, if_true]
                        have c1 := hB.c1
                        have c2 := hB.c2
                        have HC : Hid _ := hForget_m HJ.out HI.out x.n x.a
                        go_wp2_with fail
                        refine Calls.mono HC.out ?_
                        rintro e w4 ⟨rfl, hm4, hu4⟩
                        have HP : Hid (DPost w bh bp bf G h (((0, (hForget h x.n x.a).1), (hForget h x.n x.a).2)) w4) := dpost_of HU0.out hm4 (fun j hk => own_act hk) hu4
                        clear hm4 hu4 HC
                        go_wp2_with fail
                        go_meet
                        case rel => exact ⟨by rw [HD.out]; first | done | rfl, by rw [HD.out]; first | done | rfl | rw [wv], by rw [HD.out]; exact HP.out⟩
                      · have k9' : (x.kind.toList == [102, 111, 114, 103, 101, 116]) = false := by simpa using k9
                        clear k9
                        by_cases k10 : (x.kind.toList == [100, 114, 111, 112]) = true
                        · have HD : Hid (hDid h x = ((0, (hDrop h x.n x.a).1), (hDrop h x.n x.a).2)) := show hDid h x = _ by unfold hDid; simp only [k0', k1', k2', k3', k4', k5', k6', k7', k8', k9', k10, Bool.false_eq_true, if_false, if_true]
                          have c1 := hB.c1
                          have c2 := hB.c2
                          have HC : Hid _ := hForgetAll_m HJ.out HI.out x.n x.a
                          go_wp2_with fail
                          refine Calls.mono HC.out ?_
                          rintro e w4 ⟨rfl, hm4, hu4⟩
                          have HP : Hid (DPost w bh bp bf G h (((0, (hDrop h x.n x.a).1), (hDrop h x.n x.a).2)) w4) := dpost_of HU0.out hm4 (fun j hk => own_act hk) hu4
                          clear hm4 hu4 HC
                          go_wp2_with fail
                          go_meet
                          case rel => exact ⟨by rw [HD.out]; first | done | rfl, by rw [HD.out]; first | done | rfl | rw [wv], by rw [HD.out]; exact HP.out⟩
                        · have k10' : (x.kind.toList == [100, 114, 111, 112]) = false := by simpa using k10
                          clear k10
                          by_cases k11 : (x.kind.toList == [115, 99, 97, 110]) = true
                          · have HD : Hid (hDid h x = ((0, (hScan h x.n x.a).1.2), (hScan h x.n x.a).2)) := show hDid h x = _ by unfold hDid; simp only [k0', k1', k2', k3', k4', k5', k6', k7', k8', k9', k10', k11, Bool.false_eq_true, if_false, if_true]
                            have c1 := hB.c1
                            have c2 := hB.c2
                            have HC : Hid _ := hScan_m HJ.out HHF.out x.n x.a
                            go_wp2_with fail
                            refine Calls.mono HC.out ?_
                            rintro e w4 ⟨rfl, hm4, hu4⟩
                            have HP : Hid (DPost w bh bp bf G h (((0, (hScan h x.n x.a).1.2), (hScan h x.n x.a).2)) w4) := dpost_of HU0.out hm4 (fun j hk => own_scan HHF.out hk) hu4
                            clear hm4 hu4 HC
                            go_wp2_with fail
                            go_meet
                            case rel => exact ⟨by rw [HD.out]; first | done | rfl, by rw [HD.out]; first | done | rfl | rw [wv], by rw [HD.out]; exact HP.out⟩
                          · have k11' : (x.kind.toList == [115, 99, 97, 110]) = false := by simpa using k11
                            clear k11
                            by_cases k12 : (x.kind.toList == [115, 99, 97, 110, 97, 108, 108]) = true
                            · have HD : Hid (hDid h x = ((0, 0), (hScanTo h 64).2)) := show hDid h x = _ by unfold hDid; simp only [k0', k1', k2', k3', k4', k5', k6', k7', k8', k9', k10', k11', k12, Bool.false_eq_true, if_false, if_true]
                              have HC : Hid _ := hScanAll_m HJ.out HHF.out
                              go_wp2_with fail
                              refine Calls.mono HC.out ?_
                              rintro e w4 ⟨rfl, hm4, hu4⟩
                              have HP : Hid (DPost w bh bp bf G h (((0, 0), (hScanTo h 64).2)) w4) := dpost_of HU0.out hm4 (fun j hk => own_of (HHF.out.scans 64 (Nat.le_refl _)).2.2.2.1 hk) hu4
                              clear hm4 hu4 HC
                              go_wp2_with fail
                              go_meet
                              case rel => exact ⟨by rw [HD.out]; first | done | rfl | (exact errV_zero.symm), by rw [HD.out]; first | done | rfl | rw [wv], by rw [HD.out]; exact HP.out⟩
                            · have k12' : (x.kind.toList == [115, 99, 97, 110, 97, 108, 108]) = false := by simpa using k12
                              clear k12
                              have HD : Hid (hDid h x = ((0, 0), h)) := show hDid h x = _ by unfold hDid; simp only [k0', k1', k2', k3', k4', k5', k6', k7', k8', k9', k10', k11', k12', Bool.false_eq_true, if_false]
                              have HP : Hid (DPost w bh bp bf G h ((0, 0), h) W1) := dpost_of HU0.out HJ.out (fun _ f => f) (Upd.refl _ _)
                              go_wp2_with fail
                              go_meet
                              case rel => exact ⟨by rw [HD.out]; exact errV_zero.symm, by rw [HD.out], by rw [HD.out]; exact HP.out⟩
  case rest =>
    obtain ⟨rfl, rfl, HP⟩ := hcut
    clear hB HJ HU0
    have hc := HCD.out
    obtain ⟨r1, r2, r3, he⟩ : ∃ r1 r2 r3, hDid h x = ((r1, r2), r3) := ⟨_, _, _, rfl⟩
    have HE : Hid (hDid h x = ((r1, r2), r3)) := he
    rw [he] at HP hc ⊢
    simp only at hc ⊢
    clear HCD he
    by_cases h0 : r2 = 0
    · subst h0
      rw [errV_zero]
      go_wp2_with fail
      go_ret2
      rw [HE.out]
      exact ⟨rfl, HP.out⟩
    · rw [errV_no h0]
      have h2 := assert61 wc (.int .i64 r2)
      clear h0
      go_wp2_with fail
      go_ret2
      rw [HE.out]
      exact ⟨rfl, HP.out⟩
end Go.Proofs.YtadpibcgjgcjhabGreat
/- What an act on a host tells, and what its guests may see behind it: by flat memories alone. -/
namespace Go.Proofs.YtadpibcgjgcjhabGreat
open Go.RowKit
variable {h : Hs} {W : Int} {t : Nat → Nat → Int} {F : Nat → Option Fl}

/-- An act of one guest's processor. -/
def fAct (F : Nat → Option Fl) (n : Int) (r : Fl → (Int × Int) × Fl) : (Int × Int) × (Nat → Option Fl) :=
  if 0 < fWho F n then ((0, fWho F n), F) else ((r ((F n.toNat).getD fl0)).1, setAt F n.toNat (some (r ((F n.toNat).getD fl0)).2))
def cScan (F : Nat → Option Fl) (n p : Int) : Int := if 0 < fWho F n then fWho F n else if onB p = true then 0 else 1
def fDid (F : Nat → Option Fl) (N : Nat) (x : Ac) : (Int × Int) × (Nat → Option Fl) :=
  if (x.kind.toList == [97, 100, 100]) = true then (cAdd F, if (cAdd F).2 = 0 then setAt F (cAdd F).1.toNat (some fl0) else F) else
  if (x.kind.toList == [114, 101, 109, 111, 118, 101]) = true then ((0, fWho F x.n), if fWho F x.n = 0 then setAt F x.n.toNat none else F) else
  if (x.kind.toList == [112, 108, 117, 103]) = true then ((0, cPlug F N x.n x.a), if cPlug F N x.n x.a = 0 then setAt F x.n.toNat ((F x.n.toNat).map fun f => fTurnTo f x.a.toNat 1 4) else F) else
  if (x.kind.toList == [117, 110, 112, 108, 117, 103]) = true then ((0, cUnplug F x.n x.a), if cUnplug F x.n x.a = 0 then setAt F x.n.toNat ((F x.n.toNat).map fun f => fTurnTo f x.a.toNat 0 4) else F) else
  if (x.kind.toList == [103, 105, 118, 101]) = true then ((0, cGive F N x.n x.a false), if cGive F N x.n x.a false = 0 then setAt F x.n.toNat ((F x.n.toNat).map fun f => fTurn f x.a.toNat 2) else F) else
  if (x.kind.toList == [98, 97, 99, 107]) = true then ((0, cGive F N x.n x.a true), if cGive F N x.n x.a true = 0 then setAt F x.n.toNat ((F x.n.toNat).map fun f => fTurn f x.a.toNat 1) else F) else
  if (x.kind.toList == [108, 111, 97, 100]) = true then fAct F x.n fun f => fLoad f x.a else
  if (x.kind.toList == [115, 116, 111, 114, 101]) = true then fAct F x.n fun f => ((0, (fStore f x.a x.v).1), (fStore f x.a x.v).2) else
  if (x.kind.toList == [114, 111, 111, 116]) = true then fAct F x.n fun f => ((0, (fRoot f x.a).1), (fRoot f x.a).2) else
  if (x.kind.toList == [102, 111, 114, 103, 101, 116]) = true then fAct F x.n fun f => ((0, (fForget f x.a).1), (fForget f x.a).2) else
  if (x.kind.toList == [100, 114, 111, 112]) = true then fAct F x.n fun f => ((0, (fDrop f x.a).1), (fDrop f x.a).2) else
  if (x.kind.toList == [115, 99, 97, 110]) = true then ((0, cScan F x.n x.a), F) else
  if (x.kind.toList == [115, 99, 97, 110, 97, 108, 108]) = true then ((0, 0), F) else
  ((0, 0), F)
theorem did_cases {P : (Int × Int) × Hs → (Int × Int) × (Nat → Option Fl) → Prop} (N : Nat) (x : Ac) (h0 : (x.kind.toList == [97, 100, 100]) = true → P (hAdd h) ((cAdd F, if (cAdd F).2 = 0 then setAt F (cAdd F).1.toNat (some fl0) else F))) (h1 : (x.kind.toList == [114, 101, 109, 111, 118, 101]) = true → P (((0, (hRemove h x.n).1), (hRemove h x.n).2)) (((0, fWho F x.n), if fWho F x.n = 0 then setAt F x.n.toNat none else F))) (h2 : (x.kind.toList == [112, 108, 117, 103]) = true → P (((0, (hPlug h x.n x.a).1), (hPlug h x.n x.a).2)) (((0, cPlug F N x.n x.a), if cPlug F N x.n x.a = 0 then setAt F x.n.toNat ((F x.n.toNat).map fun f => fTurnTo f x.a.toNat 1 4) else F))) (h3 : (x.kind.toList == [117, 110, 112, 108, 117, 103]) = true → P (((0, (hUnplug h x.n x.a).1), (hUnplug h x.n x.a).2)) (((0, cUnplug F x.n x.a), if cUnplug F x.n x.a = 0 then setAt F x.n.toNat ((F x.n.toNat).map fun f => fTurnTo f x.a.toNat 0 4) else F))) (h4 : (x.kind.toList == [103, 105, 118, 101]) = true → P (((0, (hGive h x.n x.a false).1), (hGive h x.n x.a false).2)) (((0, cGive F N x.n x.a false), if cGive F N x.n x.a false = 0 then setAt F x.n.toNat ((F x.n.toNat).map fun f => fTurn f x.a.toNat 2) else F))) (h5 : (x.kind.toList == [98, 97, 99, 107]) = true → P (((0, (hGive h x.n x.a true).1), (hGive h x.n x.a true).2)) (((0, cGive F N x.n x.a true), if cGive F N x.n x.a true = 0 then setAt F x.n.toNat ((F x.n.toNat).map fun f => fTurn f x.a.toNat 1) else F))) (h6 : (x.kind.toList == [108, 111, 97, 100]) = true → P (hLoad h x.n x.a) (fAct F x.n fun f => fLoad f x.a)) (h7 : (x.kind.toList == [115, 116, 111, 114, 101]) = true → P (((0, (hStore h x.n x.a x.v).1), (hStore h x.n x.a x.v).2)) (fAct F x.n fun f => ((0, (fStore f x.a x.v).1), (fStore f x.a x.v).2))) (h8 : (x.kind.toList == [114, 111, 111, 116]) = true → P (((0, (hRoot h x.n x.a).1), (hRoot h x.n x.a).2)) (fAct F x.n fun f => ((0, (fRoot f x.a).1), (fRoot f x.a).2))) (h9 : (x.kind.toList == [102, 111, 114, 103, 101, 116]) = true → P (((0, (hForget h x.n x.a).1), (hForget h x.n x.a).2)) (fAct F x.n fun f => ((0, (fForget f x.a).1), (fForget f x.a).2))) (h10 : (x.kind.toList == [100, 114, 111, 112]) = true → P (((0, (hDrop h x.n x.a).1), (hDrop h x.n x.a).2)) (fAct F x.n fun f => ((0, (fDrop f x.a).1), (fDrop f x.a).2))) (h11 : (x.kind.toList == [115, 99, 97, 110]) = true → P (((0, (hScan h x.n x.a).1.2), (hScan h x.n x.a).2)) (((0, cScan F x.n x.a), F))) (h12 : (x.kind.toList == [115, 99, 97, 110, 97, 108, 108]) = true → P (((0, 0), (hScanTo h 64).2)) (((0, 0), F))) (he : P ((0, 0), h) ((0, 0), F)) : P (hDid h x) (fDid F N x) := by
  unfold hDid fDid
  by_cases k0 : (x.kind.toList == [97, 100, 100]) = true
  · rw [if_pos k0, if_pos k0]; exact h0 k0
  · rw [if_neg k0, if_neg k0]
    by_cases k1 : (x.kind.toList == [114, 101, 109, 111, 118, 101]) = true
    · rw [if_pos k1, if_pos k1]; exact h1 k1
    · rw [if_neg k1, if_neg k1]
      by_cases k2 : (x.kind.toList == [112, 108, 117, 103]) = true
      · rw [if_pos k2, if_pos k2]; exact h2 k2
      · rw [if_neg k2, if_neg k2]
        by_cases k3 : (x.kind.toList == [117, 110, 112, 108, 117, 103]) = true
        · rw [if_pos k3, if_pos k3]; exact h3 k3
        · rw [if_neg k3, if_neg k3]
          by_cases k4 : (x.kind.toList == [103, 105, 118, 101]) = true
          · rw [if_pos k4, if_pos k4]; exact h4 k4
          · rw [if_neg k4, if_neg k4]
            by_cases k5 : (x.kind.toList == [98, 97, 99, 107]) = true
            · rw [if_pos k5, if_pos k5]; exact h5 k5
            · rw [if_neg k5, if_neg k5]
              by_cases k6 : (x.kind.toList == [108, 111, 97, 100]) = true
              · rw [if_pos k6, if_pos k6]; exact h6 k6
              · rw [if_neg k6, if_neg k6]
                by_cases k7 : (x.kind.toList == [115, 116, 111, 114, 101]) = true
                · rw [if_pos k7, if_pos k7]; exact h7 k7
                · rw [if_neg k7, if_neg k7]
                  by_cases k8 : (x.kind.toList == [114, 111, 111, 116]) = true
                  · rw [if_pos k8, if_pos k8]; exact h8 k8
                  · rw [if_neg k8, if_neg k8]
                    by_cases k9 : (x.kind.toList == [102, 111, 114, 103, 101, 116]) = true
                    · rw [if_pos k9, if_pos k9]; exact h9 k9
                    · rw [if_neg k9, if_neg k9]
                      by_cases k10 : (x.kind.toList == [100, 114, 111, 112]) = true
                      · rw [if_pos k10, if_pos k10]; exact h10 k10
                      · rw [if_neg k10, if_neg k10]
                        by_cases k11 : (x.kind.toList == [115, 99, 97, 110]) = true
                        · rw [if_pos k11, if_pos k11]; exact h11 k11
                        · rw [if_neg k11, if_neg k11]
                          by_cases k12 : (x.kind.toList == [115, 99, 97, 110, 97, 108, 108]) = true
                          · rw [if_pos k12, if_pos k12]; exact h12 k12
                          · rw [if_neg k12, if_neg k12]
                            exact he
theorem HF.more {W' : Int} (hf : HF h t F W) (hw : W ≤ W') : HF h t F W' := ⟨hf.hr.more hw, hf.blk, hf.non, hf.fl⟩
theorem at_n (s : Pl) (x : Gs) (addr : Int) (wt : Bool) : (gAt s x addr wt).2.1.n = s.n := by
  have step : ∀ (s : Pl) (x : Gs) (y : En) (fd : Bool), (gStep s x y fd wt).2.1.n = s.n := by
    intro s x y fd
    have := touch_n s x.m y.dest wt
    unfold gStep
    repeat' split
    all_goals first | rfl | exact this
  unfold gAt
  have ht := touch_n s x.m (addr / 16) wt
  have hr := touch_n s x.m x.root false
  repeat' split
  · rfl
  · exact ht
  · exact step _ _ _ _
  · unfold gWalk
    repeat' split
    · exact hr
    · exact hr
    · rw [step]; exact hr
theorem load_n (s : Pl) (x : Gs) (a : Int) : (gLoad s x a).2.1.n = s.n := by
  unfold gLoad
  split <;> exact at_n _ _ _ _
theorem store_n (s : Pl) (x : Gs) (a v : Int) : (gStore s x a v).2.1.n = s.n := by
  unfold gStore
  split
  · exact at_n _ _ _ _
  · simp only
    rw [set_n]
    exact at_n _ _ _ _
theorem act_n {n : Int} {r : Pl → Gs → Int × Pl × Gs} (hr : ∀ s x, (r s x).2.1.n = s.n) : (hAct h n r).2.s.n = h.s.n := by
  unfold hAct
  split
  · rfl
  · exact hr _ _
theorem plugs_n (s : Pl) (x : Gs) (b : Nat) : ∀ j, (gPlugs s x b j).1.n = s.n
  | 0 => rfl
  | j + 1 => by
    have := plugs_n s x b j
    show (plugR _ _ _).2.1.n = _
    rw [plug_n, this]
theorem unplugs_n (s : Pl) (x : Gs) (b : Nat) : ∀ j, (gUnplugs s x b j).2.1.n = s.n
  | 0 => rfl
  | j + 1 => by
    have := unplugs_n s x b j
    show (if 0 < (gUnplugs s x b j).1 then gUnplugs s x b j else gUnplug (gUnplugs s x b j).2.1 (gUnplugs s x b j).2.2 ((4 * b + j : Nat) : Int)).2.1.n = _
    split
    · exact this
    · show (unplugR _ _ _).2.1.n = _
      rw [unplug_n, this]
/-- What an act tells, and what is seen behind it. -/
structure Tells (h : Hs) (W : Int) (r : (Int × Int) × Hs) (q : (Int × Int) × (Nat → Option Fl)) : Prop where
  ans : r.1 = q.1
  hf : ∃ t', HF r.2 t' q.2 (W + 1)
  n : r.2.s.n = h.s.n
theorem tells_proc (hf : HF h t F W) {n : Int} {r : Pl → Gs → Int × Pl × Gs} {q : Fl → Int × Fl} (hn : ∀ s x, (r s x).2.1.n = s.n)
    (hk : ∀ (k : Nat) (x : Gs) (f : Fl), h.g k = some x → F k = some f → (r h.s x).1 = (q f).1 ∧ ∃ t', HF (h.put k (r h.s x).2) t' (setAt F k (some (q f).2)) (W + 1)) :
    Tells h W ((0, (hAct h n r).1), (hAct h n r).2) (fAct F n fun f => ((0, (q f).1), (q f).2)) := by
  refine ⟨?_, ?_, act_n hn⟩
  all_goals
    unfold hAct fAct
    rw [← hf.who n]
    by_cases h0 : 0 < hWho h n
    · simp only [if_pos h0] <;> first | rfl | exact ⟨t, hf.more (by omega)⟩
    · obtain ⟨k, x, rfl, _, hx, hat⟩ := hWho_zero (show hWho h n = 0 by have := hWho_le (h := h) n; omega)
      obtain ⟨f, hq, _⟩ := hf.view hx
      simp only [if_neg h0, hat, Int.toNat_natCast, hq, Option.getD_some]
      first
        | (rw [(hk k x f hx hq).1])
        | exact (hk k x f hx hq).2
theorem HF.tells (hf : HF h t F W) (hW : 0 ≤ W) (x : Ac) (v0 : 0 ≤ x.v) (v1 : x.v ≤ 255) : Tells h W (hDid h x) (fDid F h.s.n x) := by
  refine did_cases (P := fun r q => Tells h W r q) h.s.n x (fun _ => ?_) (fun _ => ?_) (fun _ => ?_) (fun _ => ?_) (fun _ => ?_) (fun _ => ?_) (fun _ => ?_) (fun _ => ?_) (fun _ => ?_) (fun _ => ?_) (fun _ => ?_) (fun _ => ?_) (fun _ => ?_) ?_
  · refine ⟨hf.cadd, ⟨t, ?_⟩, ?_⟩
    · have := (hf.hadd hW).1.more (show W ≤ W + 1 by omega)
      rw [hf.cadd] at this
      exact this
    · unfold hAdd
      split <;> rfl
  · obtain ⟨t', h1, h2, h3⟩ := hf.rem x.n
    have e : (hRemove h x.n).1 = fWho F x.n := by
      rw [← hf.who]
      have := hWho_le (h := h) x.n
      unfold hRemove
      split
      · rfl
      · simp only; omega
    refine ⟨by rw [e], ⟨t', ?_⟩, ?_⟩
    · have := h1.more (show W ≤ W + 1 by omega)
      rw [e] at this
      exact this
    · unfold hRemove
      split
      · rfl
      · exact gClear_n _ _ _
  · obtain ⟨t', h1, h2, h3⟩ := hf.plug x.n x.a
    refine ⟨by rw [hf.cplug], ⟨t', ?_⟩, ?_⟩
    · have := h1.more (show W ≤ W + 1 by omega)
      rw [hf.cplug] at this
      exact this
    · unfold hPlug
      repeat' split
      all_goals first | rfl | exact plugs_n _ _ _ _
  · obtain ⟨t', h1, h2, h3⟩ := hf.unplug x.n x.a
    refine ⟨by rw [hf.cunplug], ⟨t', ?_⟩, ?_⟩
    · have := h1.more (show W ≤ W + 1 by omega)
      rw [hf.cunplug] at this
      exact this
    · unfold hUnplug
      repeat' split
      all_goals first | rfl | exact unplugs_n _ _ _ _
  · obtain ⟨t', h1, h2, h3⟩ := hf.give x.n x.a false
    refine ⟨by rw [hf.cgive], ⟨t', ?_⟩, ?_⟩
    · have := h1.more (show W ≤ W + 1 by omega)
      rw [hf.cgive] at this
      exact this
    · unfold hGive
      repeat' split
      all_goals first | rfl | exact give_n _ _ _ _
  · obtain ⟨t', h1, h2, h3⟩ := hf.give x.n x.a true
    refine ⟨by rw [hf.cgive], ⟨t', ?_⟩, ?_⟩
    · have := h1.more (show W ≤ W + 1 by omega)
      rw [hf.cgive] at this
      exact this
    · unfold hGive
      repeat' split
      all_goals first | rfl | exact give_n _ _ _ _
  · unfold hLoad fAct
    rw [← hf.who x.n]
    by_cases h0 : 0 < hWho h x.n
    · simp only [if_pos h0]
      exact ⟨rfl, ⟨t, hf.more (by omega)⟩, rfl⟩
    · obtain ⟨k, y, e, _, hx, hat⟩ := hWho_zero (show hWho h x.n = 0 by have := hWho_le (h := h) x.n; omega)
      obtain ⟨f, hq, _⟩ := hf.view hx
      simp only [if_neg h0, hat]
      rw [e, Int.toNat_natCast, hq, Option.getD_some]
      obtain ⟨e1, e2⟩ := hf.load hx hq x.a
      exact ⟨e1, ⟨t, e2⟩, load_n _ _ _⟩
  · exact tells_proc (q := fun f => fStore f x.a x.v) hf (fun s y => store_n s y x.a x.v) (fun k y f hx hq => hf.store hx hq x.a x.v v0 v1)
  · exact tells_proc (q := fun f => fRoot f x.a) hf (fun _ _ => rfl) (fun k y f hx hq => ⟨(hf.root hx hq x.a).1, t, (hf.root hx hq x.a).2.more (by omega)⟩)
  · exact tells_proc (q := fun f => fForget f x.a) hf (fun _ _ => rfl) (fun k y f hx hq => ⟨(hf.forget hx hq x.a).1, t, (hf.forget hx hq x.a).2.more (by omega)⟩)
  · exact tells_proc (q := fun f => fDrop f x.a) hf (fun _ _ => rfl) (fun k y f hx hq => ⟨(hf.drop hx hq x.a).1, t, (hf.drop hx hq x.a).2.more (by omega)⟩)
  · unfold cScan
    rw [← hf.who x.n]
    by_cases h0 : 0 < hWho h x.n
    · rw [hScan_wrong _ h0, if_pos h0]
      exact ⟨rfl, ⟨t, hf.more (by omega)⟩, rfl⟩
    · rw [if_neg h0]
      obtain ⟨k, y, e, hk, hx, _⟩ := hWho_zero (show hWho h x.n = 0 by have := hWho_le (h := h) x.n; omega)
      rw [e]
      cases hp : onB x.a with
      | false =>
        rw [hScan_off hx hk hp]
        exact ⟨rfl, ⟨t, hf.more (by omega)⟩, rfl⟩
      | true =>
        obtain ⟨p0, p1⟩ := (onB_iff x.a).1 hp
        obtain ⟨q, e2⟩ := Int.eq_ofNat_of_zero_le p0
        have hs := hf.scan hx (show q < 16 by omega)
        rw [e2]
        refine ⟨?_, ⟨t, hs.1.more (by omega)⟩, hs.2.2.2.2.2.2.1⟩
        simp only [if_true]
        rw [hs.2.1]
  · have h1 := (hf.scans 64 (Nat.le_refl _)).1
    have h2 := (hf.scans 64 (Nat.le_refl _)).2.2.1
    revert h1 h2
    generalize (hScanTo h 64).2 = hh
    intro h1 h2
    exact ⟨rfl, ⟨t, h1.more (by omega)⟩, h2⟩
  · exact ⟨rfl, ⟨t, hf.more (by omega)⟩, rfl⟩
end Go.Proofs.YtadpibcgjgcjhabGreat
