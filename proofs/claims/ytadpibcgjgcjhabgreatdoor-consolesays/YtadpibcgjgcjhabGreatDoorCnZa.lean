/- The console's obey: guests, frame, page; any command. -/
import Derived.Test.YtadpibcgjgcjhabGreatDoorCnZ
namespace Go.Proofs.YtadpibcgjgcjhabGreatDoor
open Go.ChangeShapes Go.WideShapes Go.ChangeAt Go.RowKit
set_option maxRecDepth 100000
attribute [local go_sem ↓] Go.wp_at_zero Go.wp_at_succ
variable {W w w1 w2 w3 w' : World} {bh bp bf : Nat} {G G' : Nat → G3} {h h2 : Hs} {n k : Nat}

theorem PS.same (s : PS W w n k bh bp bf G h) (u : Upd (fun _ => False) w w1) : PS W w1 n k bh bp bf G h := ⟨s.m.same u, s.ok, s.hk, s.new, s.up.trans u (fun _ _ f => f), s.tab⟩
theorem ppage_any (s : PS W w n k bh bp bf G h) (bm : Value) (a b : Int) : Calls Tryz.prog 63 #[.agg #[.pointer (some ⟨bh, 0, none⟩), bm], .int .i64 a, .int .i64 b] w (OB w bh bp bf G h (pageT h a b, h)) := by
  have hst := HOk.state s.ok a b
  by_cases h0 : 0 < (hState h a b).2
  · refine (ppage_bad s bm a b h0).mono ?_
    rintro e w2 ⟨rfl, hd⟩
    exact ⟨_, _, rfl, hst.2.2, by unfold pageT; rw [if_pos h0, if_pos h0], hd⟩
  · have e0 : (hState h a b).2 = 0 := by omega
    have hw : ¬ 0 < hWho h a := fun e => by unfold hState at e0; rw [if_pos e] at e0; simp only at e0; omega
    have hwc := who_code h a
    obtain ⟨j, x, rfl, hj, hx, hat⟩ := hWho_zero (show hWho h a = 0 by omega)
    obtain ⟨w1, w2⟩ := hWho_some hx hj
    have hb : onB b = true := by
      cases hb : onB b with
      | true => rfl
      | false => unfold hState stR at e0; rw [if_neg hw, hb] at e0; simp at e0
    have hp := (onB_iff b).1 hb
    have e1 : (hLeaf h (j : Int) b).2 = 0 := by unfold hLeaf lfR; rw [if_neg hw, hb]; rfl
    have eL : (hLeaf h (j : Int) b).1 = x.m.lf b.toNat := by unfold hLeaf lfR; rw [if_neg hw, w2, hb]; rfl
    cases e2 : (hLeaf h (j : Int) b).1.there with
    | false =>
      refine (ppage_none s bm (j : Int) b e0 e1 e2).mono ?_
      rintro e w3 ⟨rfl, hd⟩
      refine ⟨_, 0, by rw [errV_zero], ⟨Int.le_refl _, by decide⟩, ?_, hd⟩
      unfold pageT
      rw [if_neg (by decide), if_neg h0, if_neg (by rw [e2]; decide)]
    | true =>
      have hrg := s.ok.inv.cn.rng (16 * j + b.toNat) (by omega)
      have hrl : rowL h (16 * j + b.toNat) = x.m.lf b.toNat := by
        unfold rowL gLf
        rw [show (16 * j + b.toNat) / 16 = j by omega, show (16 * j + b.toNat) % 16 = b.toNat by omega, hx]
      rw [hrl, ← eL] at hrg
      have hrg2 := hrg e2
      have e4 : (h.s.of (hLeaf h (j : Int) b).1.fr).2.2 = 0 := by unfold Pl.of; rw [if_pos hrg2]
      cases e3 : (hLeaf h (j : Int) b).1.wr with
      | true =>
        refine (ppage_own s bm (j : Int) b e0 e1 e2 e3 e4).mono ?_
        rintro e w3 ⟨rfl, hd⟩
        refine ⟨_, 0, by rw [errV_zero], ⟨Int.le_refl _, by decide⟩, ?_, hd⟩
        unfold pageT
        rw [if_neg (by decide), if_neg h0, if_pos e2, if_pos e3]
      | false =>
        refine (ppage_sealed s bm (j : Int) b e0 e1 e2 e3 e4).mono ?_
        rintro e w3 ⟨rfl, hd⟩
        refine ⟨_, 0, by rw [errV_zero], ⟨Int.le_refl _, by decide⟩, ?_, hd⟩
        unfold pageT
        rw [if_neg (by decide), if_neg h0, if_pos e2, if_neg (by rw [e3]; decide)]
theorem obey_guests (s : PS W w n k bh bp bf G h) (bm : Value) (a b v : Int) : Calls Tryz.prog 36 #[.agg #[.pointer (some ⟨bh, 0, none⟩), bm], .string (TX kGuests), .agg #[.int .i64 a, .int .i64 b, .int .i64 v]] w (OB w bh bp bf G h (ansL h kGuests a b v)) := by
  rw [ans_guests]
  have hkk : (TX kGuests).toList = [103, 117, 101, 115, 116, 115] := TX_toList _
  have HAC : Hid (∀ w1, Upd (fun _ => False) w w1 → _) := fun w1 u => pguests_any (s.same u) bm
  have HS0 : Hid _ := s
  clear s
  go_enter Tryz.func36, Tryz.ntmps36
  go_wp2_with (go_at_call 61; refine Calls.mono (HAC.out _ (((Upd.refl _ _).alloc _).alloc _)) ?_; rintro e w2 ⟨rfl, hd2⟩)
  go_ret2
  exact ⟨_, 0, rfl, ⟨Int.le_refl _, by decide⟩, rfl, PM.fore (((Upd.refl _ _).alloc _).alloc _) hd2⟩
theorem obey_frame (s : PS W w n k bh bp bf G h) (bm : Value) (a b v : Int) : Calls Tryz.prog 36 #[.agg #[.pointer (some ⟨bh, 0, none⟩), bm], .string (TX kFrame), .agg #[.int .i64 a, .int .i64 b, .int .i64 v]] w (OB w bh bp bf G h (ansL h kFrame a b v)) := by
  rw [ans_frame]
  have hkk : (TX kFrame).toList = [102, 114, 97, 109, 101] := TX_toList _
  have HAC : Hid (∀ w1, Upd (fun _ => False) w w1 → _) := fun w1 u => pframe_any (s.same u) bm a
  have HB : Hid _ := HOk.refs s.ok a
  have HS0 : Hid _ := s
  clear s
  go_enter Tryz.func36, Tryz.ntmps36
  go_wp2_with (go_at_call 62; refine Calls.mono (HAC.out _ (((Upd.refl _ _).alloc _).alloc _)) ?_; rintro e w2 ⟨rfl, hd2⟩)
  go_ret2
  exact ⟨_, _, rfl, HB.out.2.2.2.2, rfl, PM.fore (((Upd.refl _ _).alloc _).alloc _) hd2⟩
theorem obey_page (s : PS W w n k bh bp bf G h) (bm : Value) (a b v : Int) : Calls Tryz.prog 36 #[.agg #[.pointer (some ⟨bh, 0, none⟩), bm], .string (TX kPage), .agg #[.int .i64 a, .int .i64 b, .int .i64 v]] w (OB w bh bp bf G h (ansL h kPage a b v)) := by
  rw [ans_page]
  have hkk : (TX kPage).toList = [112, 97, 103, 101] := TX_toList _
  have HAC : Hid (∀ w1, Upd (fun _ => False) w w1 → _) := fun w1 u => ppage_any (s.same u) bm a b
  have HS0 : Hid _ := s
  clear s
  go_enter Tryz.func36, Tryz.ntmps36
  go_wp2_with (go_at_call 63; refine Calls.mono (HAC.out _ (((Upd.refl _ _).alloc _).alloc _)) ?_; rintro e w2 ⟨t9, e9, rfl, hb9, hr9, hd2⟩)
  go_ret2
  exact ⟨t9, e9, rfl, hb9, hr9, PM.fore (((Upd.refl _ _).alloc _).alloc _) hd2⟩
theorem many_ob {c : List UInt8} {m : Nat} {P : Prop} (hm : manyL c = some m) (p0 : c = kAdd → m = 0 → P) (p1 : c = kScanall → m = 0 → P) (p2 : c = kLeft → m = 0 → P) (p3 : c = kPromised → m = 0 → P) (p4 : c = kGuests → m = 0 → P) (p5 : c = kRemove → m = 1 → P) (p6 : c = kFrame → m = 1 → P) (p7 : c = kPlug → m = 2 → P) (p8 : c = kUnplug → m = 2 → P) (p9 : c = kGive → m = 2 → P) (p10 : c = kBack → m = 2 → P) (p11 : c = kLoad → m = 2 → P) (p12 : c = kRoot → m = 2 → P) (p13 : c = kForget → m = 2 → P) (p14 : c = kDrop → m = 2 → P) (p15 : c = kScan → m = 2 → P) (p16 : c = kPage → m = 2 → P) (p17 : c = kStore → m = 3 → P) : P := by
  unfold manyL at hm
  by_cases e0 : c = kAdd
  · rw [if_pos e0] at hm; cases hm; exact p0 e0 rfl
  rw [if_neg e0] at hm
  by_cases e1 : c = kScanall
  · rw [if_pos e1] at hm; cases hm; exact p1 e1 rfl
  rw [if_neg e1] at hm
  by_cases e2 : c = kLeft
  · rw [if_pos e2] at hm; cases hm; exact p2 e2 rfl
  rw [if_neg e2] at hm
  by_cases e3 : c = kPromised
  · rw [if_pos e3] at hm; cases hm; exact p3 e3 rfl
  rw [if_neg e3] at hm
  by_cases e4 : c = kGuests
  · rw [if_pos e4] at hm; cases hm; exact p4 e4 rfl
  rw [if_neg e4] at hm
  by_cases e5 : c = kRemove
  · rw [if_pos e5] at hm; cases hm; exact p5 e5 rfl
  rw [if_neg e5] at hm
  by_cases e6 : c = kFrame
  · rw [if_pos e6] at hm; cases hm; exact p6 e6 rfl
  rw [if_neg e6] at hm
  by_cases e7 : c = kPlug
  · rw [if_pos e7] at hm; cases hm; exact p7 e7 rfl
  rw [if_neg e7] at hm
  by_cases e8 : c = kUnplug
  · rw [if_pos e8] at hm; cases hm; exact p8 e8 rfl
  rw [if_neg e8] at hm
  by_cases e9 : c = kGive
  · rw [if_pos e9] at hm; cases hm; exact p9 e9 rfl
  rw [if_neg e9] at hm
  by_cases e10 : c = kBack
  · rw [if_pos e10] at hm; cases hm; exact p10 e10 rfl
  rw [if_neg e10] at hm
  by_cases e11 : c = kLoad
  · rw [if_pos e11] at hm; cases hm; exact p11 e11 rfl
  rw [if_neg e11] at hm
  by_cases e12 : c = kRoot
  · rw [if_pos e12] at hm; cases hm; exact p12 e12 rfl
  rw [if_neg e12] at hm
  by_cases e13 : c = kForget
  · rw [if_pos e13] at hm; cases hm; exact p13 e13 rfl
  rw [if_neg e13] at hm
  by_cases e14 : c = kDrop
  · rw [if_pos e14] at hm; cases hm; exact p14 e14 rfl
  rw [if_neg e14] at hm
  by_cases e15 : c = kScan
  · rw [if_pos e15] at hm; cases hm; exact p15 e15 rfl
  rw [if_neg e15] at hm
  by_cases e16 : c = kPage
  · rw [if_pos e16] at hm; cases hm; exact p16 e16 rfl
  rw [if_neg e16] at hm
  by_cases e17 : c = kStore
  · rw [if_pos e17] at hm; cases hm; exact p17 e17 rfl
  rw [if_neg e17] at hm
  cases hm
theorem obey_any (s : PS W w n k bh bp bf G h) (bm : Value) (c : List UInt8) {m : Nat} (hm : manyL c = some m) (a b v : Int) : Calls Tryz.prog 36 #[.agg #[.pointer (some ⟨bh, 0, none⟩), bm], .string (TX c), .agg #[.int .i64 a, .int .i64 b, .int .i64 v]] w (OB w bh bp bf G h (ansL h c a b v)) := by
  have hm' := hm
  exact many_ob (m := m) hm' (fun e _ => by subst e; exact obey_add s bm a b v) (fun e _ => by subst e; exact obey_scanall s bm a b v) (fun e _ => by subst e; exact obey_left s bm a b v) (fun e _ => by subst e; exact obey_promised s bm a b v) (fun e _ => by subst e; exact obey_guests s bm a b v) (fun e _ => by subst e; exact obey_remove s bm a b v) (fun e _ => by subst e; exact obey_frame s bm a b v) (fun e _ => by subst e; exact obey_plug s bm a b v) (fun e _ => by subst e; exact obey_unplug s bm a b v) (fun e _ => by subst e; exact obey_give s bm a b v) (fun e _ => by subst e; exact obey_back s bm a b v) (fun e _ => by subst e; exact obey_load s bm a b v) (fun e _ => by subst e; exact obey_root s bm a b v) (fun e _ => by subst e; exact obey_forget s bm a b v) (fun e _ => by subst e; exact obey_drop s bm a b v) (fun e _ => by subst e; exact obey_scan s bm a b v) (fun e _ => by subst e; exact obey_page s bm a b v) (fun e _ => by subst e; exact obey_store s bm a b v)
end Go.Proofs.YtadpibcgjgcjhabGreatDoor
