/- Package guest: the frame of an address; Load, Store. -/
import Derived.Test.YtadpibcgjgcjhabGreatPart13
import Derived.Test.YtadpibcgjgcjhabGreatPart03
import Derived.RangeFuncNested
import Derived.RangeFuncBound
import Derived.RangeFuncCalls
import Derived.RangeFuncLeaves
import Derived.Test.YtadpibcgjgcjhabGreatPart05
import Derived.Shelf.RegionOpen
import Derived.OwnWalkIn
import Derived.TacticsInMore
import Derived.LoopNIn
import Derived.LoopIn
import Derived.Test.YtadpibcgjgcjhabGreatPart02
import Derived.Deep.Slices
import Derived.ShutString
import Derived.ChangeOld
import Derived.Below
import Derived.Test.YtadpibcgjgcjhabGreatPart06
import Derived.Test.YtadpibcgjgcjhabGreatPart10
namespace Go.Proofs.YtadpibcgjgcjhabGreat
open Go.ChangeShapes Go.WideShapes Go.ChangeAt Go.RowKit
set_option maxRecDepth 1000000
attribute [local go_sem ↓] Go.wp_at_zero Go.wp_at_succ
variable {w w' : World} {bg bp bf bl bc : Nat} {s : Pl} {g : Gs} {b : Mp} {W : Int}

theorem FPost.more {r : (Int × Int) × Pl × Gs} {W W' : Int} (hw : W ≤ W') {e : Ending} (h : FPost w bg bp bf bl bc r b W e w') : FPost w bg bp bf bl bc r b W' e w' := ⟨h.1, h.2.1.more hw, h.2.2⟩
theorem GG.follow_walk (h : GG w bg bp bf bl bc s g b W) (k : Nat) (hk : k < 16) (wt : Bool) (hf : fndI g.c g.root (k : Int) < 0) (hW : W ≤ 1000000) :
    Calls Tryz.prog 79 #[.pointer (some ⟨bg, 0, none⟩), .int .i64 k, .bool wt] w (FPost w bg bp bf bl bc (gWalk s g (k : Int) wt) b (W + 1)) := by
  have hcc : 0 ≤ (gTouch s g g.root false).1.2 := touch_code s g.m g.root false
  unfold gWalk
  rw [Int.toNat_natCast]
  split
  · next h0 =>
    have hne : (gTouch s g g.root false).1.2 ≠ 0 := by omega
    refine (h.unknown_stop k hf en0 wt (gTouch s g g.root false).1.2 hne (fun w1 hg => ?_)).mono (fun e w' hp => hp.more (show W ≤ W + 1 by omega))
    have := hg.walk_err k hne
    rw [errV_no hne] at this
    exact this
  · next h0 =>
    have he : (gTouch s g g.root false).1.2 = 0 := by omega
    have hby := (h.inv.byt.touch g.m g.root false) (gTouch s g g.root false).1.1.toNat k
    split
    · next h1 =>
      refine h.unknown_stop k hf en0 wt 5 (by omega) (fun w1 hg => ?_)
      have := hg.walk_fault k hk hW he h1
      rw [errV_no (show (5 : Int) ≠ 0 by omega)] at this
      exact this
    · next h1 =>
      have hok : ∀ w1, GG w1 bg bp bf bl bc s g b W → _ := fun w1 hg => hg.walk_ok k hk hW he (fun q => h1 q)
      have hy : 0 ≤ (gEn g.root (k : Int) ((gTouch s g g.root false).2.1.byt (gTouch s g g.root false).1.1.toNat k)).dest ∧ (gEn g.root (k : Int) ((gTouch s g g.root false).2.1.byt (gTouch s g g.root false).1.1.toNat k)).dest < 16 := by
        unfold gEn
        simp only
        omega
      have hc2 : 0 ≤ (gTouch (gTouch s g g.root false).2.1 { (gTouch s g g.root false).2.2 with walks := g.walks + 1 } (gEn g.root (k : Int) ((gTouch s g g.root false).2.1.byt (gTouch s g g.root false).1.1.toNat k)).dest wt).1.2 := touch_code _ _ _ _
      unfold gStep
      cases wt with
      | false =>
        simp only [Bool.false_and, Bool.false_eq_true, if_false]
        split
        · next h2 => exact h.unknown_r_err k hf (gEn g.root (k : Int) ((gTouch s g g.root false).2.1.byt (gTouch s g g.root false).1.1.toNat k)) hy (by omega) hok
        · next h2 => exact h.unknown_r_ok k hf (gEn g.root (k : Int) ((gTouch s g g.root false).2.1.byt (gTouch s g g.root false).1.1.toNat k)) hy (Int.le_antisymm (Int.not_lt.1 h2) hc2) hok
      | true =>
        cases hm : (gEn g.root (k : Int) ((gTouch s g g.root false).2.1.byt (gTouch s g g.root false).1.1.toNat k)).may with
        | false =>
          simp only [Bool.true_and, Bool.not_false, if_true]
          exact h.unknown_fault k hf (gEn g.root (k : Int) ((gTouch s g g.root false).2.1.byt (gTouch s g g.root false).1.1.toNat k)) hm hok
        | true =>
          simp only [Bool.true_and, Bool.not_true, Bool.false_eq_true, if_false]
          split
          · next h2 => exact h.unknown_w_err k hf (gEn g.root (k : Int) ((gTouch s g g.root false).2.1.byt (gTouch s g g.root false).1.1.toNat k)) hm hy (by omega) hok
          · next h2 => exact h.unknown_w_ok k hf (gEn g.root (k : Int) ((gTouch s g g.root false).2.1.byt (gTouch s g g.root false).1.1.toNat k)) hm hy (Int.le_antisymm (Int.not_lt.1 h2) hc2) hok
theorem GG.reach (h : GG w bg bp bf bl bc s g b W) (addr : Int) (wt : Bool) (hW : W ≤ 1000000) :
    Calls Tryz.prog 60 #[.pointer (some ⟨bg, 0, none⟩), .int .i64 addr, .bool wt] w (FPost w bg bp bf bl bc (gAt s g addr wt) b (W + 1)) := by
  unfold gAt
  have c3 := h.ce.c3
  split
  · next ho =>
    have HA : Hid _ := isAddr_no w addr ho
    have HH : Hid (GG w bg bp bf bl bc s g b (W + 1)) := h.more (by omega)
    unfold FPost
    simp only
    rw [errV_no (show (1 : Int) ≠ 0 by omega)]
    clear h ho
    go_enter Tryz.func60, Tryz.ntmps60
    go_wp2_with (go_at_call 64; refine Calls.mono HA.out ?_; rintro e w1 ⟨rfl, rfl⟩)
    go_ret2
    exact ⟨rfl, HH.out, Upd.refl _ _⟩
  · next ho =>
    obtain ⟨k, rfl⟩ := Int.eq_ofNat_of_zero_le (show 0 ≤ addr by omega)
    have hwr : IntKind.i64.wrap ((k : Int) / 16) = (k : Int) / 16 := by rw [IntKind.wrap_i64]; omega
    have HA : Hid _ := isAddr_yes w k (by omega) (by omega)
    split
    · next hr =>
      have ht := h.touch ((k : Int) / 16) wt
      have hd : (g.root == -1) = true := by simp [hr]
      unfold FPost
      revert ht
      generalize gTouch s g ((k : Int) / 16) wt = t
      obtain ⟨⟨f, code⟩, s', g'⟩ := t
      intro ht
      simp only at ht ⊢
      generalize errV code = ev at *
      have HT : Hid _ := ht
      clear h ho hr ht
      go_enter Tryz.func60, Tryz.ntmps60
      go_wp2_with (go_at_call 64; refine Calls.mono HA.out ?_; rintro e w1 ⟨rfl, rfl⟩)
      refine Calls.mono HT.out ?_
      rintro e w2 ⟨rfl, hg2, hu2⟩
      have HG2 : Hid (GG w2 bg bp bf bl bc s' g' b (W + 1)) := hg2.more (by omega)
      have HU2 : Hid _ := hu2
      clear hg2 hu2 HT
      go_wp2_with fail
      go_ret2
      exact ⟨rfl, HG2.out, HU2.out⟩
    · next hr =>
      have hd : (g.root == -1) = false := by simp [hr]
      have hj : ((k / 16 : Nat) : Int) = (k : Int) / 16 := by omega
      have ht : ∃ r, Calls Tryz.prog 79 #[.pointer (some ⟨bg, 0, none⟩), .int .i64 ((k : Int) / 16), .bool wt] w (FPost w bg bp bf bl bc r b (W + 1)) ∧ (if 0 ≤ fndI g.c g.root ((k : Int) / 16) then gStep s g (atE g.c (fndI g.c g.root ((k : Int) / 16)).toNat) true wt else gWalk s g ((k : Int) / 16) wt) = r := by
        split
        · next hf => exact ⟨_, (h.follow_known ((k : Int) / 16) wt _ hf rfl).mono (fun _ _ hp => hp.more (show W ≤ W + 1 by omega)), rfl⟩
        · next hf =>
          have := h.follow_walk (k / 16) (by omega) wt (by rw [hj]; omega) hW
          rw [hj] at this
          exact ⟨_, this, rfl⟩
      obtain ⟨⟨⟨f, code⟩, s', g'⟩, ht, hr⟩ := ht
      rw [hr]
      unfold FPost at ht ⊢
      simp only at ht ⊢
      generalize errV code = ev at *
      have HT : Hid _ := ht
      clear h ho hr ht hj
      go_enter Tryz.func60, Tryz.ntmps60
      go_wp2_with (go_at_call 64; refine Calls.mono HA.out ?_; rintro e w1 ⟨rfl, rfl⟩)
      refine Calls.mono HT.out ?_
      rintro e w2 ⟨rfl, hg2, hu2⟩
      have HG2 : Hid (GG w2 bg bp bf bl bc s' g' b (W + 1)) := hg2
      have HU2 : Hid _ := hu2
      clear hg2 hu2 HT
      go_wp2_with fail
      go_ret2
      exact ⟨rfl, HG2.out, HU2.out⟩
/-- No error, and the frame is one that is used. -/
theorem at_used (h : GInv s g b W) (addr : Int) (wt : Bool) (he : (gAt s g addr wt).1.2 = 0) : (gAt s g addr wt).2.1.used (gAt s g addr wt).1.1 = true ∧ 0 ≤ addr ∧ addr ≤ 255 := by
  have step : ∀ (s : Pl) (g : Gs) (x : En) (found : Bool), Inv s g.m b → (gStep s g x found wt).1.2 = 0 → (gStep s g x found wt).2.1.used (gStep s g x found wt).1.1 = true := by
    intro s g x found hi
    have hc : 0 ≤ (gTouch s g x.dest wt).1.2 := touch_code s g.m x.dest wt
    unfold gStep
    repeat' split
    · intro h; simp at h
    · next h0 => intro h; simp only at h; omega
    all_goals (next h0 _ => intro _; exact touch_used hi x.dest wt (by have : (gTouch s g x.dest wt).1.2 = (touchR s g.m x.dest wt).1.2.2 := rfl; omega))
  revert he
  unfold gAt
  split
  · intro h; simp at h
  · next ho =>
    split
    · intro h2; exact ⟨touch_used h.inv _ wt h2, by omega, by omega⟩
    · split
      · intro h2; exact ⟨step _ _ _ _ h.inv h2, by omega, by omega⟩
      · unfold gWalk
        split
        · next h0 => intro h2; simp only at h2; omega
        · split
          · intro h2; simp at h2
          · intro h2
            refine ⟨step _ _ _ _ ?_ h2, by omega, by omega⟩
            exact h.inv.touch g.root false
theorem at_code (s : Pl) (g : Gs) (addr : Int) (wt : Bool) : 0 ≤ (gAt s g addr wt).1.2 := by
  have step : ∀ (s : Pl) (g : Gs) (x : En) (found : Bool), 0 ≤ (gStep s g x found wt).1.2 := by
    intro s g x found
    unfold gStep
    repeat' split
    · simp
    · next h0 => simp only; omega
    all_goals simp
  unfold gAt
  repeat' split
  · simp
  · exact touch_code _ _ _ _
  · exact step _ _ _ _
  · unfold gWalk
    repeat' split
    · next h0 => simp only; omega
    · simp
    · exact step _ _ _ _
def LPost (w : World) (bg bp bf bl bc : Nat) (r : (Int × Int) × Pl × Gs) (b : Mp) (W : Int) (e : Ending) (w' : World) : Prop :=
  e = .returned (.tuple #[.int .u8 r.1.1, errV r.1.2]) ∧ GG w' bg bp bf bl bc r.2.1 r.2.2 b W ∧ Upd (GFt bg bf bl bc) w w'
theorem GG.load (h : GG w bg bp bf bl bc s g b W) (addr : Int) (hW : W ≤ 1000000) :
    Calls Tryz.prog 40 #[.pointer (some ⟨bg, 0, none⟩), .int .i64 addr] w (LPost w bg bp bf bl bc (gLoad s g addr) b (W + 1)) := by
  have hr := h.reach addr false hW
  have hc := at_code s g addr false
  have hus := at_used h.inv addr false
  unfold gLoad
  revert hr hc hus
  generalize gAt s g addr false = t
  obtain ⟨⟨f, code⟩, s', g'⟩ := t
  intro hr hc hus
  simp only at hr hc hus ⊢
  unfold FPost at hr
  simp only at hr
  split
  · next h0 =>
    unfold LPost
    simp only
    rw [errV_no (show code ≠ 0 by omega)] at hr ⊢
    have HR : Hid _ := hr
    clear h hr hc hus h0
    go_enter Tryz.func40, Tryz.ntmps40
    go_wp2_with fail
    refine Calls.mono HR.out ?_
    rintro e w2 ⟨rfl, hg2, hu2⟩
    have HG2 : Hid (GG w2 bg bp bf bl bc s' g' b (W + 1)) := hg2
    have HU2 : Hid _ := hu2
    clear hg2 hu2 HR
    go_wp2_with fail
    go_ret2
    exact ⟨rfl, HG2.out, HU2.out⟩
  · next h0 =>
    obtain rfl : code = 0 := by omega
    obtain ⟨hu, a0, a1⟩ := hus rfl
    obtain ⟨k, rfl⟩ := Int.eq_ofNat_of_zero_le a0
    have hk : k % 16 < 16 := by omega
    have hget := get_used hu hk
    have hkk : ((k % 16 : Nat) : Int) = (k : Int) % 16 := by omega
    rw [hkk] at hget
    unfold LPost
    simp only
    rw [errV_zero] at hr ⊢
    rw [show ((k : Int) % 16).toNat = k % 16 by omega]
    have HR : Hid _ := hr
    have HGET : Hid _ := hget
    have hwr : IntKind.i64.wrap ((k : Int) % 16) = (k : Int) % 16 := by rw [IntKind.wrap_i64]; omega
    clear h hr hc hus h0 hget hkk hu
    go_enter Tryz.func40, Tryz.ntmps40
    go_wp2_with fail
    refine Calls.mono HR.out ?_
    rintro e w2 ⟨rfl, hg2, hu2⟩
    have HG2 : Hid (GG w2 bg bp bf bl bc s' g' b (W + 1)) := hg2
    have HU2 : Hid _ := hu2
    have d0 := hg2.ce.c0
    have hge := get_any w2 bp bf f ((k : Int) % 16) s' hg2.pool
    rw [HGET.out, errV_zero] at hge
    have HGE : Hid _ := hge
    clear hg2 hu2 HR hge
    go_wp2_with fail
    refine Calls.mono HGE.out ?_
    rintro e w3 ⟨rfl, hw3⟩
    subst hw3
    go_wp2_with fail
    go_ret2
    exact ⟨rfl, HG2.out, HU2.out⟩
theorem GG.setPool {s' : Pl} (h : GG w bg bp bf bl bc s g b W) (u : Upd (fun k => k = bf) w w') (hp : PoolAt w' bp bf s') (hi : GInv s' g b W) (hn : s'.n = s.n) : GG w' bg bp bf bl bc s' g b W := by
  have ha := h.ap
  unfold GAp at ha
  exact ⟨h.ce.upd u (by omega), hp, h.lv.upd u (by omega), h.ca.upd u (by omega), h.ap, hi, h.di, by rw [hn]; exact h.hn⟩
theorem GG.store (h : GG w bg bp bf bl bc s g b W) (addr v : Int) (v0 : 0 ≤ v) (v1 : v ≤ 255) (hW : W ≤ 1000000) :
    Calls Tryz.prog 41 #[.pointer (some ⟨bg, 0, none⟩), .int .i64 addr, .int .u8 v] w (GPost w bg bp bf bl bc (gStore s g addr v) b (W + 1)) := by
  have hr := h.reach addr true hW
  have hc := at_code s g addr true
  have hus := at_used h.inv addr true
  unfold gStore
  revert hr hc hus
  generalize gAt s g addr true = t
  obtain ⟨⟨f, code⟩, s', g'⟩ := t
  intro hr hc hus
  simp only at hr hc hus ⊢
  unfold FPost at hr
  simp only at hr
  split
  · next h0 =>
    unfold GPost
    simp only
    rw [errV_no (show code ≠ 0 by omega)] at hr ⊢
    have HR : Hid _ := hr
    clear h hr hc hus h0
    go_enter Tryz.func41, Tryz.ntmps41
    go_wp2_with fail
    refine Calls.mono HR.out ?_
    rintro e w2 ⟨rfl, hg2, hu2⟩
    have HG2 : Hid (GG w2 bg bp bf bl bc s' g' b (W + 1)) := hg2
    have HU2 : Hid _ := hu2
    clear hg2 hu2 HR
    go_wp2_with fail
    go_ret
    exact ⟨rfl, HG2.out, HU2.out⟩
  · next h0 =>
    obtain rfl : code = 0 := by omega
    obtain ⟨hu, a0, a1⟩ := hus rfl
    obtain ⟨k, rfl⟩ := Int.eq_ofNat_of_zero_le a0
    unfold GPost
    simp only
    rw [errV_zero] at hr
    have HR : Hid _ := hr
    have hwr : IntKind.i64.wrap ((k : Int) % 16) = (k : Int) % 16 := by rw [IntKind.wrap_i64]; omega
    clear h hr hc hus h0 hu
    have HN : Hid ((s'.set f ((k : Int) % 16) v).2.n = s'.n) := set_n _ _ _ _
    have HV : Hid (0 ≤ v ∧ v ≤ 255) := ⟨v0, v1⟩
    clear v0 v1
    go_enter Tryz.func41, Tryz.ntmps41
    go_wp2_with fail
    refine Calls.mono HR.out ?_
    rintro e w2 ⟨rfl, hg2, hu2⟩
    have HG2 : Hid (GG w2 bg bp bf bl bc s' g' b (W + 1)) := hg2
    have HU2 : Hid _ := hu2
    have d0 := hg2.ce.c0
    have HGE : Hid _ := set_any w2 bp bf f ((k : Int) % 16) v s' hg2.pool
    clear hg2 hu2 HR
    go_wp2_with fail
    refine Calls.mono HGE.out ?_
    rintro e w3 ⟨rfl, hp3, hu3⟩
    have HG3 : Hid _ := HG2.out.setPool hu3 hp3 { HG2.out.inv with inv := HG2.out.inv.inv.set _ _ _, byt := HG2.out.inv.byt.set _ _ _ HV.out.1 HV.out.2 } HN.out
    have HU3 : Hid (Upd (GFt bg bf bl bc) w w3) := HU2.out.trans hu3 (fun _ _ e => by unfold GFt; omega)
    clear hp3 hu3 HGE
    go_wp2_with fail
    go_ret
    exact ⟨rfl, HG3.out, HU3.out⟩
end Go.Proofs.YtadpibcgjgcjhabGreat
/- A function in which loops over iterators have run out: their marks, and how it is left. -/
namespace Go.Proofs.YtadpibcgjgcjhabGreat
open Go.ChangeShapes Go.WideShapes Go.ChangeAt Go.RowKit

/-- The blocks that loops over iterators have laid, all taken up. -/
def Marks (base : Nat) (w : World) (ds : List Nat) : Prop := ds.Nodup ∧ ∀ D ∈ ds, base ≤ D ∧ D < w.heap.size ∧ w.heap[D]? = some (.deferred (some []))
def marks (ds : List Nat) : List Deferred := ds.map fun D => { target := .collected D, args := #[] }
theorem Marks.nil (base : Nat) (w : World) : Marks base w [] := ⟨List.nodup_nil, fun _ h => by simp at h⟩
theorem Marks.upd {S : Nat → Prop} {base : Nat} {w w' : World} {ds : List Nat} (h : Marks base w ds) (u : Upd S w w') (hS : ∀ D ∈ ds, ¬ S D) : Marks base w' ds :=
  ⟨h.1, fun D hD => by obtain ⟨a, b, c⟩ := h.2 D hD; exact ⟨a, Nat.lt_of_lt_of_le b u.size, by rw [u.block D b (hS D hD)]; exact c⟩⟩
theorem Marks.cons {base : Nat} {w : World} {ds : List Nat} {D : Nat} (h : Marks base w ds) (hb : base ≤ D) (hD : w.heap[D]? = some (.deferred (some []))) (hn : D ∉ ds) : Marks base w (D :: ds) :=
  ⟨List.nodup_cons.2 ⟨hn, h.1⟩, fun E hE => by
    rcases List.mem_cons.1 hE with rfl | hE
    · exact ⟨hb, by rcases Nat.lt_or_ge E w.heap.size with g | g; (· exact g); (· rw [Array.getElem?_eq_none g] at hD; cases hD), hD⟩
    · exact h.2 E hE⟩
/-- What the marks' taking leaves: all other blocks as they lay. -/
structure Took (ds : List Nat) (w w' : World) : Prop where
  os : w'.os = w.os
  tape : w'.tape = w.tape
  output : w'.output = w.output
  size : w'.heap.size = w.heap.size
  block : ∀ k, k ∉ ds → w'.heap[k]? = w.heap[k]?
theorem Took.upd {base : Nat} {ds : List Nat} {w w' : World} (h : Took ds w w') (hb : ∀ D ∈ ds, base ≤ D) : Upd (fun k => base ≤ k ∧ k ∈ ds) w w' :=
  ⟨h.os, h.tape, h.output, Nat.le_of_eq h.size.symm, fun k _ hn => h.block k (fun hk => hn ⟨hb k hk, hk⟩)⟩
theorem leaves_marks {F : Fence} {n : Nat} {P : Program} {fn : Func} {tmps : Array Value} {R : Ending → World → Prop} {base : Nat} : ∀ (ds : List Nat) (w : World), Marks base w ds →
    (∀ w', Took ds w w' → LeavesIn F n P fn tmps R [] .returning w') → LeavesInM F n P fn tmps R (marks ds) .returning w
  | [], w, _, h => h w ⟨rfl, rfl, rfl, rfl, fun _ _ => rfl⟩
  | D :: ds, w, hm, h => by
    have hD := hm.2 D (by simp)
    have hnd := List.nodup_cons.1 hm.1
    refine ⟨by simp, .inl ⟨D, w.putObj D (.deferred none), rfl, run_takeDeferred hD.2.2, ?_⟩⟩
    refine leaves_marks (base := base) ds (w.putObj D (.deferred none)) ⟨hnd.2, fun E hE => ?_⟩ (fun w' ht => h w' ?_)
    · have hE' := hm.2 E (by simp [hE])
      refine ⟨hE'.1, by simpa [World.putObj] using hE'.2.1, ?_⟩
      rw [World.putObj_heap_other (fun e => hnd.1 (by rw [← e]; exact hE))]
      exact hE'.2.2
    · refine ⟨ht.os, ht.tape, ht.output, by rw [ht.size]; simp [World.putObj], fun k hk => ?_⟩
      rw [ht.block k (fun g => hk (by simp [g])), World.putObj_heap_other (fun e => hk (by simp [e]))]
end Go.Proofs.YtadpibcgjgcjhabGreat
/- Package cache: All, and what it goes over. -/
namespace Go.Proofs.YtadpibcgjgcjhabGreat
open Go.ChangeShapes Go.WideShapes Go.ChangeAt Go.RowKit Go.Shelf
set_option maxRecDepth 100000
attribute [local go_sem] Oper.semAt_some

/-- What a round that goes on keeps: the copy, and where it stands. -/
def KpT (b B : Nat) (W W' : World) : Prop := W'.heap[b]? = W.heap[b]? ∧ W'.heap[B]? = W.heap[B]?
theorem KpT.trans {b B : Nat} {A C D : World} (h : KpT b B A C) (k : KpT b B C D) : KpT b B A D := ⟨k.1.trans h.1, k.2.trans h.2⟩
theorem KpT.upd {b B : Nat} {S : Nat → Prop} {A C : World} (u : Upd S A C) (hb : b < A.heap.size) (hB : B < A.heap.size) (h1 : ¬ S b) (h2 : ¬ S B) : KpT b B A C := ⟨u.block b hb h1, u.block B hB h2⟩
theorem KpT.put {b B : Nat} {w : World} (hb : b < w.heap.size) (hB : B < w.heap.size) (W : World) (l : Nat) (o o' : Obj) (hl : w.heap.size ≤ l) (_ : W.heap[l]? = some o) (_ : o.isCells = false) (_ : o.isWalk = false) : KpT b B W (W.putObj l o') :=
  ⟨World.putObj_heap_other (by omega), World.putObj_heap_other (by omega)⟩
theorem CaL.kp {b B : Nat} {W W' : World} {es : List En} (h : CaL W b es) (k : KpT b B W W') : CaL W' b es := by
  obtain ⟨c, h1, h2⟩ := h
  exact ⟨c, ⟨fun i j hi hj => by rw [World.cell?_of_block (w := W) (w' := W') k.1]; exact h1.cells i j hi hj, by rw [World.cell?_of_block (w := W) (w' := W') k.1]; exact h1.cnt, fun o => by rw [World.frozen?_of_block (w := W) (w' := W') k.1]; exact h1.fz o, h1.le⟩, h2⟩
def enArgs (es : List En) (i : Nat) : Array Value := #[.int .i64 i, .agg #[.int .i64 (atE es i).root, .int .i64 (atE es i).page, .int .i64 (atE es i).dest, .bool (atE es i).may, .bool (atE es i).lf.there, .bool (atE es i).lf.wr, .int .i64 (atE es i).lf.fr]]
theorem upd_of_below {w W : World} (h : Below w.heap.size w W) : Upd (fun _ => False) w W := ⟨h.os, h.tape, h.output, h.size, fun k hk _ => h.block k hk⟩
theorem grown_of_upd {w W : World} (h : Upd (fun _ => False) w W) : w.grownBy W none := ⟨h.os, h.tape, h.output, h.size, fun k hk _ => h.block k hk (fun f => f)⟩
end Go.Proofs.YtadpibcgjgcjhabGreat
/- How a list of acts that came in lies in memory: what each statement over acts is told of its argument. -/
namespace Go.Proofs.YtadpibcgjgcjhabGreat
open Go.ChangeShapes Go.WideShapes Go.ChangeAt Go.RowKit Go.Deep
set_option maxRecDepth 100000

theorem cells38 : Tryz.prog.cellsOf 32 = 6 := by kernel_rfl
theorem cells3 : Tryz.prog.cellsOf 3 = 1 := by kernel_rfl
theorem cells4 : Tryz.prog.cellsOf 4 = 1 := by kernel_rfl
theorem cells5 : Tryz.prog.cellsOf 5 = 1 := by kernel_rfl
theorem cells9 : Tryz.prog.cellsOf 9 = 1 := by kernel_rfl

theorem act_of {H : Type} {enc : TypeId × Value → H} {W : World} {base n : Nat} {sp : Nat → Bool} {held : Bool} {cs : List Value} {y : DataW H × List MemPlace}
    (h : DataW.trod enc Tryz.prog W base sp held n 32 cs = some y) :
    ∃ x : Ac, cs = [.string x.kind, .int .i64 x.n, .int .i64 x.a, .int .i64 x.b, .int .u8 x.v, .bool x.on] ∧ (Lit.int .u8 x.v).wf = true := by
  obtain ⟨xs, m, _, _, hl, hlen, hf⟩ := DataW.trod_struct Tryz.underlying32 h
  rw [cells38] at hl
  have hx : xs.length = 6 := hlen
  match cs, hl, xs, hx with
  | [c0, c1, c2, c3, c4, c5], _, [y0, y1, y2, y3, y4, y5], _ =>
    have g0 := hf 0 _ rfl
    have g1 := hf 1 _ rfl
    have g2 := hf 2 _ rfl
    have g3 := hf 3 _ rfl
    have g4 := hf 4 _ rfl
    have g5 := hf 5 _ rfl
    simp [cells3, cells4, cells5, cells9] at g0 g1 g2 g3 g4 g5
    obtain ⟨s, e0, _, _⟩ := DataW.trod_string Tryz.underlying9 g0
    obtain ⟨i1, e1, _, _⟩ := DataW.trod_int Tryz.underlying3 g1
    obtain ⟨i2, e2, _, _⟩ := DataW.trod_int Tryz.underlying3 g2
    obtain ⟨i3, e3, _, _⟩ := DataW.trod_int Tryz.underlying3 g3
    obtain ⟨i4, e4, _, w4⟩ := DataW.trod_int Tryz.underlying5 g4
    obtain ⟨b5, e5, _⟩ := DataW.trod_bool Tryz.underlying4 g5
    simp at e0 e1 e2 e3 e4 e5
    subst e0 e1 e2 e3 e4 e5
    exact ⟨⟨s, i1, i2, i3, i4, b5⟩, rfl, w4⟩

theorem acts_of {H : Type} {enc : TypeId × Value → H} {W : World} {a : Option Addr} {len cap : Nat} {d : DataW H} {ps : List MemPlace}
    (h : DataW.Trod enc Tryz.prog W 0 (fun _ => true) true 22 (.slice a len cap) d ps) : ∃ acts, ActsAt W a len acts ∧ (∀ k, k < len → (Lit.int .u8 (acts k).v).wf = true) ∧ len ≤ maxLen := by
  obtain ⟨fuel, hf⟩ := h
  rcases open_slice Tryz.underlying22 hf with ⟨hcs, _⟩ | ⟨x, l, c, m, n, D, Pl, hcs, _, hl, hm, hmm, _, hx⟩
  · simp [Value.cells] at hcs
    obtain ⟨rfl, rfl, rfl⟩ := hcs
    exact ⟨fun _ => ⟨⟨#[]⟩, 0, 0, 0, 0, false⟩, fun k hk => absurd hk (by omega), fun k hk => absurd hk (by omega), by omega⟩
  · simp [Value.cells] at hcs
    obtain ⟨rfl, rfl, rfl⟩ := hcs
    simp at hmm
    subst hmm
    rw [cells38] at hx
    obtain ⟨b, off, spot⟩ := x
    have hspot : 0 < len → spot = none := by
      intro h
      obtain ⟨cs', h1, h2⟩ := hx 0 (by omega)
      obtain ⟨y, rfl, hw⟩ := act_of h2
      obtain ⟨_, _, h3⟩ := World.cells?_some h1
      have h30 := h3 0 (by omega)
      simpa [Addr.add] using World.cell?_spot h30
    have each : ∀ i, i < len → ∃ y : Ac, ActAt W b (off + i * 6) y ∧ (Lit.int .u8 y.v).wf = true ∧ spot = none := by
      intro i hi
      obtain ⟨cs', h1, h2⟩ := hx i (by omega)
      obtain ⟨y, rfl, hw⟩ := act_of h2
      obtain ⟨_, _, h3⟩ := World.cells?_some h1
      obtain rfl := hspot (by omega)
      have e : ∀ j, (((⟨b, off, none⟩ : Addr).add (i * 6)).add j) = ⟨b, off + i * 6 + j, none⟩ := fun j => by rw [Addr.add_mid, Addr.add_mid]
      simp only [e] at h3
      exact ⟨y, ⟨by simpa using h3 0 (by omega), by simpa using h3 1 (by omega), by simpa using h3 2 (by omega), by simpa using h3 3 (by omega), by simpa using h3 4 (by omega), by simpa using h3 5 (by omega)⟩, hw, rfl⟩
    let acts : Nat → Ac := fun i => if h : i < len then (each i h).choose else ⟨⟨#[]⟩, 0, 0, 0, 0, false⟩
    have ha : ∀ i (h : i < len), acts i = (each i h).choose := fun i h => by simp [acts, h]
    refine ⟨acts, fun i hi => ?_, fun i hi => ?_, by omega⟩
    · obtain ⟨g1, g2, g3⟩ := (each i hi).choose_spec
      subst g3
      exact ⟨b, off, rfl, by rw [ha i hi]; exact g1⟩
    · rw [ha i hi]; exact (each i hi).choose_spec.2.1
end Go.Proofs.YtadpibcgjgcjhabGreat
/- A loop over a cache's entries: the law of a range over a function, for what All answers; frames by a function. -/
namespace Go.Proofs.YtadpibcgjgcjhabGreat
open Go.ChangeShapes Go.WideShapes Go.ChangeAt Go.RowKit Go.Shelf
set_option maxRecDepth 100000

/-- The loop over the function that stands in that slot. -/
def rfAt (n : Nat) : Code → Option Code
  | .rangeFunc (.tmp m) ps a b => if m = n then some (.rangeFunc (.tmp m) ps a b) else none
  | .block _ c => rfAt n c
  | .seq a b => match rfAt n a with
    | some c => some c
    | none => rfAt n b
  | .cond _ a b => match rfAt n a with
    | some c => some c
    | none => rfAt n b
  | .loop c => rfAt n c
  | _ => none
/-- The block of that number. -/
def blkAt (n : Nat) : Code → Option Code
  | .block i c => if i = n then some (.block i c) else blkAt n c
  | .seq a b => match blkAt n a with
    | some c => some c
    | none => blkAt n b
  | .cond _ a b => match blkAt n a with
    | some c => some c
    | none => blkAt n b
  | .loop c => blkAt n c
  | _ => none
/-- The first loop's body. -/
def loopIn : Code → Option Code
  | .loop c => some c
  | .seq a b => match loopIn a with
    | some c => some c
    | none => loopIn b
  | .block _ c => loopIn c
  | .cond _ a b => match loopIn a with
    | some c => some c
    | none => loopIn b
  | _ => none
theorem own_upd {β : Type} (S : Nat → Prop) (w : World) : OwnFrom w.heap.size (fun (_ : β) W => Upd S w W) := fun _ A B row hs hg hr =>
  ⟨hg.os.trans hs.os, hg.tape.trans hs.tape, hg.output.trans hs.output, Nat.le_trans hs.size hg.size, fun k hk hn => by
    refine (hg.block k (Nat.lt_of_lt_of_le hk hs.size) (fun e => ?_)).trans (hs.block k hk hn)
    have := (hr k e.symm).1
    omega⟩
theorem own_block {β : Type} (B : Nat) (f : β → Nat × Array Value × TypeId) : OwnFrom B (fun s W => W.heap[(f s).1]? = some (.cells (f s).2.1 (f s).2.2)) := fun s X Y row hs hg hr => by
  refine (hg.block _ (Array.getElem?_eq_some_iff.1 hs).1 (fun e => ?_)).trans hs
  obtain ⟨o, ho, hc⟩ := (hr _ e.symm).2
  rw [hs] at ho
  cases ho
  cases hc
theorem keeps_of_upd {B : Nat} {W W' : World} (u : Upd (fun _ => False) W W') : KeepsFrom B W W' := ⟨u.size, fun k _ _ hk _ => (u.block k (Array.getElem?_eq_some_iff.1 hk).1 (fun f => f)).trans hk⟩
theorem keeps_of_box {B b : Nat} {cs : Array Value} {ty : TypeId} {W W' : World} (u : Upd (fun k => k = b) W W') (hb : W.heap[b]? = some (.cells cs ty)) : KeepsFrom B W W' := ⟨u.size, fun k o _ hk ho => by
  refine (u.block k (Array.getElem?_eq_some_iff.1 hk).1 (fun e => ?_)).trans hk
  subst e
  rw [hb] at hk
  cases hk
  cases ho⟩
theorem frame_fn (l : List Value) : l.toArray = ((List.range l.length).map (fun i => l.getD i undef)).toArray := by
  congr 1
  apply List.ext_getElem
  · simp
  · intro i h1 h2
    simp [List.getD_eq_getElem?_getD, h1]
end Go.Proofs.YtadpibcgjgcjhabGreat
/- Package guest: Cached. -/
namespace Go.Proofs.YtadpibcgjgcjhabGreat
open Go.ChangeShapes Go.WideShapes Go.ChangeAt Go.RowKit Go.Shelf
set_option maxRecDepth 1000000
attribute [local go_sem] Oper.semAt_some
theorem box_cell {W : World} {B : Nat} {cs : Array Value} {ty : TypeId} (h : W.heap[B]? = some (.cells cs ty)) (j : Nat) : W.cell? ⟨B, j, none⟩ = cs[j]? := by simp [World.cell?, h]
theorem box_frozen {W : World} {B : Nat} {cs : Array Value} {ty : TypeId} (h : W.heap[B]? = some (.cells cs ty)) (j : Nat) : W.frozen? ⟨B, j, none⟩ = false := by simp [World.frozen?, h]
theorem box_new (W : World) (cs : Array Value) (ty : TypeId) : (W.alloc (.cells cs ty)).heap[W.heap.size]? = some (.cells cs ty) := World.alloc_heap_new W _
theorem SlC.grownS {S : Nat → Prop} {w wr w2 : World} {v : Value} {es : List En} {x : En} {g cap : Nat} (hu : Upd S w wr) (hS : SlC wr w.heap.size v es) (o : Obj)
    (hown : w2.ownsRow w.heap.size 94 7 (.slice (some ⟨g, 0, none⟩) (es.length + 1) cap) (es.length + 1) (enAll es ++ enCells x)) (hgrow : (wr.alloc o).grownBy w2 v.ownBlock) :
    SlC w2 w.heap.size (.slice (some ⟨g, 0, none⟩) (es.length + 1) cap) (es ++ [x]) ∧ Upd S w w2 ∧ (∀ k, k < w.heap.size → w2.heap[k]? = wr.heap[k]?) ∧ KeepsOthers wr w2 := by
  have hz := hu.size
  have hb : ∀ k, k < w.heap.size → w2.heap[k]? = wr.heap[k]? := fun k hk => by
    rw [hgrow.block k (by simp only [World.size_alloc]; omega) (by
      intro e
      have := World.ownsRow.lt hS k e.symm
      omega), Below.heap_alloc _ _ _ (by omega)]
  refine ⟨?_, ⟨hgrow.os.trans hu.os, hgrow.tape.trans hu.tape, hgrow.output.trans hu.output, ?_, fun k hk hn => (hb k hk).trans (hu.block k hk hn)⟩, hb, ?_⟩
  · unfold SlC
    rw [enAll_append, List.length_append]
    simpa [enAll] using hown
  · have := hgrow.size
    simp only [World.size_alloc] at this
    omega
  · refine (KeepsOthers.alloc wr o).trans (KeepsOthers.of_grownBy hgrow fun j o' ej hj => ?_)
    rcases (World.ownsRow.alloc hS o).2 with ⟨rfl, _⟩ | ⟨g', cap', cur, rfl, _, hgb, _⟩
    · simp [Value.ownBlock] at ej
    · obtain rfl : g' = j := by simpa [Value.ownBlock] using ej
      rw [hgb] at hj; cases hj; rfl
end Go.Proofs.YtadpibcgjgcjhabGreat
/- Package guest: Cached, whole; New, Copy. -/
namespace Go.Proofs.YtadpibcgjgcjhabGreat
open Go.ChangeShapes Go.WideShapes Go.ChangeAt Go.RowKit Go.Shelf
set_option maxRecDepth 1000000
attribute [local go_sem ↓] Go.wp_at_zero Go.wp_at_succ
variable {w w' : World} {bg bp bf bl bc : Nat} {s : Pl} {g : Gs} {b : Mp} {W : Int}
theorem GCell.new (w : World) (bp bl bc : Nat) (r k : Int) (t : TypeId) : GCell (w.alloc (.cells #[.pointer (some ⟨bp, 0, none⟩), .pointer (some ⟨bl, 0, none⟩), .pointer (some ⟨bc, 0, none⟩), .int .i64 r, .int .i64 k] t)) w.heap.size bp bl bc r k :=
  ⟨by rw [World.cell?_alloc_new]; rfl, by rw [World.cell?_alloc_new]; rfl, by rw [World.cell?_alloc_new]; rfl, by rw [World.cell?_alloc_new]; rfl, by rw [World.cell?_alloc_new]; rfl, fun _ => World.frozen?_alloc_new _ _ _ _⟩
theorem gNil (w : World) : Calls Tryz.prog 30 #[.pointer none] w fun e w' => e = .returned (.tuple #[.pointer none, errV 2]) ∧ Upd (fun _ => False) w w' := by
  have HN : Hid _ := lvNil w
  rw [errV_no (show (2 : Int) ≠ 0 by omega)]
  have hn := lvNil w
  rw [errV_no (show (2 : Int) ≠ 0 by omega)] at hn
  have HN : Hid _ := hn
  clear hn
  go_enter Tryz.func30, Tryz.ntmps30
  go_wp2_with fail
  refine Calls.mono HN.out ?_
  rintro e w1 ⟨rfl, hu⟩
  go_wp2_with fail
  go_ret2
  exact ⟨rfl, hu⟩
theorem gNew (w : World) (bp : Nat) : Calls Tryz.prog 30 #[.pointer (some ⟨bp, 0, none⟩)] w fun e w' => ∃ bg bl bc, e = .returned (.tuple #[.pointer (some ⟨bg, 0, none⟩), .nilIface]) ∧ GCell w' bg bp bl bc (-1) 0 ∧ LvAt w' bl bp mp0 ∧ CaL w' bc [] ∧ w.heap.size ≤ bl ∧ w.heap.size ≤ bg ∧ w.heap.size ≤ bc ∧ bg ≠ bl ∧ bg ≠ bc ∧ bl ≠ bc ∧ Upd (fun _ => False) w w' := by
  have HN : Hid _ := lvNew w bp
  go_enter Tryz.func30, Tryz.ntmps30
  go_wp2_with fail
  refine Calls.mono HN.out ?_
  rintro e w1 ⟨bl, rfl, hl, hz, hu⟩
  go_wp2_with fail
  have hcz := zero_at w1 97
  have u1 := (Upd.refl (fun _ => False) w1).alloc (.cells zeroCa 97)
  have hgc := GCell.new (w1.alloc (.cells zeroCa 97)) bp bl w1.heap.size (-1) 0 88
  have u2 := (Upd.refl (fun _ => False) (w1.alloc (.cells zeroCa 97))).alloc (.cells #[.pointer (some ⟨bp, 0, none⟩), .pointer (some ⟨bl, 0, none⟩), .pointer (some ⟨w1.heap.size, 0, none⟩), .int .i64 (-1), .int .i64 0] 88)
  have hbl := hl.lt
  have hs := hu.size
  have hca : CaL (w1.alloc (.cells zeroCa 97)) w1.heap.size [] := ⟨_, hcz, fun i hi => absurd hi (by simp)⟩
  rw [World.size_alloc] at hgc
  have hcu := hca.upd u2 (fun f => f)
  have hlu := (hl.upd u1 (fun f => f)).upd u2 (fun f => f)
  have huu := (hu.trans u1 (fun _ _ f => f)).trans u2 (fun _ _ f => f)
  go_ret2
  exact ⟨w1.heap.size + 1, bl, w1.heap.size, rfl, hgc, hlu, hcu, hz, by omega, by omega, by omega, by omega, by omega, huu⟩
theorem GG.copy (h : GG w bg bp bf bl bc s g b W) (cp : Nat) : Calls Tryz.prog 50 #[.pointer (some ⟨bg, 0, none⟩), .pointer (some ⟨cp, 0, none⟩)] w fun e w' => ∃ cg cl cc, e = .returned (.pointer (some ⟨cg, 0, none⟩)) ∧ GCell w' cg cp cl cc g.root g.walks ∧ LvAt w' cl cp g.m ∧ CaL w' cc (shows g.m g.c) ∧ w.heap.size ≤ cl ∧ w.heap.size ≤ cg ∧ w.heap.size ≤ cc ∧ cg ≠ cl ∧ cg ≠ cc ∧ cl ≠ cc ∧ Upd (fun _ => False) w w' := by
  have c1 := h.ce.c1
  have c2 := h.ce.c2
  have c3 := h.ce.c3
  have c4 := h.ce.c4
  have HH : Hid (GG w bg bp bf bl bc s g b W) := h
  have HHd : Hid (GG w.drew bg bp bf bl bc s g b W) := h.same (Upd.refl (fun _ => False) w).drew
  have SAL : Hid (∀ (w5 : World) (o : Obj), w5.cell? ⟨bg, 1, none⟩ = some (.pointer (some ⟨bl, 0, none⟩)) ∧ w5.cell? ⟨bg, 2, none⟩ = some (.pointer (some ⟨bc, 0, none⟩)) ∧ w5.cell? ⟨bg, 3, none⟩ = some (.int .i64 g.root) ∧ w5.cell? ⟨bg, 4, none⟩ = some (.int .i64 g.walks) → (w5.alloc o).cell? ⟨bg, 1, none⟩ = some (.pointer (some ⟨bl, 0, none⟩)) ∧ (w5.alloc o).cell? ⟨bg, 2, none⟩ = some (.pointer (some ⟨bc, 0, none⟩)) ∧ (w5.alloc o).cell? ⟨bg, 3, none⟩ = some (.int .i64 g.root) ∧ (w5.alloc o).cell? ⟨bg, 4, none⟩ = some (.int .i64 g.walks)) := fun w5 o h => ⟨Upd.cell ((Upd.refl (fun _ => False) w5).alloc o) h.1 (fun f => f), Upd.cell ((Upd.refl (fun _ => False) w5).alloc o) h.2.1 (fun f => f), Upd.cell ((Upd.refl (fun _ => False) w5).alloc o) h.2.2.1 (fun f => f), Upd.cell ((Upd.refl (fun _ => False) w5).alloc o) h.2.2.2 (fun f => f)⟩
  have sA : w.cell? ⟨bg, 1, none⟩ = some (.pointer (some ⟨bl, 0, none⟩)) ∧ w.cell? ⟨bg, 2, none⟩ = some (.pointer (some ⟨bc, 0, none⟩)) ∧ w.cell? ⟨bg, 3, none⟩ = some (.int .i64 g.root) ∧ w.cell? ⟨bg, 4, none⟩ = some (.int .i64 g.walks) := ⟨c1, c2, c3, c4⟩
  have sD : w.drew.cell? ⟨bg, 1, none⟩ = some (.pointer (some ⟨bl, 0, none⟩)) ∧ w.drew.cell? ⟨bg, 2, none⟩ = some (.pointer (some ⟨bc, 0, none⟩)) ∧ w.drew.cell? ⟨bg, 3, none⟩ = some (.int .i64 g.root) ∧ w.drew.cell? ⟨bg, 4, none⟩ = some (.int .i64 g.walks) := ⟨c1, c2, c3, c4⟩
  clear h
  go_enter Tryz.func50, Tryz.ntmps50
  go_wp2_with fail
  go_region_held3 (fun w' => w'.cell? ⟨bg, 1, none⟩ = some (.pointer (some ⟨bl, 0, none⟩)) ∧ w'.cell? ⟨bg, 2, none⟩ = some (.pointer (some ⟨bc, 0, none⟩)) ∧ w'.cell? ⟨bg, 3, none⟩ = some (.int .i64 g.root) ∧ w'.cell? ⟨bg, 4, none⟩ = some (.int .i64 g.walks)) (first | with_reducible exact h5c | with_reducible exact h4c | with_reducible exact sA | with_reducible exact sD | with_reducible exact SAL.out _ _ h5c)
    (first
      | (go_at_call 73; refine (lvCopy _ bl bp cp g.m (by exact HHd.out.lv)).mono ?_; rintro e w4 ⟨cl, rfl, hl4, hz4, hu4⟩; have h4c : w4.cell? ⟨bg, 1, none⟩ = some (.pointer (some ⟨bl, 0, none⟩)) ∧ w4.cell? ⟨bg, 2, none⟩ = some (.pointer (some ⟨bc, 0, none⟩)) ∧ w4.cell? ⟨bg, 3, none⟩ = some (.int .i64 g.root) ∧ w4.cell? ⟨bg, 4, none⟩ = some (.int .i64 g.walks) := ⟨hu4.cell c1 (fun f => f), hu4.cell c2 (fun f => f), hu4.cell c3 (fun f => f), hu4.cell c4 (fun f => f)⟩; have hG4 := HHd.out.same hu4)
      | (go_at_call 74; refine (kCopy_any _ bc (shows g.m g.c) hG4.ca).mono ?_; rintro e w5 ⟨cc, rfl, hz5, hc5, hu5⟩; have h5c : w5.cell? ⟨bg, 1, none⟩ = some (.pointer (some ⟨bl, 0, none⟩)) ∧ w5.cell? ⟨bg, 2, none⟩ = some (.pointer (some ⟨bc, 0, none⟩)) ∧ w5.cell? ⟨bg, 3, none⟩ = some (.int .i64 g.root) ∧ w5.cell? ⟨bg, 4, none⟩ = some (.int .i64 g.walks) := ⟨hu5.cell h4c.1 (fun f => f), hu5.cell h4c.2.1 (fun f => f), hu5.cell h4c.2.2.1 (fun f => f), hu5.cell h4c.2.2.2 (fun f => f)⟩))
  have hcg := GCell.new w5 cp cl cc g.root g.walks 88
  have u6 := (Upd.refl (fun _ => False) w5).alloc (.cells #[.pointer (some ⟨cp, 0, none⟩), .pointer (some ⟨cl, 0, none⟩), .pointer (some ⟨cc, 0, none⟩), .int .i64 g.root, .int .i64 g.walks] 88)
  have hl6 := (hl4.upd hu5 (fun f => f)).upd u6 (fun f => f)
  have hc6 : CaL _ cc (shows g.m g.c) := CaL.upd hc5 u6 (fun f => f)
  have hu6 := ((Upd.refl (fun _ => False) w).drew.trans hu4 (fun _ _ f => f)).trans (hu5.trans u6 (fun _ _ f => f)) (fun _ _ f => f)
  have HX : Hid _ := hcg
  have HL6 : Hid _ := hl6
  have HC6 : Hid (CaL _ cc (shows g.m g.c)) := hc6
  have HU6 : Hid _ := hu6
  have hlt4 := hl4.lt
  have hlt5 : cc < w5.heap.size := CaL.lt hc5
  have hs4 := hu4.size
  have hs5 := hu5.size
  have hsz : w.drew.heap.size = w.heap.size := rfl
  have HZ : Hid (w.heap.size ≤ cl ∧ w.heap.size ≤ w5.heap.size ∧ w.heap.size ≤ cc ∧ w5.heap.size ≠ cl ∧ w5.heap.size ≠ cc ∧ cl ≠ cc) := show _ ∧ _ by omega
  clear hcg u6 hl6 hc6 hu6 hl4 hu4 hu5 hc5 h4c h5c hG4 SAL sA sD hlt4 hlt5 hs4 hs5 hsz
  go_wp2_with fail
  go_ret
  exact ⟨w5.heap.size, cl, cc, rfl, HX.out, HL6.out, HC6.out, HZ.out.1, HZ.out.2.1, HZ.out.2.2.1, HZ.out.2.2.2.1, HZ.out.2.2.2.2.1, HZ.out.2.2.2.2.2, HU6.out⟩
end Go.Proofs.YtadpibcgjgcjhabGreat
/- The box of a leaf. -/
namespace Go.Proofs.YtadpibcgjgcjhabGreat
open Go.ChangeShapes Go.WideShapes Go.ChangeAt Go.RowKit

/-- The box of a leaf, as it is made. -/
theorem box0 (w0 : World) (t : TypeId) : (w0.alloc (.cells #[.bool false, .bool false, .int .i64 0] t)).cell? ⟨w0.heap.size, 0, none⟩ = some (.bool false) ∧ (w0.alloc (.cells #[.bool false, .bool false, .int .i64 0] t)).cell? ⟨w0.heap.size, 1, none⟩ = some (.bool false) ∧
    (w0.alloc (.cells #[.bool false, .bool false, .int .i64 0] t)).cell? ⟨w0.heap.size, 2, none⟩ = some (.int .i64 0) ∧ (w0.alloc (.cells #[.bool false, .bool false, .int .i64 0] t)).frozen? ⟨w0.heap.size, 0, none⟩ = false ∧ (w0.alloc (.cells #[.bool false, .bool false, .int .i64 0] t)).frozen? ⟨w0.heap.size, 1, none⟩ = false ∧ (w0.alloc (.cells #[.bool false, .bool false, .int .i64 0] t)).frozen? ⟨w0.heap.size, 2, none⟩ = false := by
  refine ⟨?_, ?_, ?_, World.frozen?_alloc_new _ _ _ _, World.frozen?_alloc_new _ _ _ _, World.frozen?_alloc_new _ _ _ _⟩
  all_goals rw [World.cell?_alloc_new]; rfl
end Go.Proofs.YtadpibcgjgcjhabGreat
/- Package host: how a host lies in memory; one guest's act. -/
namespace Go.Proofs.YtadpibcgjgcjhabGreat
open Go.ChangeShapes Go.WideShapes Go.ChangeAt Go.RowKit
set_option maxRecDepth 100000

/-- The blocks of a guest: itself, its pages, its cache. -/
structure G3 where
  g : Nat
  l : Nat
  c : Nat
def G3.has (q : G3) (k : Nat) : Prop := k = q.g ∨ k = q.l ∨ k = q.c
/-- A guest of package guest, without its pool. -/
structure GM1 (w : World) (bp : Nat) (q : G3) (x : Gs) : Prop where
  ce : GCell w q.g bp q.l q.c x.root x.walks
  lv : LvAt w q.l bp x.m
  ca : CaL w q.c (shows x.m x.c)
/-- A host of package host: its block bh, its pool bp with the frames bf, its guests' blocks G. -/
structure HM (w : World) (bh bp bf : Nat) (G : Nat → G3) (h : Hs) : Prop where
  c0 : w.cell? ⟨bh, 0, none⟩ = some (.pointer (some ⟨bp, 0, none⟩))
  cg : ∀ i, i < 4 → w.cell? ⟨bh, 1 + i, none⟩ = some (gPtr (h.g i) (G i).g)
  fz : ∀ o, w.frozen? ⟨bh, o, none⟩ = false
  pool : PoolAt w bp bf h.s
  gu : ∀ i x, h.g i = some x → GM1 w bp (G i) x
  ap : ∀ i x, h.g i = some x → GAp (G i).g bp bf (G i).l (G i).c
  hp : bh ≠ bp ∧ bh ≠ bf
  ne : ∀ i x, h.g i = some x → ¬ (G i).has bh
  nx : ∀ i j x y, h.g i = some x → h.g j = some y → i ≠ j → ∀ k, (G i).has k → ¬ (G j).has k
  hn : 0 < h.s.n
/-- The blocks of a host. -/
def Own (bh bp bf : Nat) (G : Nat → G3) (h : Hs) (k : Nat) : Prop := k = bh ∨ k = bp ∨ k = bf ∨ ∃ i x, h.g i = some x ∧ (G i).has k
variable {w w' : World} {bh bp bf : Nat} {G G' : Nat → G3} {h h' : Hs} {n : Nat} {x : Gs} {s' : Pl} {x' : Gs} {b : Mp} {W : Int}
theorem HM.lt (m : HM w bh bp bf G h) : bh < w.heap.size ∧ bp < w.heap.size ∧ bf < w.heap.size := ⟨World.block_lt_of_cell? w _ m.c0, m.pool.ltp, m.pool.lt m.hn⟩
theorem HM.gLt (m : HM w bh bp bf G h) {i k : Nat} (hx : h.g i = some x) (hk : (G i).has k) : k < w.heap.size := by
  have q := m.gu i x hx
  rcases hk with e | e | e
  · rw [e]; exact q.ce.lt
  · rw [e]; exact q.lv.lt
  · rw [e]; exact q.ca.lt
theorem HM.ownLt (m : HM w bh bp bf G h) {k : Nat} (hk : Own bh bp bf G h k) : k < w.heap.size := by
  have := m.lt
  rcases hk with e | e | e | ⟨i, x, hx, e⟩
  · omega
  · omega
  · omega
  · exact m.gLt hx e
theorem GM1.upd {S : Nat → Prop} {q : G3} (m : GM1 w bp q x) (u : Upd S w w') (hS : ∀ k, q.has k → ¬ S k) : GM1 w' bp q x :=
  ⟨m.ce.upd u (hS _ (Or.inl rfl)), m.lv.upd u (hS _ (Or.inr (Or.inl rfl))), m.ca.upd u (hS _ (Or.inr (Or.inr rfl)))⟩
/-- Elsewhere something turned. -/
theorem HM.upd {S : Nat → Prop} (m : HM w bh bp bf G h) (u : Upd S w w') (hS : ∀ k, Own bh bp bf G h k → ¬ S k) : HM w' bh bp bf G h := by
  have hb := hS bh (Or.inl rfl)
  exact ⟨u.cell m.c0 hb, fun i hi => u.cell (m.cg i hi) hb, fun o => by rw [World.frozen?_of_block (w := w) (u.block bh m.lt.1 hb)]; exact m.fz o, m.pool.upd u (hS bp (Or.inr (Or.inl rfl))) (hS bf (Or.inr (Or.inr (Or.inl rfl)))) m.lt.2.2,
    fun i x hx => (m.gu i x hx).upd u (fun k hk => hS k (Or.inr (Or.inr (Or.inr ⟨i, x, hx, hk⟩)))), m.ap, m.hp, m.ne, m.nx, m.hn⟩
theorem HM.same (m : HM w bh bp bf G h) (u : Upd (fun _ => False) w w') : HM w' bh bp bf G h := m.upd u (fun _ _ f => f)
theorem HM.drew (m : HM w bh bp bf G h) : HM w.drew bh bp bf G h := m.same (Upd.refl _ _).drew
/-- A guest with its pool. -/
theorem HM.gg (m : HM w bh bp bf G h) (hi : HInv h W) (hx : h.g n = some x) : GG w (G n).g bp bf (G n).l (G n).c h.s x (oth h n) W :=
  ⟨(m.gu n x hx).ce, m.pool, (m.gu n x hx).lv, (m.gu n x hx).ca, m.ap n x hx, hi.ginv hx, (hi.gi n x hx).2.di, m.hn⟩
theorem own_put {r : Pl × Gs} {k : Nat} (hx : h.g n = some x) (hk : Own bh bp bf G (h.put n r) k) : Own bh bp bf G h k := by
  rcases hk with e | e | e | ⟨i, y, hy, e⟩
  · exact Or.inl e
  · exact Or.inr (Or.inl e)
  · exact Or.inr (Or.inr (Or.inl e))
  · by_cases ei : i = n
    · subst ei; exact Or.inr (Or.inr (Or.inr ⟨i, x, hx, e⟩))
    · exact Or.inr (Or.inr (Or.inr ⟨i, y, by rw [← hy]; exact (setAt_other _ _ _ _ ei).symm, e⟩))
theorem own_put2 {r : Pl × Gs} {k : Nat} (hx : h.g n = some x) (hk : Own bh bp bf G h k) : Own bh bp bf G (h.put n r) k := by
  rcases hk with e | e | e | ⟨i, y, hy, e⟩
  · exact Or.inl e
  · exact Or.inr (Or.inl e)
  · exact Or.inr (Or.inr (Or.inl e))
  · by_cases ei : i = n
    · subst ei; exact Or.inr (Or.inr (Or.inr ⟨i, r.2, put_at _ _ _, e⟩))
    · exact Or.inr (Or.inr (Or.inr ⟨i, y, by rw [← hy]; exact setAt_other _ _ _ _ ei, e⟩))
theorem gft_own (hx : h.g n = some x) {k : Nat} (hk : GFt (G n).g bf (G n).l (G n).c k) : Own bh bp bf G h k := by
  rcases hk with e | e | e | e
  · exact Or.inr (Or.inr (Or.inl e))
  · exact Or.inr (Or.inr (Or.inr ⟨n, x, hx, Or.inr (Or.inl e)⟩))
  · exact Or.inr (Or.inr (Or.inr ⟨n, x, hx, Or.inr (Or.inr e)⟩))
  · exact Or.inr (Or.inr (Or.inr ⟨n, x, hx, Or.inl e⟩))
/-- One guest's act. -/
theorem HM.act (m : HM w bh bp bf G h) (hx : h.g n = some x) (g : GG w' (G n).g bp bf (G n).l (G n).c s' x' b W) (u : Upd (GFt (G n).g bf (G n).l (G n).c) w w') : HM w' bh bp bf G (h.put n (s', x')) := by
  have ha := m.ap n x hx
  have hne : ∀ i y, (h.put n (s', x')).g i = some y → i ≠ n → h.g i = some y := fun i y hy e => by rw [← hy]; exact (setAt_other _ _ _ _ e).symm
  have hany : ∀ i y, (h.put n (s', x')).g i = some y → ∃ z, h.g i = some z := fun i y hy => by
    by_cases e : i = n
    · subst e; exact ⟨x, hx⟩
    · exact ⟨y, hne i y hy e⟩
  have hbh : ¬ GFt (G n).g bf (G n).l (G n).c bh := fun e => by
    have h1 := m.ne n x hx
    have h2 := m.hp
    rcases e with e | e | e | e
    · exact h2.2 e
    · exact h1 (Or.inr (Or.inl e))
    · exact h1 (Or.inr (Or.inr e))
    · exact h1 (Or.inl e)
  refine ⟨u.cell m.c0 hbh, fun i hi => ?_, fun o => ?_, g.pool, fun i y hy => ?_, fun i y hy => ?_, m.hp, fun i y hy => ?_, fun i j y z hy hz e => ?_, g.hn⟩
  · rw [u.cell (m.cg i hi) hbh]
    by_cases e : i = n
    · subst e
      rw [put_at, hx]; rfl
    · rw [show (h.put n (s', x')).g i = h.g i from setAt_other _ _ _ _ e]
  · rw [World.frozen?_of_block (w := w) (u.block bh m.lt.1 hbh)]; exact m.fz o
  · by_cases e : i = n
    · subst e
      rw [put_at] at hy
      cases hy
      exact ⟨g.ce, g.lv, g.ca⟩
    · have hy' := hne i y hy e
      refine (m.gu i y hy').upd u (fun k hk hf => ?_)
      have h1 := m.nx i n y x hy' hx e k hk
      have h2 := m.ap i y hy'
      unfold GAp at h2
      rcases hf with e | e | e | e
      · rcases hk with f | f | f <;> omega
      · exact h1 (Or.inr (Or.inl e))
      · exact h1 (Or.inr (Or.inr e))
      · exact h1 (Or.inl e)
  · obtain ⟨z, hz⟩ := hany i y hy
    exact m.ap i z hz
  · obtain ⟨z, hz⟩ := hany i y hy
    exact m.ne i z hz
  · obtain ⟨y', hy'⟩ := hany i y hy
    obtain ⟨z', hz'⟩ := hany j z hz
    exact m.nx i j y' z' hy' hz' e
/-- How an act of a host ends. -/
def MPost (w : World) (bh bp bf : Nat) (G : Nat → G3) (h : Hs) (r : Int × Hs) (e : Ending) (w' : World) : Prop :=
  e = .returned (errV r.1) ∧ HM w' bh bp bf G r.2 ∧ Upd (Own bh bp bf G h) w w'
/-- What is only read. -/
def MRead (w : World) (v : Value) (e : Ending) (w' : World) : Prop := e = .returned v ∧ Upd (fun _ => False) w w'
theorem HM.cNone (m : HM w bh bp bf G h) {k : Nat} (hk : k < 4) (hx : h.g k = none) : w.cell? ⟨bh, 1 + k, none⟩ = some (.pointer none) := by
  have := m.cg k hk
  rw [hx] at this
  exact this
theorem HM.cSome (m : HM w bh bp bf G h) {k : Nat} (hk : k < 4) {x : Gs} (hx : h.g k = some x) : w.cell? ⟨bh, 1 + k, none⟩ = some (.pointer (some ⟨(G k).g, 0, none⟩)) := by
  have := m.cg k hk
  rw [hx] at this
  exact this
/-- One guest's act, called. -/
theorem HM.go {f : Nat} {av : Array Value} {res : Int × Pl × Gs} {W' : Int} (m : HM w bh bp bf G h) (hi : HInv h W) (hx : h.g n = some x) (hc : GG w (G n).g bp bf (G n).l (G n).c h.s x (oth h n) W → Calls Tryz.prog f av w (GPost w (G n).g bp bf (G n).l (G n).c res (oth h n) W')) :
    Calls Tryz.prog f av w (MPost w bh bp bf G h (res.1, h.put n res.2)) := by
  refine (hc (m.gg hi hx)).mono ?_
  rintro e w' ⟨he, hg, hu⟩
  exact ⟨he, m.act hx hg hu, hu.wide (fun k hk => gft_own hx hk)⟩
end Go.Proofs.YtadpibcgjgcjhabGreat
