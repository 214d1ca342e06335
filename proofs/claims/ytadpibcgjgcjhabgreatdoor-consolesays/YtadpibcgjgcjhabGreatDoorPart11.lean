/- A host, plainly: what its loops keep. -/
import Derived.Test.YtadpibcgjgcjhabGreatDoorPart10
import Derived.Test.YtadpibcgjgcjhabGreatDoorPart07
import Derived.Test.YtadpibcgjgcjhabGreatDoorPart06
namespace Go.Proofs.YtadpibcgjgcjhabGreatDoor
open Go.RowKit
variable {h : Hs} {W : Int} {x : Gs}

/-- A guest's pointer. -/
def gPtr (o : Option Gs) (b : Nat) : Value := match o with
  | some _ => .pointer (some ⟨b, 0, none⟩)
  | none => .pointer none
theorem pln_le (S : Nat → Int) : ∀ K, pln S K ≤ K
  | 0 => Nat.le_refl _
  | K + 1 => by have := pln_le S K; simp only [pln]; split <;> omega
theorem pln_none {n : Nat} (hx : h.g n = none) : ∀ j, j ≤ 16 → pln (rowS h) (16 * n + j) = pln (rowS h) (16 * n)
  | 0, _ => rfl
  | j + 1, hj => by
    have ih := pln_none hx j (by omega)
    have : rowS h (16 * n + j) = 0 := by
      unfold rowS
      rw [show (16 * n + j) / 16 = n by omega, hx]; rfl
    rw [show 16 * n + (j + 1) = (16 * n + j) + 1 by omega]
    simp only [pln]
    rw [this, ih]; simp
theorem HInv.unplug1 {n : Nat} (hi : HInv h W) (hx : h.g n = some x) (k : Int) : HInv (h.put n (gUnplug h.s x k).2) W :=
  hi.put hx ((hi.ginv hx).unplug k) (hi.gi n x hx).2.di (unplug_n _ _ _) (Int.le_refl _)
theorem HInv.plug1 {n : Nat} (hi : HInv h W) (hx : h.g n = some x) (k : Int) : HInv (h.put n (gPlug h.s x k).2) W :=
  hi.put hx ((hi.ginv hx).plug k) (hi.gi n x hx).2.di (plug_n _ _ _) (Int.le_refl _)
theorem HInv.clear {n : Nat} (hi : HInv h W) (hx : h.g n = some x) : ∀ j, HInv (h.put n (gClear h.s x j)) W
  | 0 => by rw [show h.put n (gClear h.s x 0) = h from Hs.put_self hx]; exact hi
  | j + 1 => by
    have := (hi.clear hx j).unplug1 (put_at _ _ _) (j : Int)
    rw [put_put] at this
    exact this
theorem HInv.plugs {n : Nat} (hi : HInv h W) (hx : h.g n = some x) (b : Nat) : ∀ j, HInv (h.put n (gPlugs h.s x b j)) W
  | 0 => by rw [show h.put n (gPlugs h.s x b 0) = h from Hs.put_self hx]; exact hi
  | j + 1 => by
    have := (hi.plugs hx b j).plug1 (put_at _ _ _) ((4 * b + j : Nat) : Int)
    rw [put_put] at this
    exact this
theorem HInv.unplugs {n : Nat} (hi : HInv h W) (hx : h.g n = some x) (b : Nat) : ∀ j, HInv (h.put n (gUnplugs h.s x b j).2) W
  | 0 => by rw [show h.put n (gUnplugs h.s x b 0).2 = h from Hs.put_self hx]; exact hi
  | j + 1 => by
    have h1 := hi.unplugs hx b j
    show HInv (h.put n (if 0 < (gUnplugs h.s x b j).1 then gUnplugs h.s x b j else gUnplug (gUnplugs h.s x b j).2.1 (gUnplugs h.s x b j).2.2 ((4 * b + j : Nat) : Int)).2) W
    split
    · exact h1
    · have := h1.unplug1 (put_at _ _ _) ((4 * b + j : Nat) : Int)
      rw [put_put] at this
      exact this
theorem hFree_at {k : Nat} (hk : k < 4) (hs : ∀ i, i < k → h.g i ≠ none) (hx : h.g k = none) : hFree h = some k := by
  unfold hFree
  have : k = 0 ∨ k = 1 ∨ k = 2 ∨ k = 3 := by omega
  rcases this with rfl | rfl | rfl | rfl
  · rw [if_pos hx]
  · rw [if_neg (hs 0 (by omega)), if_pos hx]
  · rw [if_neg (hs 0 (by omega)), if_neg (hs 1 (by omega)), if_pos hx]
  · rw [if_neg (hs 0 (by omega)), if_neg (hs 1 (by omega)), if_neg (hs 2 (by omega)), if_pos hx]
theorem hFree_no (hs : ∀ i, i < 4 → h.g i ≠ none) : hFree h = none := by
  unfold hFree
  rw [if_neg (hs 0 (by omega)), if_neg (hs 1 (by omega)), if_neg (hs 2 (by omega)), if_neg (hs 3 (by omega))]
end Go.Proofs.YtadpibcgjgcjhabGreatDoor
/- Sealing, page by page; the row of leaves read by the document's host. -/
namespace Go.Proofs.YtadpibcgjgcjhabGreatDoor
open Go.RowKit
variable {h : Hs} {W : Int} {n : Nat} {x y : Gs}

theorem sealTo_zero (h : Hs) (fr : Int) : hSealTo h fr 0 = h := by
  have e : ∀ j, (hSealTo h fr 0).g j = h.g j := fun j => by
    show (h.g j).map _ = _
    cases h.g j with
    | none => rfl
    | some x =>
      have : sealOf x.m (16 * j) fr 0 = x.m := by
        unfold sealOf
        have : (fun k => if (k < 16 ∧ 16 * j + k < 0) ∧ (x.m.lf k).there = true ∧ (x.m.lf k).fr = fr then { x.m.lf k with wr := false } else x.m.lf k) = x.m.lf := by
          funext k
          rw [if_neg (by omega)]
        rw [this]
      simp only [Option.map_some]
      rw [this]
  have e2 : (hSealTo h fr 0).g = h.g := funext e
  show (⟨h.s, (hSealTo h fr 0).g⟩ : Hs) = h
  rw [e2]
theorem sealOf_next (m : Mp) (fr : Int) {j i : Nat} (hj : j ≠ i / 16) : sealOf m (16 * j) fr (i + 1) = sealOf m (16 * j) fr i := by
  unfold sealOf
  have : (fun k => if (k < 16 ∧ 16 * j + k < i + 1) ∧ (m.lf k).there = true ∧ (m.lf k).fr = fr then { m.lf k with wr := false } else m.lf k) = (fun k => if (k < 16 ∧ 16 * j + k < i) ∧ (m.lf k).there = true ∧ (m.lf k).fr = fr then { m.lf k with wr := false } else m.lf k) := by
    funext k
    by_cases hk : k < 16
    · have e : (k < 16 ∧ 16 * j + k < i + 1) ↔ (k < 16 ∧ 16 * j + k < i) := by omega
      by_cases hc : (k < 16 ∧ 16 * j + k < i) ∧ (m.lf k).there = true ∧ (m.lf k).fr = fr
      · rw [if_pos hc, if_pos ⟨e.2 hc.1, hc.2⟩]
      · rw [if_neg hc, if_neg (fun c => hc ⟨e.1 c.1, c.2⟩)]
    · rw [if_neg (fun c => hk c.1.1), if_neg (fun c => hk c.1.1)]
  rw [this]
theorem sealOf_skip (m : Mp) (fr : Int) {i : Nat} (hn : ¬ ((m.lf (i % 16)).there = true ∧ (m.lf (i % 16)).fr = fr)) : sealOf m (16 * (i / 16)) fr (i + 1) = sealOf m (16 * (i / 16)) fr i := by
  unfold sealOf
  have : (fun k => if (k < 16 ∧ 16 * (i / 16) + k < i + 1) ∧ (m.lf k).there = true ∧ (m.lf k).fr = fr then { m.lf k with wr := false } else m.lf k) = (fun k => if (k < 16 ∧ 16 * (i / 16) + k < i) ∧ (m.lf k).there = true ∧ (m.lf k).fr = fr then { m.lf k with wr := false } else m.lf k) := by
    funext k
    by_cases hk : k = i % 16
    · rw [hk, if_neg (fun c => hn c.2), if_neg (fun c => hn c.2)]
    · have e : (k < 16 ∧ 16 * (i / 16) + k < i + 1) ↔ (k < 16 ∧ 16 * (i / 16) + k < i) := by omega
      by_cases hc : (k < 16 ∧ 16 * (i / 16) + k < i) ∧ (m.lf k).there = true ∧ (m.lf k).fr = fr
      · rw [if_pos hc, if_pos ⟨e.2 hc.1, hc.2⟩]
      · rw [if_neg hc, if_neg (fun c => hc ⟨e.1 c.1, c.2⟩)]
  rw [this]
theorem sealOf_step (m : Mp) (fr : Int) {i : Nat} (ht : (m.lf (i % 16)).there = true) (hf : (m.lf (i % 16)).fr = fr) : (sealR (sealOf m (16 * (i / 16)) fr i) ((i % 16 : Nat) : Int)).2 = sealOf m (16 * (i / 16)) fr (i + 1) := by
  have hon : onB ((i % 16 : Nat) : Int) = true := (onB_iff _).2 (by omega)
  have hat : (sealOf m (16 * (i / 16)) fr i).lf (i % 16) = m.lf (i % 16) := by
    unfold sealOf
    simp only
    rw [if_neg (by omega)]
  unfold sealR
  rw [if_pos hon, Int.toNat_natCast, hat, if_pos ht]
  show ({ sealOf m (16 * (i / 16)) fr i with lf := setAt (sealOf m (16 * (i / 16)) fr i).lf (i % 16) { m.lf (i % 16) with wr := false } } : Mp) = _
  have : setAt (sealOf m (16 * (i / 16)) fr i).lf (i % 16) { m.lf (i % 16) with wr := false } = (sealOf m (16 * (i / 16)) fr (i + 1)).lf := by
    funext k
    by_cases hk : k = i % 16
    · subst hk
      rw [setAt_same]
      unfold sealOf
      simp only
      rw [if_pos ⟨⟨by omega, by omega⟩, ht, hf⟩]
    · rw [setAt_other _ _ _ _ hk]
      unfold sealOf
      simp only
      have e : (k < 16 ∧ 16 * (i / 16) + k < i + 1) ↔ (k < 16 ∧ 16 * (i / 16) + k < i) := by omega
      by_cases hc : (k < 16 ∧ 16 * (i / 16) + k < i) ∧ (m.lf k).there = true ∧ (m.lf k).fr = fr
      · rw [if_pos hc, if_pos ⟨e.2 hc.1, hc.2⟩]
      · rw [if_neg hc, if_neg (fun c => hc ⟨e.1 c.1, c.2⟩)]
  rw [this]
  rfl
theorem Hs.ext' {a b : Hs} (h1 : a.s = b.s) (h2 : ∀ j, a.g j = b.g j) : a = b := by
  cases a
  cases b
  simp only at h1 h2
  rw [h1, funext h2]
theorem sealTo_none (h : Hs) (fr : Int) {i : Nat} (hx : h.g (i / 16) = none) : hSealTo h fr (i + 1) = hSealTo h fr i := by
  refine Hs.ext' rfl (fun j => ?_)
  show (h.g j).map _ = (h.g j).map _
  by_cases e : j = i / 16
  · rw [e, hx]; rfl
  · cases h.g j with
    | none => rfl
    | some z =>
      simp only [Option.map_some]
      rw [sealOf_next _ _ e]
theorem sealTo_skip (h : Hs) (fr : Int) {i : Nat} (hx : h.g (i / 16) = some x) (hn : ¬ ((x.m.lf (i % 16)).there = true ∧ (x.m.lf (i % 16)).fr = fr)) : hSealTo h fr (i + 1) = hSealTo h fr i := by
  refine Hs.ext' rfl (fun j => ?_)
  show (h.g j).map _ = (h.g j).map _
  by_cases e : j = i / 16
  · subst e
    rw [hx]
    simp only [Option.map_some]
    rw [sealOf_skip _ _ hn]
  · cases h.g j with
    | none => rfl
    | some z =>
      simp only [Option.map_some]
      rw [sealOf_next _ _ e]
theorem sealTo_step (h : Hs) (fr : Int) {i : Nat} (hx : h.g (i / 16) = some x) (ht : (x.m.lf (i % 16)).there = true) (hf : (x.m.lf (i % 16)).fr = fr) :
    (hSealTo h fr i).put (i / 16) (gSeal h.s { x with m := sealOf x.m (16 * (i / 16)) fr i } ((i % 16 : Nat) : Int)).2 = hSealTo h fr (i + 1) := by
  refine Hs.ext' rfl (fun j => ?_)
  by_cases e : j = i / 16
  · subst e
    rw [put_at, sealTo_at h fr (i + 1) hx]
    show some ({ x with m := (sealR (sealOf x.m (16 * (i / 16)) fr i) ((i % 16 : Nat) : Int)).2 } : Gs) = _
    rw [sealOf_step _ _ ht hf]
  · show setAt (hSealTo h fr i).g (i / 16) _ j = _
    rw [setAt_other _ _ _ _ e]
    show (h.g j).map _ = (h.g j).map _
    cases h.g j with
    | none => rfl
    | some z =>
      simp only [Option.map_some]
      rw [sealOf_next _ _ e]
theorem HInv.seal1 (hi : HInv h W) (hx : h.g n = some x) (k : Int) : HInv (h.put n (gSeal h.s x k).2) W :=
  hi.put hx ((hi.ginv hx).seal k) (hi.gi n x hx).2.di rfl (Int.le_refl _)
theorem HInv.sealTo (hi : HInv h W) (fr : Int) : ∀ i, HInv (hSealTo h fr i) W
  | 0 => by rw [sealTo_zero]; exact hi
  | i + 1 => by
    have ih := hi.sealTo fr i
    cases hx : h.g (i / 16) with
    | none => rw [sealTo_none h fr hx]; exact ih
    | some x =>
      by_cases hc : (x.m.lf (i % 16)).there = true ∧ (x.m.lf (i % 16)).fr = fr
      · rw [← sealTo_step h fr hx hc.1 hc.2]
        exact ih.seal1 (sealTo_at h fr i hx) _
      · rw [sealTo_skip h fr hx hc]; exact ih
/-- A leaf of the row, whatever was sealed. -/
theorem sealTo_leaf (m : Mp) (base : Nat) (fr : Int) (i k : Nat) : ((sealOf m base fr i).lf k).there = (m.lf k).there ∧ ((sealOf m base fr i).lf k).fr = (m.lf k).fr := by
  unfold sealOf
  simp only
  split <;> exact ⟨rfl, rfl⟩
/-- The first hit. -/
theorem hFst_at {fr : Int} {k N : Nat} (hk : k < N) (hno : ∀ i, i < k → hHit h fr i = false) (hh : hHit h fr k = true) : hFst h fr 0 N = some k := by
  rcases hFst_spec h fr N 0 with ⟨j, e, _, b, c, d⟩ | ⟨_, d⟩
  · have : j = k := by
      rcases Nat.lt_trichotomy j k with h1 | h1 | h1
      · have := hno j h1; rw [c] at this; simp at this
      · exact h1
      · have := d k (by omega) h1; rw [hh] at this; simp at this
    rw [e, this]
  · have := d k (by omega) (by omega)
    rw [hh] at this; simp at this
theorem hFst_non {fr : Int} {N : Nat} (hno : ∀ i, i < N → hHit h fr i = false) : hFst h fr 0 N = none := by
  rcases hFst_spec h fr N 0 with ⟨j, _, _, b, c, _⟩ | ⟨e, _⟩
  · have := hno j (by omega); rw [c] at this; simp at this
  · exact e
theorem hHit_none {fr : Int} {k : Nat} (hx : h.g (k / 16) = none) : hHit h fr k = false := by
  unfold hHit rowL
  rw [hx]
  simp [gLf, lf0]
theorem row_some {k : Nat} (hx : h.g (k / 16) = some x) : rowL h k = x.m.lf (k % 16) := by
  unfold rowL
  rw [hx]
  rfl
end Go.Proofs.YtadpibcgjgcjhabGreatDoor
/- Package leaves: what Join and Touch answer and turn. -/
namespace Go.Proofs.YtadpibcgjgcjhabGreatDoor
open Go.ChangeShapes Go.WideShapes Go.ChangeAt Go.RowKit
set_option maxRecDepth 100000
attribute [local go_sem ↓] Go.wp_at_zero Go.wp_at_succ

theorem lvTake_ok (w : World) (bp bf j : Nat) (s : Pl) (h : PoolAt w bp bf s) (hj : j < s.n) (h0 : s.refs j = 0) (hr : ∀ i, i < j → s.refs i ≠ 0) :
    Calls Tryz.prog 200 #[.pointer (some ⟨bp, 0, none⟩)] w fun e w' => e = .returned (.tuple #[.int .i64 j, .nilIface]) ∧ PoolAt w' bp bf { s with refs := setAt s.refs j 1, byt := setAt s.byt j fun _ => 0 } ∧ Upd (fun k => k = bf) w w' := by
  refine (take_at w bp bf j s h hj h0 hr).mono ?_
  rintro e w' ⟨rfl, rfl⟩
  refine ⟨rfl, ?_, (Upd.row _ _ _ _).trans (Upd.one _ _ _ _) (fun _ _ e => e)⟩
  exact (h.setRow (f := j) hj (fun _ => 0)).setRef (f := j) hj (by omega)

/-- No frame is free: nothing turns. -/
theorem move_full (w : World) (bl bp bf k : Nat) (m : Mp) (s : Pl) (h : LvAt w bl bp m) (hp : PoolAt w bp bf s) (hfull : ∀ i, i < s.n → s.refs i ≠ 0) :
    Calls Tryz.prog 192 #[.pointer (some ⟨bl, 0, none⟩), .pointer (some ⟨bl, 1 + k * 4, none⟩)] w fun e w' => e = .returned (.tuple #[.int .i64 0, .bool false, .iface 37 (.int .i64 3)]) ∧ w' = w := by
  have c0 := h.pool
  have HF : Hid _ := hfull
  clear hfull
  go_enter Tryz.func192, Tryz.ntmps192
  go_wp2_with fail
  refine (take_full _ _ _ s hp HF.out).mono ?_
  rintro e w1 ⟨rfl, rfl⟩
  go_wp2_with fail
  go_ret3
  exact ⟨rfl, rfl⟩
/-- The page was in no frame. -/
theorem move_new (w : World) (bl bp bf k j : Nat) (m : Mp) (s : Pl) (h : LvAt w bl bp m) (hp : PoolAt w bp bf s) (h1 : bl ≠ bp) (h2 : bl ≠ bf) (hk : k < 16) (hlt : bf < w.heap.size) (hm : ∀ k, k < s.n → s.refs k ≤ 1000000)
    (ht : (m.lf k).there = false) (hj : j < s.n) (hj0 : s.refs j = 0) (hjr : ∀ i, i < j → s.refs i ≠ 0) :
    Calls Tryz.prog 192 #[.pointer (some ⟨bl, 0, none⟩), .pointer (some ⟨bl, 1 + k * 4, none⟩)] w fun e w' => e = .returned (.tuple #[.int .i64 j, .bool false, .nilIface]) ∧
      PoolAt w' bp bf { s with refs := setAt s.refs j 1, byt := setAt s.byt j fun _ => 0 } ∧ LvAt w' bl bp { m with lf := setAt m.lf k ⟨true, true, j⟩ } ∧ Upd (fun k => k = bf ∨ k = bl) w w' := by
  have c0 := h.pool
  have H1 : Hid _ := h1
  have H2 : Hid _ := h2
  have HM : Hid _ := hm
  have HT : Hid _ := ht
  have HJ0 : Hid _ := hj0
  have HJR : Hid _ := hjr
  clear ht h1 h2 hm hj0 hjr
  go_enter Tryz.func192, Tryz.ntmps192
  go_wp2_with fail
  refine (lvTake_ok _ _ _ j s hp hj HJ0.out HJR.out).mono ?_
  rintro e w1 ⟨rfl, hp1, hu1⟩
  have hl1 := h.upd hu1 H2.out
  have c1 := hl1.th k hk
  rw [HT.out] at c1
  clear c0
  go_wp2_with fail
  refine (leave_any _ _ _ _ k m _ hl1 hp1 H1.out H2.out hk (Nat.lt_of_lt_of_le hlt hu1.size) (setAt_le (fun f hf => HM.out f hf) (by omega))).mono ?_
  rintro e w2 ⟨rfl, hp2, hl2, hu2⟩
  simp only [leaveP, HT.out, Bool.false_eq_true, if_false] at hp2
  have d1 := hl2.th k hk
  have d2 := hl2.wr k hk
  have d3 := hl2.fr k hk
  have d4 := hl2.fz (1 + k * 4 + 1)
  have d5 := hl2.fz (1 + k * 4 + 1 + 1)
  have d6 := hl2.fz (1 + k * 4 + 1 + 2)
  have h3 := hl2.setLf hk ⟨true, true, j⟩
  simp only [leaveM, setAt_twice] at h3
  have hu3 := Upd.three w2 bl (1 + k * 4 + 1) (1 + k * 4 + 1 + 1) (1 + k * 4 + 1 + 2) (.bool true) (.bool true) (.int .i64 j)
  have hp3 := hp2.upd hu3 (Ne.symm H1.out) (Ne.symm H2.out) (Nat.lt_of_lt_of_le hlt (Nat.le_trans hu1.size hu2.size))
  have hu4 := ((hu1.wide (T := fun k => k = bf ∨ k = bl) (fun _ e => Or.inl e)).trans hu2 (fun _ _ e => e)).trans hu3 (fun _ _ e => Or.inr e)
  have H3 : Hid _ := h3
  have HU4 : Hid _ := hu4
  have HP3 : Hid _ := hp3
  clear h3 hu3 hp3 hu4 hl1 hu1 hp1 hp2 hu2 hl2 c1
  go_wp2_with fail
  go_ret3
  exact ⟨rfl, HP3.out, H3.out, HU4.out⟩
/-- The page was in a frame: it moves. -/
theorem move_yes (w : World) (bl bp bf k j : Nat) (m : Mp) (s : Pl) (h : LvAt w bl bp m) (hp : PoolAt w bp bf s) (h1 : bl ≠ bp) (h2 : bl ≠ bf) (hk : k < 16) (hlt : bf < w.heap.size) (hm : ∀ k, k < s.n → s.refs k ≤ 1000000)
    (ht : (m.lf k).there = true) (f0 : 0 ≤ (m.lf k).fr) (f1 : (m.lf k).fr < s.n) (hused : s.refs (m.lf k).fr.toNat ≠ 0) (hj : j < s.n) (hj0 : s.refs j = 0) (hjr : ∀ i, i < j → s.refs i ≠ 0) :
    Calls Tryz.prog 192 #[.pointer (some ⟨bl, 0, none⟩), .pointer (some ⟨bl, 1 + k * 4, none⟩)] w fun e w' => e = .returned (.tuple #[.int .i64 j, .bool true, .nilIface]) ∧
      PoolAt w' bp bf (({ s with refs := setAt s.refs j 1, byt := setAt (setAt s.byt j fun _ => 0) j (setAt s.byt j (fun _ => 0) (m.lf k).fr.toNat) } : Pl).share (m.lf k).fr (-1)).2 ∧ LvAt w' bl bp { m with lf := setAt m.lf k ⟨true, true, j⟩ } ∧ Upd (fun k => k = bf ∨ k = bl) w w' := by
  have c0 := h.pool
  have hfj : (m.lf k).fr.toNat ≠ j := fun e => hused (by rw [e]; exact hj0)
  have hfill : ({ s with refs := setAt s.refs j 1, byt := setAt s.byt j fun _ => 0 } : Pl).fill j (m.lf k).fr = (0, { s with refs := setAt s.refs j 1, byt := setAt (setAt s.byt j fun _ => 0) j (setAt s.byt j (fun _ => 0) (m.lf k).fr.toNat) }) := by
    have e1 : ({ s with refs := setAt s.refs j 1, byt := setAt s.byt j fun _ => 0 } : Pl).used j = true := (Pl.used_iff _ _).2 ⟨by omega, by show (j : Int) < s.n; omega, by show setAt s.refs j 1 _ ≠ 0; rw [Int.toNat_natCast, setAt_same]; omega⟩
    have e2 : ({ s with refs := setAt s.refs j 1, byt := setAt s.byt j fun _ => 0 } : Pl).used (m.lf k).fr = true := (Pl.used_iff _ _).2 ⟨f0, f1, by show setAt s.refs j 1 _ ≠ 0; rw [setAt_other _ _ _ _ hfj]; exact hused⟩
    unfold Pl.fill
    rw [e1, e2]
    simp only [Int.toNat_natCast, setAt_same, Bool.and_self, if_true]
    rw [if_neg (by omega)]
  have H1 : Hid _ := h1
  have H2 : Hid _ := h2
  have HM : Hid _ := hm
  have HT : Hid _ := ht
  have HJ0 : Hid _ := hj0
  have HJR : Hid _ := hjr
  have HFJ : Hid _ := hfj
  have HFI : Hid _ := hfill
  clear ht h1 h2 hm hj0 hjr hfj hused hfill
  go_enter Tryz.func192, Tryz.ntmps192
  go_wp2_with fail
  refine (lvTake_ok _ _ _ j s hp hj HJ0.out HJR.out).mono ?_
  rintro e w1 ⟨rfl, hp1, hu1⟩
  have hl1 := h.upd hu1 H2.out
  have c1 := hl1.th k hk
  have c2 := hl1.fr k hk
  have c3 := hl1.pool
  rw [HT.out] at c1
  clear c0
  go_wp2_with fail
  go_region_held3 (fun w' => w'.cell? ⟨bl, 0, none⟩ = some (.pointer (some ⟨bp, 0, none⟩)) ∧ w'.cell? ⟨bl, 1 + k * 4 + 1 + 2, none⟩ = some (.int .i64 (m.lf k).fr)) (first | exact ⟨c3, c2⟩ | exact h1c)
    ((go_at_call 201; refine (fill_any _ _ _ _ _ _ (by first | exact hp1 | exact hp1.drew)).mono ?_; rintro e w2 ⟨rfl, hp2, hu2⟩; have h1c : w2.cell? ⟨bl, 0, none⟩ = some (.pointer (some ⟨bp, 0, none⟩)) ∧ w2.cell? ⟨bl, 1 + k * 4 + 1 + 2, none⟩ = some (.int .i64 (m.lf k).fr) := ⟨hu2.cell (by exact c3) H2.out, hu2.cell (by exact c2) H2.out⟩))
  rw [HFI.out] at hp2
  simp only at hp2
  have hu2' : Upd (fun k => k = bf) w w2 := hu1.drew.trans hu2 (fun _ _ e => e)
  have hl2 := h.upd hu2' H2.out
  clear h1c hl1 c1 c2 c3 hp1 hu1 hu2
  go_wp2_with fail
  refine (leave_any _ _ _ _ k m _ hl2 hp2 H1.out H2.out hk (Nat.lt_of_lt_of_le hlt hu2'.size) (setAt_le (fun f hf => HM.out f hf) (by omega))).mono ?_
  rintro e w3 ⟨rfl, hp3, hl3, hu3⟩
  simp only [leaveP, HT.out, if_true] at hp3
  have d1 := hl3.th k hk
  have d2 := hl3.wr k hk
  have d3 := hl3.fr k hk
  have d4 := hl3.fz (1 + k * 4 + 1)
  have d5 := hl3.fz (1 + k * 4 + 1 + 1)
  have d6 := hl3.fz (1 + k * 4 + 1 + 2)
  have h4 := hl3.setLf hk ⟨true, true, j⟩
  simp only [leaveM, setAt_twice] at h4
  have hu4 := Upd.three w3 bl (1 + k * 4 + 1) (1 + k * 4 + 1 + 1) (1 + k * 4 + 1 + 2) (.bool true) (.bool true) (.int .i64 j)
  have hp4 := hp3.upd hu4 (Ne.symm H1.out) (Ne.symm H2.out) (Nat.lt_of_lt_of_le hlt (Nat.le_trans hu2'.size hu3.size))
  have hu5 := ((hu2'.wide (T := fun k => k = bf ∨ k = bl) (fun _ e => Or.inl e)).trans hu3 (fun _ _ e => e)).trans hu4 (fun _ _ e => Or.inr e)
  have H4 : Hid _ := h4
  have HU5 : Hid _ := hu5
  have HP4 : Hid _ := hp4
  clear h4 hu4 hp4 hu5 hl2 hu2' hp2 hp3 hu3 hl3
  go_wp2_with fail
  go_ret3
  exact ⟨rfl, HP4.out, H4.out, HU5.out⟩
end Go.Proofs.YtadpibcgjgcjhabGreatDoor
/- Package leaves: what Touch answers and turns. -/
namespace Go.Proofs.YtadpibcgjgcjhabGreatDoor
open Go.ChangeShapes Go.WideShapes Go.ChangeAt Go.RowKit
set_option maxRecDepth 100000
attribute [local go_sem ↓] Go.wp_at_zero Go.wp_at_succ

theorem lvTouch_out (w : World) (bl : Nat) (n : Int) (wt : Bool) (ho : onB n = false) :
    Calls Tryz.prog 173 #[.pointer (some ⟨bl, 0, none⟩), .int .i64 n, .bool wt] w fun e w' => e = .returned (.tuple #[.int .i64 0, .bool false, .iface 37 (.int .i64 1)]) ∧ w' = w := by
  go_enter Tryz.func173, Tryz.ntmps173
  go_wp2_with (go_at_call 147; refine (page_no _ _ _ ho).mono ?_; rintro e w' ⟨rfl, rfl⟩)
  go_ret3
  exact ⟨rfl, rfl⟩
theorem lvTouch_absent (w : World) (bl bp k : Nat) (wt : Bool) (m : Mp) (h : LvAt w bl bp m) (hk : k < 16) (hs : m.st k = 0) :
    Calls Tryz.prog 173 #[.pointer (some ⟨bl, 0, none⟩), .int .i64 k, .bool wt] w fun e w' => e = .returned (.tuple #[.int .i64 0, .bool false, .iface 37 (.int .i64 2)]) ∧ w' = w := by
  have c1 := h.st k hk
  have b1 : (m.st k == 0) = true := by simp [hs]
  clear hs
  go_enter Tryz.func173, Tryz.ntmps173
  go_wp2_with (go_at_call 147; refine (page_yes _ _ _ hk).mono ?_; rintro e w' ⟨rfl, rfl⟩)
  go_ret3
  exact ⟨rfl, rfl⟩
theorem lvTouch_gone (w : World) (bl bp k : Nat) (wt : Bool) (m : Mp) (h : LvAt w bl bp m) (hk : k < 16) (hs : m.st k = 2) :
    Calls Tryz.prog 173 #[.pointer (some ⟨bl, 0, none⟩), .int .i64 k, .bool wt] w fun e w' => e = .returned (.tuple #[.int .i64 0, .bool false, .iface 37 (.int .i64 6)]) ∧ w' = w := by
  have c1 := h.st k hk
  have b1 : (m.st k == 0) = false := by simp [hs]
  have b2 : (m.st k == 2) = true := by simp [hs]
  clear hs
  go_enter Tryz.func173, Tryz.ntmps173
  go_wp2_with (go_at_call 147; refine (page_yes _ _ _ hk).mono ?_; rintro e w' ⟨rfl, rfl⟩)
  go_ret3
  exact ⟨rfl, rfl⟩
theorem lvTouch_keep (w : World) (bl bp k : Nat) (wt : Bool) (m : Mp) (h : LvAt w bl bp m) (hk : k < 16) (h0 : m.st k ≠ 0) (h2 : m.st k ≠ 2) (ht : (m.lf k).there = true) (hw : (!wt || (m.lf k).wr) = true) :
    Calls Tryz.prog 173 #[.pointer (some ⟨bl, 0, none⟩), .int .i64 k, .bool wt] w fun e w' => e = .returned (.tuple #[.int .i64 (m.lf k).fr, .bool false, .nilIface]) ∧ w' = w := by
  have c1 := h.st k hk
  have b1 : (m.st k == 0) = false := by simp [h0]
  have b2 : (m.st k == 2) = false := by simp [h2]
  have c2 := h.th k hk
  have c3 := h.wr k hk
  have c4 := h.fr k hk
  rw [ht] at c2
  clear h0 h2 ht
  cases hwr : (m.lf k).wr with
  | true =>
    rw [hwr] at c3
    clear hw hwr
    go_enter Tryz.func173, Tryz.ntmps173
    go_wp2_with (go_at_call 147; refine (page_yes _ _ _ hk).mono ?_; rintro e w' ⟨rfl, rfl⟩)
    go_ret3
    exact ⟨rfl, rfl⟩
  | false =>
    rw [hwr] at c3 hw
    obtain rfl : wt = false := by simpa using hw
    clear hw hwr
    go_enter Tryz.func173, Tryz.ntmps173
    go_wp2_with (go_at_call 147; refine (page_yes _ _ _ hk).mono ?_; rintro e w' ⟨rfl, rfl⟩)
    go_ret3
    exact ⟨rfl, rfl⟩
theorem alone_is (w : World) (bl bp bf : Nat) (f : Int) (m : Mp) (s : Pl) (h : LvAt w bl bp m) (hp : PoolAt w bp bf s) (f0 : 0 ≤ f) (f1 : f < s.n) {u : Bool} (hu : (s.refs f.toNat == 1) = u) :
    Calls Tryz.prog 191 #[.pointer (some ⟨bl, 0, none⟩), .int .i64 f] w fun e w' => e = .returned (.bool u) ∧ Upd (fun _ => False) w w' := by
  subst hu; exact alone_any w bl bp bf f m s h hp f0 f1
theorem lvTouch_own (w : World) (bl bp bf k : Nat) (m : Mp) (s : Pl) (h : LvAt w bl bp m) (hp : PoolAt w bp bf s) (h1 : bl ≠ bp) (h2 : bl ≠ bf) (hk : k < 16) (hlt : bf < w.heap.size) (s0 : m.st k ≠ 0) (s2 : m.st k ≠ 2)
    (ht : (m.lf k).there = true) (hw : (m.lf k).wr = false) (f0 : 0 ≤ (m.lf k).fr) (f1 : (m.lf k).fr < s.n) (hone : s.refs (m.lf k).fr.toNat = 1) :
    Calls Tryz.prog 173 #[.pointer (some ⟨bl, 0, none⟩), .int .i64 k, .bool true] w fun e w' => e = .returned (.tuple #[.int .i64 (m.lf k).fr, .bool false, .nilIface]) ∧
      PoolAt w' bp bf s ∧ LvAt w' bl bp { m with lf := setAt m.lf k { m.lf k with wr := true } } ∧ Upd (fun k => k = bf ∨ k = bl) w w' := by
  have c1 := h.st k hk
  have b1 : (m.st k == 0) = false := by simp [s0]
  have b2 : (m.st k == 2) = false := by simp [s2]
  have c2 := h.th k hk
  have c3 := h.wr k hk
  have c4 := h.fr k hk
  rw [ht] at c2
  rw [hw] at c3
  have H1 : Hid _ := h1
  have H2 : Hid _ := h2
  have HT : Hid _ := ht
  have hb : (s.refs (m.lf k).fr.toNat == 1) = true := by simp [hone]
  have HB : Hid _ := hb
  clear s0 s2 ht hw h1 h2 hone hb
  go_enter Tryz.func173, Tryz.ntmps173
  go_wp2_with (go_at_call 147; refine (page_yes _ _ _ hk).mono ?_; rintro e w' ⟨rfl, rfl⟩)
  refine (alone_is _ _ _ _ _ m s h hp f0 f1 HB.out).mono ?_
  rintro e w1 ⟨rfl, hu1⟩
  have hl1 := h.upd hu1 (fun f => f)
  have hp1 := hp.upd hu1 (fun f => f) (fun f => f) hlt
  have d2 := hl1.wr k hk
  have d3 := hl1.fr k hk
  have d4 := hl1.fz (1 + k * 4 + 1 + 1)
  have h3 := hl1.setWr hk true
  have d5 := h3.fr k hk
  simp only [setAt_same] at d5
  have hu3 := Upd.one w1 bl (1 + k * 4 + 1 + 1) (.bool true)
  have hp3 := hp1.upd hu3 (Ne.symm H1.out) (Ne.symm H2.out) (Nat.lt_of_lt_of_le hlt hu1.size)
  have hu4 := (hu1.wide (T := fun k => k = bf ∨ k = bl) (fun _ f => f.elim)).trans hu3 (fun _ _ e => Or.inr e)
  have H3 : Hid _ := h3
  have HU4 : Hid _ := hu4
  have HP3 : Hid _ := hp3
  clear h3 hu3 hp3 hu4 hl1 hu1 hp1 c1 c2 c3 c4
  go_wp2_with fail
  go_ret3
  exact ⟨rfl, HP3.out, H3.out, HU4.out⟩
theorem lvTouch_new (w : World) (bl bp k : Nat) (wt : Bool) (m : Mp) (h : LvAt w bl bp m) (hk : k < 16) (s0 : m.st k ≠ 0) (s2 : m.st k ≠ 2) (ht : (m.lf k).there = false) (x y z : Value) (R : World → Prop)
    (hmv : Calls Tryz.prog 192 #[.pointer (some ⟨bl, 0, none⟩), .pointer (some ⟨bl, 1 + k * 4, none⟩)] w fun e w' => e = .returned (.tuple #[x, y, z]) ∧ R w') :
    Calls Tryz.prog 173 #[.pointer (some ⟨bl, 0, none⟩), .int .i64 k, .bool wt] w fun e w' => e = .returned (.tuple #[x, y, z]) ∧ R w' := by
  have c1 := h.st k hk
  have b1 : (m.st k == 0) = false := by simp [s0]
  have b2 : (m.st k == 2) = false := by simp [s2]
  have c2 := h.th k hk
  rw [ht] at c2
  clear s0 s2 ht
  go_enter Tryz.func173, Tryz.ntmps173
  go_wp2_with (go_at_call 147; refine (page_yes _ _ _ hk).mono ?_; rintro e w' ⟨rfl, rfl⟩)
  refine Calls.mono hmv ?_
  rintro e w1 ⟨rfl, hR⟩
  go_wp2_with fail
  go_ret3
  exact ⟨rfl, hR⟩
theorem lvTouch_shared (w : World) (bl bp bf k : Nat) (m : Mp) (s : Pl) (h : LvAt w bl bp m) (hp : PoolAt w bp bf s) (hk : k < 16) (s0 : m.st k ≠ 0) (s2 : m.st k ≠ 2)
    (ht : (m.lf k).there = true) (hw : (m.lf k).wr = false) (f0 : 0 ≤ (m.lf k).fr) (f1 : (m.lf k).fr < s.n) (hone : s.refs (m.lf k).fr.toNat ≠ 1) (x y z : Value) (R : World → Prop)
    (hmv : ∀ w1, Upd (fun _ => False) w w1 → Calls Tryz.prog 192 #[.pointer (some ⟨bl, 0, none⟩), .pointer (some ⟨bl, 1 + k * 4, none⟩)] w1 fun e w' => e = .returned (.tuple #[x, y, z]) ∧ R w') :
    Calls Tryz.prog 173 #[.pointer (some ⟨bl, 0, none⟩), .int .i64 k, .bool true] w fun e w' => e = .returned (.tuple #[x, y, z]) ∧ R w' := by
  have c1 := h.st k hk
  have b1 : (m.st k == 0) = false := by simp [s0]
  have b2 : (m.st k == 2) = false := by simp [s2]
  have c2 := h.th k hk
  have c3 := h.wr k hk
  have c4 := h.fr k hk
  rw [ht] at c2
  rw [hw] at c3
  have hb : (s.refs (m.lf k).fr.toNat == 1) = false := by simp [hone]
  have HB : Hid _ := hb
  clear s0 s2 ht hw hone hb
  go_enter Tryz.func173, Tryz.ntmps173
  go_wp2_with (go_at_call 147; refine (page_yes _ _ _ hk).mono ?_; rintro e w' ⟨rfl, rfl⟩)
  refine (alone_is _ _ _ _ _ m s h hp f0 f1 HB.out).mono ?_
  rintro e w1 ⟨rfl, hu1⟩
  clear c1 c2 c3 c4
  go_wp2_with fail
  refine Calls.mono (hmv w1 hu1) ?_
  rintro e w2 ⟨rfl, hR⟩
  go_wp2_with fail
  go_ret3
  exact ⟨rfl, hR⟩
theorem lvTouch (w : World) (bl bp bf : Nat) (n : Int) (wt : Bool) (m m' : Mp) (s : Pl) (h : LvAt w bl bp m) (hp : PoolAt w bp bf s) (h1 : bl ≠ bp) (h2 : bl ≠ bf) (hn : 0 < s.n) (hi : Inv s m m') :
    Calls Tryz.prog 173 #[.pointer (some ⟨bl, 0, none⟩), .int .i64 n, .bool wt] w fun e w' => e = .returned (.tuple #[.int .i64 (touchR s m n wt).1.1, .bool (touchR s m n wt).1.2.1, errV (touchR s m n wt).1.2.2]) ∧ PoolAt w' bp bf (touchR s m n wt).2.1 ∧ LvAt w' bl bp (touchR s m n wt).2.2 ∧ Upd (fun k => k = bf ∨ k = bl) w w' := by
  have hlt : bf < w.heap.size := World.block_lt_of_cell? w _ (hp.refs 0 hn)
  have hm : ∀ k, k < s.n → s.refs k ≤ 1000000 := fun k hk => by have := hi.le k hk; omega
  cases ho : onB n with
  | false =>
    simp only [touchR, ho, Bool.false_eq_true, if_false, errV1]
    refine (lvTouch_out w bl n wt ho).mono ?_
    rintro e w' ⟨rfl, rfl⟩
    exact ⟨rfl, hp, h, Upd.refl _ _⟩
  | true =>
    obtain ⟨h0, h1'⟩ := (onB_iff n).1 ho
    obtain ⟨k, rfl⟩ := Int.eq_ofNat_of_zero_le h0
    have hk : k < 16 := by omega
    by_cases s0 : m.st k = 0
    · simp only [touchR, ho, if_true, Int.toNat_natCast, s0, errV2]
      refine (lvTouch_absent w bl bp k wt m h hk s0).mono ?_
      rintro e w' ⟨rfl, rfl⟩
      exact ⟨rfl, hp, h, Upd.refl _ _⟩
    · by_cases s2 : m.st k = 2
      · simp only [touchR, ho, if_true, Int.toNat_natCast, s2, errV6, show ¬ ((2 : Int) = 0) by omega, if_false]
        refine (lvTouch_gone w bl bp k wt m h hk s2).mono ?_
        rintro e w' ⟨rfl, rfl⟩
        exact ⟨rfl, hp, h, Upd.refl _ _⟩
      · cases ha : ((m.lf k).there && (!wt || (m.lf k).wr)) with
        | true =>
          simp only [touchR, ho, if_true, Int.toNat_natCast, s0, s2, if_false, ha, errV_zero]
          simp only [Bool.and_eq_true] at ha
          refine (lvTouch_keep w bl bp k wt m h hk s0 s2 ha.1 ha.2).mono ?_
          rintro e w' ⟨rfl, rfl⟩
          exact ⟨rfl, hp, h, Upd.refl _ _⟩
        | false =>
          cases ht : (m.lf k).there with
          | false =>
            have hsp := firstFrom_spec s.refs s.n 0
            cases hff : firstFrom s.refs 0 s.n with
            | none =>
              rw [hff] at hsp
              simp only [touchR, ho, if_true, Int.toNat_natCast, s0, s2, if_false, ht, Bool.false_and, Bool.false_eq_true, take_none hff, show ¬ ((3 : Int) = 0) by omega, errV3]
              refine lvTouch_new w bl bp k wt m h hk s0 s2 ht _ _ _ _ ?_
              refine (move_full w bl bp bf k m s h hp (fun i hi => hsp i (by omega) (by omega))).mono ?_
              rintro e w' ⟨rfl, rfl⟩
              exact ⟨rfl, hp, h, Upd.refl _ _⟩
            | some j =>
              rw [hff] at hsp
              obtain ⟨_, j1, j2, j3⟩ := hsp
              simp only [touchR, ho, if_true, Int.toNat_natCast, s0, s2, if_false, ht, Bool.false_and, Bool.false_eq_true, take_some hff, errV_zero]
              exact lvTouch_new w bl bp k wt m h hk s0 s2 ht _ _ _ _ (move_new w bl bp bf k j m s h hp h1 h2 hk hlt hm ht (by omega) j2 (fun i hi => j3 i (by omega) hi))
          | true =>
            rw [ht] at ha
            have hw : (m.lf k).wr = false := by
              cases hh : (m.lf k).wr with
              | false => rfl
              | true => rw [hh] at ha; simp at ha
            have hwt : wt = true := by
              cases wt with
              | true => rfl
              | false => simp at ha
            subst hwt
            obtain ⟨f0, f1, f2⟩ := hi.ok k hk ht
            by_cases hone : s.refs (m.lf k).fr.toNat = 1
            · have hb : (s.refs (m.lf k).fr.toNat == 1) = true := by simp [hone]
              simp only [touchR, ho, if_true, Int.toNat_natCast, s0, s2, if_false, ht, hw, hb, Bool.true_and, Bool.not_true, Bool.or_self, Bool.false_eq_true, errV_zero]
              have := lvTouch_own w bl bp bf k m s h hp h1 h2 hk hlt s0 s2 ht hw f0 f1 hone
              simpa only [ht] using this
            · have hb : (s.refs (m.lf k).fr.toNat == 1) = false := by simp [hone]
              have hsp := firstFrom_spec s.refs s.n 0
              cases hff : firstFrom s.refs 0 s.n with
              | none =>
                rw [hff] at hsp
                simp only [touchR, ho, if_true, Int.toNat_natCast, s0, s2, if_false, ht, hw, hb, Bool.and_false, Bool.not_true, Bool.or_self, Bool.false_eq_true, take_none hff, show ¬ ((3 : Int) = 0) by omega, errV3]
                refine lvTouch_shared w bl bp bf k m s h hp hk s0 s2 ht hw f0 f1 hone _ _ _ _ (fun w1 hu1 => ?_)
                refine (move_full w1 bl bp bf k m s (h.upd hu1 (fun f => f)) (hp.upd hu1 (fun f => f) (fun f => f) hlt) (fun i hi => hsp i (by omega) (by omega))).mono ?_
                rintro e w' ⟨rfl, rfl⟩
                exact ⟨rfl, hp.upd hu1 (fun f => f) (fun f => f) hlt, h.upd hu1 (fun f => f), hu1.wide (fun _ f => f.elim)⟩
              | some j =>
                rw [hff] at hsp
                obtain ⟨_, j1, j2, j3⟩ := hsp
                simp only [touchR, ho, if_true, Int.toNat_natCast, s0, s2, if_false, ht, hw, hb, Bool.and_false, Bool.not_true, Bool.or_self, Bool.false_eq_true, take_some hff, errV_zero]
                refine lvTouch_shared w bl bp bf k m s h hp hk s0 s2 ht hw f0 f1 hone _ _ _ _ (fun w1 hu1 => ?_)
                refine (move_yes w1 bl bp bf k j m s (h.upd hu1 (fun f => f)) (hp.upd hu1 (fun f => f) (fun f => f) hlt) h1 h2 hk (Nat.lt_of_lt_of_le hlt hu1.size) hm ht f0 f1 f2 (by omega) j2 (fun i hi => j3 i (by omega) hi)).mono ?_
                rintro e w' ⟨rfl, a1, a2, a3⟩
                exact ⟨rfl, a1, a2, (hu1.wide (fun _ f => f.elim)).trans a3 (fun _ _ e => e)⟩
end Go.Proofs.YtadpibcgjgcjhabGreatDoor
/- Package leaves: what Join, New and Copy answer and turn. -/
namespace Go.Proofs.YtadpibcgjgcjhabGreatDoor
open Go.ChangeShapes Go.WideShapes Go.ChangeAt Go.RowKit
set_option maxRecDepth 100000
attribute [local go_sem ↓] Go.wp_at_zero Go.wp_at_succ

/-- The pages' cells, in their order. -/
def pgCells (m : Mp) : List Value := [.int .i64 (m.st 0), .bool (m.lf 0).there, .bool (m.lf 0).wr, .int .i64 (m.lf 0).fr, .int .i64 (m.st 1), .bool (m.lf 1).there, .bool (m.lf 1).wr, .int .i64 (m.lf 1).fr, .int .i64 (m.st 2), .bool (m.lf 2).there, .bool (m.lf 2).wr, .int .i64 (m.lf 2).fr, .int .i64 (m.st 3), .bool (m.lf 3).there, .bool (m.lf 3).wr, .int .i64 (m.lf 3).fr, .int .i64 (m.st 4), .bool (m.lf 4).there, .bool (m.lf 4).wr, .int .i64 (m.lf 4).fr, .int .i64 (m.st 5), .bool (m.lf 5).there, .bool (m.lf 5).wr, .int .i64 (m.lf 5).fr, .int .i64 (m.st 6), .bool (m.lf 6).there, .bool (m.lf 6).wr, .int .i64 (m.lf 6).fr, .int .i64 (m.st 7), .bool (m.lf 7).there, .bool (m.lf 7).wr, .int .i64 (m.lf 7).fr, .int .i64 (m.st 8), .bool (m.lf 8).there, .bool (m.lf 8).wr, .int .i64 (m.lf 8).fr, .int .i64 (m.st 9), .bool (m.lf 9).there, .bool (m.lf 9).wr, .int .i64 (m.lf 9).fr, .int .i64 (m.st 10), .bool (m.lf 10).there, .bool (m.lf 10).wr, .int .i64 (m.lf 10).fr, .int .i64 (m.st 11), .bool (m.lf 11).there, .bool (m.lf 11).wr, .int .i64 (m.lf 11).fr, .int .i64 (m.st 12), .bool (m.lf 12).there, .bool (m.lf 12).wr, .int .i64 (m.lf 12).fr, .int .i64 (m.st 13), .bool (m.lf 13).there, .bool (m.lf 13).wr, .int .i64 (m.lf 13).fr, .int .i64 (m.st 14), .bool (m.lf 14).there, .bool (m.lf 14).wr, .int .i64 (m.lf 14).fr, .int .i64 (m.st 15), .bool (m.lf 15).there, .bool (m.lf 15).wr, .int .i64 (m.lf 15).fr]
theorem pg_st (m : Mp) : ∀ n, n < 16 → (pgCells m)[n * 4]? = some (.int .i64 (m.st n))
  | 0, _ => rfl
  | 1, _ => rfl
  | 2, _ => rfl
  | 3, _ => rfl
  | 4, _ => rfl
  | 5, _ => rfl
  | 6, _ => rfl
  | 7, _ => rfl
  | 8, _ => rfl
  | 9, _ => rfl
  | 10, _ => rfl
  | 11, _ => rfl
  | 12, _ => rfl
  | 13, _ => rfl
  | 14, _ => rfl
  | 15, _ => rfl
  | n + 16, h => absurd h (by omega)
theorem pg_th (m : Mp) : ∀ n, n < 16 → (pgCells m)[n * 4 + 1]? = some (.bool (m.lf n).there)
  | 0, _ => rfl
  | 1, _ => rfl
  | 2, _ => rfl
  | 3, _ => rfl
  | 4, _ => rfl
  | 5, _ => rfl
  | 6, _ => rfl
  | 7, _ => rfl
  | 8, _ => rfl
  | 9, _ => rfl
  | 10, _ => rfl
  | 11, _ => rfl
  | 12, _ => rfl
  | 13, _ => rfl
  | 14, _ => rfl
  | 15, _ => rfl
  | n + 16, h => absurd h (by omega)
theorem pg_wr (m : Mp) : ∀ n, n < 16 → (pgCells m)[n * 4 + 2]? = some (.bool (m.lf n).wr)
  | 0, _ => rfl
  | 1, _ => rfl
  | 2, _ => rfl
  | 3, _ => rfl
  | 4, _ => rfl
  | 5, _ => rfl
  | 6, _ => rfl
  | 7, _ => rfl
  | 8, _ => rfl
  | 9, _ => rfl
  | 10, _ => rfl
  | 11, _ => rfl
  | 12, _ => rfl
  | 13, _ => rfl
  | 14, _ => rfl
  | 15, _ => rfl
  | n + 16, h => absurd h (by omega)
theorem pg_fr (m : Mp) : ∀ n, n < 16 → (pgCells m)[n * 4 + 3]? = some (.int .i64 (m.lf n).fr)
  | 0, _ => rfl
  | 1, _ => rfl
  | 2, _ => rfl
  | 3, _ => rfl
  | 4, _ => rfl
  | 5, _ => rfl
  | 6, _ => rfl
  | 7, _ => rfl
  | 8, _ => rfl
  | 9, _ => rfl
  | 10, _ => rfl
  | 11, _ => rfl
  | 12, _ => rfl
  | 13, _ => rfl
  | 14, _ => rfl
  | 15, _ => rfl
  | n + 16, h => absurd h (by omega)
/-- A map that is made anew. -/
theorem LvAt.new (w : World) (bp : Nat) (m : Mp) (t : TypeId) : LvAt (w.alloc (.cells (.pointer (some ⟨bp, 0, none⟩) :: pgCells m).toArray t)) w.heap.size bp m where
  pool := by rw [World.cell?_alloc_new]; rfl
  st := fun n hn => by
    rw [World.cell?_alloc_new]
    have := pg_st m n hn
    rw [show 1 + n * 4 = n * 4 + 1 by omega]
    simpa using this
  th := fun n hn => by
    rw [World.cell?_alloc_new]
    have := pg_th m n hn
    rw [show 1 + n * 4 + 1 = (n * 4 + 1) + 1 by omega]
    simpa using this
  wr := fun n hn => by
    rw [World.cell?_alloc_new]
    have := pg_wr m n hn
    rw [show 1 + n * 4 + 1 + 1 = (n * 4 + 2) + 1 by omega]
    simpa using this
  fr := fun n hn => by
    rw [World.cell?_alloc_new]
    have := pg_fr m n hn
    rw [show 1 + n * 4 + 1 + 2 = (n * 4 + 3) + 1 by omega]
    simpa using this
  fz := fun o => World.frozen?_alloc_new _ _ _ _
theorem zero109 (bp : Nat) : Tryz.zeroCells186.setIfInBounds 0 (.pointer (some ⟨bp, 0, none⟩)) = (.pointer (some ⟨bp, 0, none⟩) :: pgCells mp0).toArray := rfl
theorem lvNew (w : World) (bp : Nat) : Calls Tryz.prog 108 #[.pointer (some ⟨bp, 0, none⟩)] w fun e w' => ∃ bl, e = .returned (.tuple #[.pointer (some ⟨bl, 0, none⟩), .nilIface]) ∧ LvAt w' bl bp mp0 ∧ w.heap.size ≤ bl ∧ Upd (fun _ => False) w w' := by
  go_enter Tryz.func108, Tryz.ntmps108
  go_wp2_with fail
  go_ret2
  refine ⟨_, rfl, ?_, Nat.le_refl _, (Upd.refl _ _).alloc _⟩
  rw [zero109]
  exact LvAt.new w bp mp0 _
theorem lvSame_is (w : World) (bp bf : Nat) (f g : Int) (s : Pl) (h : PoolAt w bp bf s) {u : Bool} (hu : s.same f g = u) :
    Calls Tryz.prog 113 #[.pointer (some ⟨bp, 0, none⟩), .int .i64 f, .int .i64 g] w fun e w' => e = .returned (.bool u) ∧ ∃ m, w' = w.drewN m := by
  subst hu; exact same_any w bp bf f g s h
theorem lvJoin_no (w : World) (bl bp : Nat) (n f : Int) (m : Mp) (h : LvAt w bl bp m) (ho : onB n = true) (ht : ((m.lf n.toNat).there && !((m.lf n.toNat).fr == f)) = false) :
    Calls Tryz.prog 117 #[.pointer (some ⟨bl, 0, none⟩), .int .i64 n, .int .i64 f] w fun e w' => e = .returned (.iface 37 (.int .i64 8)) ∧ Upd (fun _ => False) w w' := by
  obtain ⟨h0, h1⟩ := (onB_iff n).1 ho
  obtain ⟨k, rfl⟩ := Int.eq_ofNat_of_zero_le h0
  rw [Int.toNat_natCast] at ht
  have hk : k < 16 := by omega
  have c0 := h.th k hk
  have c1 := h.wr k hk
  have c2 := h.fr k hk
  cases htt : (m.lf k).there with
  | false =>
    rw [htt] at c0
    clear ht htt
    go_enter Tryz.func117, Tryz.ntmps117
    go_wp2_with (go_at_call 147; refine (page_yes _ _ _ hk).mono ?_; rintro e w' ⟨rfl, rfl⟩)
    have u1 := (Upd.refl (fun _ => False) w').alloc (.cells #[.bool false, .bool (m.lf k).wr, .int .i64 (m.lf k).fr] 92)
    have b1 := LfAt.new w' 92 ⟨false, (m.lf k).wr, (m.lf k).fr⟩
    revert u1 b1
    generalize w'.alloc (.cells #[.bool false, .bool (m.lf k).wr, .int .i64 (m.lf k).fr] 92) = w1
    generalize w'.heap.size = q
    intro u1 b1
    have d1 := b1.c0
    have d2 := b1.c2
    clear c0 c1 c2
    go_quiet (fail)
    go_wp2_with fail
    go_ret
    exact ⟨rfl, u1.drewN nq⟩
  | true =>
    rw [htt] at c0 ht
    have hb : ((m.lf k).fr == f) = true := by
      simp only [Bool.true_and, Bool.not_eq_false', beq_iff_eq] at ht
      simp [ht]
    clear ht htt
    go_enter Tryz.func117, Tryz.ntmps117
    go_wp2_with (go_at_call 147; refine (page_yes _ _ _ hk).mono ?_; rintro e w' ⟨rfl, rfl⟩)
    have u1 := (Upd.refl (fun _ => False) w').alloc (.cells #[.bool true, .bool (m.lf k).wr, .int .i64 (m.lf k).fr] 92)
    have b1 := LfAt.new w' 92 ⟨true, (m.lf k).wr, (m.lf k).fr⟩
    revert u1 b1
    generalize w'.alloc (.cells #[.bool true, .bool (m.lf k).wr, .int .i64 (m.lf k).fr] 92) = w1
    generalize w'.heap.size = q
    intro u1 b1
    have d1 := b1.c0
    have d2 := b1.c2
    clear c0 c1 c2
    go_quiet (fail)
    go_wp2_with fail
    go_ret
    exact ⟨rfl, u1.drewN nq⟩
theorem lvJoin_diff (w : World) (bl bp bf : Nat) (n f : Int) (m : Mp) (s : Pl) (h : LvAt w bl bp m) (hp : PoolAt w bp bf s) (hlt : bf < w.heap.size) (ho : onB n = true) (ht : (m.lf n.toNat).there = true) (hf : ((m.lf n.toNat).fr == f) = false) (hs : s.same (m.lf n.toNat).fr f = false) :
    Calls Tryz.prog 117 #[.pointer (some ⟨bl, 0, none⟩), .int .i64 n, .int .i64 f] w fun e w' => e = .returned (.iface 37 (.int .i64 8)) ∧ Upd (fun _ => False) w w' := by
  obtain ⟨h0, h1⟩ := (onB_iff n).1 ho
  obtain ⟨k, rfl⟩ := Int.eq_ofNat_of_zero_le h0
  rw [Int.toNat_natCast] at ht hf hs
  have hk : k < 16 := by omega
  have c0 := h.th k hk
  have c1 := h.wr k hk
  have c2 := h.fr k hk
  rw [ht] at c0
  have HS : Hid _ := hs
  clear ht hs
  go_enter Tryz.func117, Tryz.ntmps117
  go_wp2_with (go_at_call 147; refine (page_yes _ _ _ hk).mono ?_; rintro e w' ⟨rfl, rfl⟩)
  have u1 := (Upd.refl (fun _ => False) w').alloc (.cells #[.bool true, .bool (m.lf k).wr, .int .i64 (m.lf k).fr] 92)
  have b1 := LfAt.new w' 92 ⟨true, (m.lf k).wr, (m.lf k).fr⟩
  revert u1 b1
  generalize w'.alloc (.cells #[.bool true, .bool (m.lf k).wr, .int .i64 (m.lf k).fr] 92) = w1
  generalize w'.heap.size = q
  intro u1 b1
  have hp1 := hp.upd u1 (fun f => f) (fun f => f) hlt
  have d0 := u1.cell h.pool (fun f => f)
  have d1 := b1.c0
  have d2 := b1.c2
  clear c0 c1 c2
  go_quiet ((go_at_call 113; exact Calls.quiet_of (lvSame_is _ _ _ _ _ s (hp1.drewN _) HS.out)))
  go_wp2_with fail
  go_ret
  exact ⟨rfl, u1.drewN nq⟩
theorem lvJoin_yes (w : World) (bl bp bf : Nat) (n f : Int) (m : Mp) (s : Pl) (h : LvAt w bl bp m) (hp : PoolAt w bp bf s) (h1 : bl ≠ bp) (h2 : bl ≠ bf) (hlt : bf < w.heap.size) (hm : ∀ k, k < s.n → s.refs k ≤ 999999) (ho : onB n = true) (ht : (m.lf n.toNat).there = true) (hf : ((m.lf n.toNat).fr == f) = false) (hs : s.same (m.lf n.toNat).fr f = true) :
    Calls Tryz.prog 117 #[.pointer (some ⟨bl, 0, none⟩), .int .i64 n, .int .i64 f] w fun e w' => e = .returned .nilIface ∧ PoolAt w' bp bf ((s.share f 1).2.share (m.lf n.toNat).fr (-1)).2 ∧ LvAt w' bl bp { m with lf := setAt m.lf n.toNat ⟨true, false, f⟩ } ∧ Upd (fun k => k = bf ∨ k = bl) w w' := by
  obtain ⟨h0, h1'⟩ := (onB_iff n).1 ho
  obtain ⟨k, rfl⟩ := Int.eq_ofNat_of_zero_le h0
  rw [Int.toNat_natCast] at *
  have hk : k < 16 := by omega
  have c0 := h.th k hk
  have c1 := h.wr k hk
  have c2 := h.fr k hk
  have HT : Hid _ := ht
  rw [ht] at c0
  have hu : s.used f = true := by
    unfold Pl.same at hs
    simp only [Bool.and_eq_true] at hs
    exact hs.1.2
  have he : errV (s.share f 1).1 = .nilIface := by unfold Pl.share; rw [if_pos hu]; exact errV_zero
  have hm3 : ∀ k, k < (s.share f 1).2.n → (s.share f 1).2.refs k ≤ 1000000 := by
    have := share_bd (s := s) (f := f) (d := 1) (n := s.n) (B := 999998) rfl (fun f hf => by have := hm f hf; omega) (by omega)
    intro k hk
    have := this k (by rw [share_n] at hk; exact hk)
    omega
  have HS : Hid _ := hs
  have H1 : Hid _ := h1
  have H2 : Hid _ := h2
  have HM : Hid _ := hm
  have HM3 : Hid _ := hm3
  have HE : Hid _ := he
  have hbl := h.lt
  clear ht hs h1 h2 hm hu he hm3
  go_enter Tryz.func117, Tryz.ntmps117
  go_wp2_with (go_at_call 147; refine (page_yes _ _ _ hk).mono ?_; rintro e w' ⟨rfl, rfl⟩)
  have u1 := (Upd.refl (fun _ => False) w').alloc (.cells #[.bool true, .bool (m.lf k).wr, .int .i64 (m.lf k).fr] 92)
  have b1 := LfAt.new w' 92 ⟨true, (m.lf k).wr, (m.lf k).fr⟩
  revert u1 b1 hlt hbl
  generalize w'.alloc (.cells #[.bool true, .bool (m.lf k).wr, .int .i64 (m.lf k).fr] 92) = w1
  generalize hq : w'.heap.size = q
  intro hlt hbl u1 b1
  have hp1 := hp.upd u1 (fun f => f) (fun f => f) (by omega)
  have hl1 := h.upd u1 (fun f => f)
  have d0 := hl1.pool
  have d1 := b1.c0
  have d2 := b1.c2
  clear c0 c1 c2
  go_quiet ((go_at_call 113; exact Calls.quiet_of (lvSame_is _ _ _ _ _ s (hp1.drewN _) HS.out)))
  have u2 := u1.drewN nq
  have hp2 := hp1.drewN nq
  have hl2 := hl1.drewN nq
  clear u1 hp1 hl1 b1 d0 d1 d2
  revert u2 hp2 hl2
  generalize w1.drewN nq = w2
  intro u2 hp2 hl2
  have d0 := hl2.pool
  go_wp2_with fail
  refine (share_any _ _ _ _ s hp2 (fun k hk => by have := HM.out k hk; omega)).mono ?_
  rintro e w3 ⟨rfl, hp3, hu3⟩
  rw [HE.out]
  have hl3 := hl2.upd hu3 H2.out
  have hz3 : bf < w3.heap.size := by have := u2.size; have := hu3.size; omega
  clear d0 hl2 hp2
  go_wp2_with fail
  refine (leave_any _ _ _ _ k m _ hl3 hp3 H1.out H2.out hk hz3 HM3.out).mono ?_
  rintro e w4 ⟨rfl, hp4, hl4, hu4⟩
  simp only [leaveP, HT.out, if_true] at hp4
  have d1 := hl4.th k hk
  have d2 := hl4.wr k hk
  have d3 := hl4.fr k hk
  have d4 := hl4.fz (1 + k * 4 + 1)
  have d5 := hl4.fz (1 + k * 4 + 1 + 1)
  have d6 := hl4.fz (1 + k * 4 + 1 + 2)
  have h5 := hl4.setLf hk ⟨true, false, f⟩
  simp only [leaveM, setAt_twice] at h5
  have hu5 := Upd.three w4 bl (1 + k * 4 + 1) (1 + k * 4 + 1 + 1) (1 + k * 4 + 1 + 2) (.bool true) (.bool false) (.int .i64 f)
  have hp5 := hp4.upd hu5 (Ne.symm H1.out) (Ne.symm H2.out) (Nat.lt_of_lt_of_le hz3 hu4.size)
  have hu6 := (((u2.wide (T := fun k => k = bf ∨ k = bl) (fun _ f => f.elim)).trans hu3 (fun _ _ e => Or.inl e)).trans hu4 (fun _ _ e => e)).trans hu5 (fun _ _ e => Or.inr e)
  have H5 : Hid _ := h5
  have HU6 : Hid _ := hu6
  have HP5 : Hid _ := hp5
  clear h5 hu5 hp5 hu6 hl3 hu3 hp3 hp4 hu4 hl4 u2
  go_wp2_with fail
  go_ret
  exact ⟨rfl, HP5.out, H5.out, HU6.out⟩
theorem lvJoin (w : World) (bl bp bf : Nat) (n f : Int) (m m' : Mp) (s : Pl) (h : LvAt w bl bp m) (hp : PoolAt w bp bf s) (h1 : bl ≠ bp) (h2 : bl ≠ bf) (hn : 0 < s.n) (hi : Inv s m m') :
    Calls Tryz.prog 117 #[.pointer (some ⟨bl, 0, none⟩), .int .i64 n, .int .i64 f] w fun e w' => e = .returned (errV (joinR s m n f).1) ∧ PoolAt w' bp bf (joinR s m n f).2.1 ∧ LvAt w' bl bp (joinR s m n f).2.2 ∧ Upd (fun k => k = bf ∨ k = bl) w w' := by
  have hlt : bf < w.heap.size := World.block_lt_of_cell? w _ (hp.refs 0 hn)
  have hm : ∀ k, k < s.n → s.refs k ≤ 999999 := fun k hk => by have := hi.le k hk; omega
  cases ho : onB n with
  | false =>
    simp only [joinR, ho, Bool.false_eq_true, if_false, errV1]
    go_enter Tryz.func117, Tryz.ntmps117
    go_wp2_with (go_at_call 147; refine (page_no _ _ _ ho).mono ?_; rintro e w' ⟨rfl, rfl⟩)
    go_ret
    exact ⟨rfl, hp, h, Upd.refl _ _⟩
  | true =>
    cases ht : ((m.lf n.toNat).there && !((m.lf n.toNat).fr == f)) with
    | false =>
      refine (lvJoin_no w bl bp n f m h ho ht).mono ?_
      rintro e w' ⟨rfl, hu⟩
      simp only [joinR, ho, ht, if_true, Bool.false_and, Bool.false_eq_true, if_false, errV8]
      exact ⟨trivial, hp.upd hu (fun f => f) (fun f => f) hlt, h.upd hu (fun f => f), hu.wide (fun _ f => f.elim)⟩
    | true =>
      have ht' := ht
      simp only [Bool.and_eq_true, Bool.not_eq_true'] at ht'
      cases hs : s.same (m.lf n.toNat).fr f with
      | false =>
        refine (lvJoin_diff w bl bp bf n f m s h hp hlt ho ht'.1 ht'.2 hs).mono ?_
        rintro e w' ⟨rfl, hu⟩
        simp only [joinR, ho, ht, hs, if_true, Bool.and_false, Bool.false_eq_true, if_false, errV8]
        exact ⟨trivial, hp.upd hu (fun f => f) (fun f => f) hlt, h.upd hu (fun f => f), hu.wide (fun _ f => f.elim)⟩
      | true =>
        refine (lvJoin_yes w bl bp bf n f m s h hp h1 h2 hlt hm ho ht'.1 ht'.2 hs).mono ?_
        rintro e w' ⟨rfl, a1, a2, a3⟩
        simp only [joinR, ho, ht, hs, if_true, Bool.and_true, errV_zero]
        exact ⟨trivial, a1, a2, a3⟩
end Go.Proofs.YtadpibcgjgcjhabGreatDoor
/- Acts on pages, plainly: an error turns nothing; no error, and the number is a page's. -/
namespace Go.Proofs.YtadpibcgjgcjhabGreatDoor

variable {s : Pl} {m : Mp} {n f : Int} {b wt : Bool}
theorem plug_no (he : (plugR s m n).1 ≠ 0) : (plugR s m n).2 = (s, m) := by
  revert he
  unfold plugR
  repeat' split
  all_goals first | (intro _; rfl) | (intro h; exact absurd rfl h)
theorem unplug_no (he : (unplugR s m n).1 ≠ 0) : (unplugR s m n).2 = (s, m) := by
  revert he
  unfold unplugR
  repeat' split
  all_goals first | (intro _; rfl) | (intro h; exact absurd rfl h)
theorem give_no (he : (giveR s m n b).1 ≠ 0) : (giveR s m n b).2 = (s, m) := by
  revert he
  unfold giveR
  repeat' split
  all_goals first | (intro _; rfl) | (intro h; exact absurd rfl h)
theorem seal_no (he : (sealR m n).1 ≠ 0) : (sealR m n).2 = m := by
  revert he
  unfold sealR
  repeat' split
  all_goals first | (intro _; rfl) | (intro h; exact absurd rfl h)
theorem join_no (he : (joinR s m n f).1 ≠ 0) : (joinR s m n f).2 = (s, m) := by
  revert he
  unfold joinR
  repeat' split
  all_goals first | (intro _; rfl) | (intro h; exact absurd rfl h)
theorem plug_on (he : (plugR s m n).1 = 0) : onB n = true := by
  revert he
  unfold plugR
  repeat' split
  all_goals first | (intro _; assumption) | (intro h; simp at h)
theorem unplug_on (he : (unplugR s m n).1 = 0) : onB n = true := by
  revert he
  unfold unplugR
  repeat' split
  all_goals first | (intro _; assumption) | (intro h; simp at h)
theorem give_on (he : (giveR s m n b).1 = 0) : onB n = true := by
  revert he
  unfold giveR
  repeat' split
  all_goals first | (intro _; assumption) | (intro h; simp at h)
theorem seal_on (he : (sealR m n).1 = 0) : onB n = true := by
  revert he
  unfold sealR
  repeat' split
  all_goals first | (intro _; assumption) | (intro h; simp at h)
theorem join_on (he : (joinR s m n f).1 = 0) : onB n = true := by
  revert he
  unfold joinR
  repeat' split
  all_goals first | (intro _; assumption) | (intro h; simp at h)
end Go.Proofs.YtadpibcgjgcjhabGreatDoor
/- Package guest: how a guest lies in memory; what changes a page. -/
namespace Go.Proofs.YtadpibcgjgcjhabGreatDoor
open Go.ChangeShapes Go.WideShapes Go.ChangeAt Go.RowKit
set_option maxRecDepth 100000
attribute [local go_sem ↓] Go.wp_at_zero Go.wp_at_succ

/-- A guest's own cells: its block bg, its pool bp, its pages bl, its cache bc. -/
structure GCell (w : World) (bg bp bl bc : Nat) (root walks : Int) : Prop where
  c0 : w.cell? ⟨bg, 0, none⟩ = some (.pointer (some ⟨bp, 0, none⟩))
  c1 : w.cell? ⟨bg, 1, none⟩ = some (.pointer (some ⟨bl, 0, none⟩))
  c2 : w.cell? ⟨bg, 2, none⟩ = some (.pointer (some ⟨bc, 0, none⟩))
  c3 : w.cell? ⟨bg, 3, none⟩ = some (.int .i64 root)
  c4 : w.cell? ⟨bg, 4, none⟩ = some (.int .i64 walks)
  fz : ∀ o, w.frozen? ⟨bg, o, none⟩ = false
theorem GCell.lt {w : World} {bg bp bl bc : Nat} {r k : Int} (h : GCell w bg bp bl bc r k) : bg < w.heap.size := World.block_lt_of_cell? w _ h.c0
theorem GCell.upd {S : Nat → Prop} {w w' : World} {bg bp bl bc : Nat} {r k : Int} (h : GCell w bg bp bl bc r k) (u : Upd S w w') (hx : ¬ S bg) : GCell w' bg bp bl bc r k :=
  ⟨u.cell h.c0 hx, u.cell h.c1 hx, u.cell h.c2 hx, u.cell h.c3 hx, u.cell h.c4 hx, fun o => by rw [World.frozen?_of_block (w := w) (u.block bg h.lt hx)]; exact h.fz o⟩
theorem GCell.setRoot {w : World} {bg bp bl bc : Nat} {r k : Int} (h : GCell w bg bp bl bc r k) (n : Int) : GCell (w.setCell ⟨bg, 3, none⟩ (.int .i64 n)) bg bp bl bc n k := by
  refine ⟨?_, ?_, ?_, World.cell?_setCell_same _ _ _ h.c3, ?_, fun o => by rw [World.frozen?_setCell]; exact h.fz o⟩
  all_goals rw [World.cell?_setCell_other _ _ _ _ (addr_ne (Or.inr (by omega)))]
  · exact h.c0
  · exact h.c1
  · exact h.c2
  · exact h.c4
theorem GCell.setWalks {w : World} {bg bp bl bc : Nat} {r k : Int} (h : GCell w bg bp bl bc r k) (n : Int) : GCell (w.setCell ⟨bg, 4, none⟩ (.int .i64 n)) bg bp bl bc r n := by
  refine ⟨?_, ?_, ?_, ?_, World.cell?_setCell_same _ _ _ h.c4, fun o => by rw [World.frozen?_setCell]; exact h.fz o⟩
  all_goals rw [World.cell?_setCell_other _ _ _ _ (addr_ne (Or.inr (by omega)))]
  · exact h.c0
  · exact h.c1
  · exact h.c2
  · exact h.c3

/-- A page is changed: by a method value, or by a closure. -/
def ByOk (w : World) (bp bf bl : Nat) (f : Nat) (av : Array Value) (code : Int) (s' : Pl) (m' : Mp) (S : Nat → Prop) (R : World → Prop) : Prop :=
  Calls Tryz.prog f av w fun e w1 => e = .returned (errV code) ∧ PoolAt w1 bp bf s' ∧ LvAt w1 bl bp m' ∧ R w1 ∧ Upd S w w1
/-- What a change ends with. -/
def ChPost (w : World) (bp bf bl bc : Nat) (code : Int) (s' : Pl) (m' : Mp) (c : List En) (S : Nat → Prop) (R : World → Prop) (e : Ending) (w' : World) : Prop :=
  e = .returned (errV code) ∧ PoolAt w' bp bf s' ∧ LvAt w' bl bp m' ∧ CaL w' bc (shows m' c) ∧ R w' ∧ Upd (fun k => S k ∨ k = bc) w w'
/-- The blocks of a guest are apart. -/
def GAp (bg bp bf bl bc : Nat) : Prop := bg ≠ bp ∧ bg ≠ bf ∧ bg ≠ bl ∧ bg ≠ bc ∧ bl ≠ bp ∧ bl ≠ bf ∧ bl ≠ bc ∧ bc ≠ bp ∧ bc ≠ bf ∧ bp ≠ bf
theorem gLeaf_on (w : World) (bl bp k : Nat) (m : Mp) (h : LvAt w bl bp m) (hk : k < 16) :
    Calls Tryz.prog 144 #[.pointer (some ⟨bl, 0, none⟩), .int .i64 k] w fun e w' => e = .returned (.tuple #[.agg #[.bool (m.lf k).there, .bool (m.lf k).wr, .int .i64 (m.lf k).fr], .nilIface]) ∧ Upd (fun _ => False) w w' := by
  have e1 : onB (k : Int) = true := by simp [onB]; omega
  have e2 : lfR m (k : Int) = (m.lf k, 0) := by simp [lfR, e1]
  have := lvLeaf w bl bp k m h
  rwa [e2, errV_zero] at this

theorem change_any (w : World) (bg bp bf bl bc : Nat) (n r k : Int) (f : Nat) (bd lb : Array Value) (code : Int) (s' : Pl) (m m' : Mp) (c : List En) (S : Nat → Prop) (R : World → Prop) (h : GCell w bg bp bl bc r k) (hc : CaL w bc (shows m c)) (ha : GAp bg bp bf bl bc)
    (eg : ∀ args w, (callFunc f args).run Tryz.prog w = .ok (.enter f args) w) (hby : ByOk w bp bf bl f (bd.push (.int .i64 n) ++ lb) code s' m' S R) (hSg : ¬ S bg) (hSc : ¬ S bc) (hlf : ∀ k, k ≠ n.toNat → m'.lf k = m.lf k) (hno : code ≠ 0 → m' = m) (hon : code = 0 → onB n = true) (hen : ∀ x ∈ c, 0 ≤ x.dest) (hn : 0 < s'.n)
    (hR : ∀ w1 w2, R w1 → Upd (fun k => k = bc) w1 w2 → R w2) :
    Calls Tryz.prog 115 #[.pointer (some ⟨bg, 0, none⟩), .int .i64 n, .func (.func f) bd lb] w (ChPost w bp bf bl bc code s' m' c S R) := by
  have HC : Hid (CaL w bc (shows m c)) := hc
  have HH : Hid _ := h
  have HA : Hid (GAp bg bp bf bl bc) := ha
  have HR : Hid _ := hR
  have HS : Hid (¬ S bg ∧ ¬ S bc) := ⟨hSg, hSc⟩
  unfold ByOk at hby
  clear hc h ha hR hSg hSc
  by_cases h0 : code = 0
  · subst h0
    rw [errV_zero] at hby
    have HBY : Hid _ := hby
    have ho := hon rfl
    obtain ⟨q0, q1⟩ := (onB_iff n).1 ho
    obtain ⟨j, rfl⟩ := Int.eq_ofNat_of_zero_le q0
    have hj : j < 16 := by omega
    have HLF : Hid _ := hlf
    have HEN : Hid _ := hen
    clear ho hon hno q0 q1 hlf hen hby
    go_enter Tryz.func115, Tryz.ntmps115
    go_wp2_with (go_at_fn f; refine Calls.mono HBY.out ?_; rintro e w1 ⟨rfl, hp1, hl1, hr1, hu1⟩; have g1 := (HH.out.upd hu1 HS.out.1).c1; have HL1 : Hid _ := hl1; have HP1 : Hid _ := hp1; have HR1 : Hid _ := hr1; have HU1 : Hid _ := hu1; clear hl1 hp1 hr1 hu1)
    refine (gLeaf_on w1 bl bp j m' HL1.out hj).mono ?_
    rintro e w2 ⟨rfl, hu2⟩
    have hla := LfAt.new w2 92 (m'.lf j)
    have hu3 := hu2.alloc (.cells #[.bool (m'.lf j).there, .bool (m'.lf j).wr, .int .i64 (m'.lf j).fr] 92)
    have hz : bc < w2.heap.size := Nat.lt_of_lt_of_le HC.out.lt (Nat.le_trans HU1.out.size hu2.size)
    clear g1 hu2
    go_wp2_with fail
    revert hla hu3 hz
    generalize w2.alloc (.cells #[.bool (m'.lf j).there, .bool (m'.lf j).wr, .int .i64 (m'.lf j).fr] 92) = w3
    generalize w2.heap.size = q
    intro hla hu3 hz
    have hu13 := HU1.out.trans (T := fun _ => False) hu3 (fun _ _ f => f.elim)
    have g2 := (HH.out.upd hu13 HS.out.1).c2
    have HC3 : Hid (CaL w3 bc (shows m c)) := HC.out.upd hu13 HS.out.2
    have HU3 : Hid _ := hu3
    have HU13 : Hid _ := hu13
    obtain ⟨y0, y1, y2⟩ := hla
    have nq : ¬ q = bc := by omega
    clear hu3 hu13
    go_region_held3 (fun w' => w'.cell? ⟨bg, 2, none⟩ = some (.pointer (some ⟨bc, 0, none⟩)) ∧ w'.cell? ⟨q, 0, none⟩ = some (.bool (m'.lf j).there) ∧ w'.cell? ⟨q, 1, none⟩ = some (.bool (m'.lf j).wr) ∧ w'.cell? ⟨q, 2, none⟩ = some (.int .i64 (m'.lf j).fr)) (first | exact ⟨g2, y0, y1, y2⟩ | exact h4c)
      ((go_at_call 146; refine (kPoint_any _ bc (shows m c) (j : Int) (m'.lf j) (by first | exact HC3.out | exact HC3.out.upd (Upd.refl (fun _ => False) w3).drew (fun f => f))).mono ?_; rintro e w4 ⟨rfl, hc4, hu4⟩; have h4c : w4.cell? ⟨bg, 2, none⟩ = some (.pointer (some ⟨bc, 0, none⟩)) ∧ w4.cell? ⟨q, 0, none⟩ = some (.bool (m'.lf j).there) ∧ w4.cell? ⟨q, 1, none⟩ = some (.bool (m'.lf j).wr) ∧ w4.cell? ⟨q, 2, none⟩ = some (.int .i64 (m'.lf j).fr) := ⟨hu4.cell g2 (fun e => HA.out.2.2.2.1 e), hu4.cell y0 nq, hu4.cell y1 nq, hu4.cell y2 nq⟩))
    have hu4' : Upd (fun k => k = bc) w1 w4 := ((HU3.out.wide (T := fun k => k = bc) (fun _ f => f.elim)).drew).trans hu4 (fun _ _ e => e)
    have hpt := shows_point m m' c j (fun k hk => HLF.out k (by simpa using hk)) HEN.out
    rw [hpt] at hc4
    have HC4 : Hid (CaL w4 bc (shows m' c)) := hc4
    have HU4 : Hid _ := hu4'
    clear hc4 hu4 hu4' hpt h4c g2 y0 y1 y2
    go_wp2_with fail
    go_ret
    have d := HA.out
    unfold GAp at d
    have hlt : bf < w1.heap.size := HP1.out.lt hn
    exact ⟨by rw [errV_zero]; rfl, HP1.out.upd HU4.out (fun e => by omega) (fun e => by omega) hlt, HL1.out.upd HU4.out (fun e => by omega), HC4.out, HR.out _ _ HR1.out HU4.out, (HU1.out.wide (T := fun k => S k ∨ k = bc) (fun _ e => Or.inl e)).trans HU4.out (fun _ _ e => Or.inr e)⟩
  · have hb := hno h0
    subst hb
    have he : errV code = .iface 37 (.int .i64 code) := by simp [errV, h0]
    unfold ChPost
    rw [he] at hby ⊢
    have HBY : Hid _ := hby
    clear hby hno hon hlf hen he
    go_enter Tryz.func115, Tryz.ntmps115
    go_wp2_with (go_at_fn f; refine Calls.mono HBY.out ?_; rintro e w1 ⟨rfl, hp1, hl1, hr1, hu1⟩)
    go_ret
    exact ⟨rfl, hp1, hl1, HC.out.upd hu1 HS.out.2, hr1, hu1.wide (fun _ e => Or.inl e)⟩
end Go.Proofs.YtadpibcgjgcjhabGreatDoor
