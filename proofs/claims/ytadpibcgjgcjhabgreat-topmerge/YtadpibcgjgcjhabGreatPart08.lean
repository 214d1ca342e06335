/- The document's answer for chapter 4: At. -/
import Derived.Test.YtadpibcgjgcjhabGreatPart07
import Derived.Test.YtadpibcgjgcjhabGreatPart04
import Derived.Test.YtadpibcgjgcjhabGreatPart06
namespace Go.Proofs.YtadpibcgjgcjhabGreat
open Go.ChangeShapes Go.WideShapes Go.ChangeAt Go.RowKit
set_option maxRecDepth 100000
attribute [local go_sem ↓] Go.wp_at_zero Go.wp_at_succ

/-- An entry is laid in a box of its own. -/
theorem box_entry (w : World) (x : En) (ty : TypeId) : (∀ j v, (enCells x)[j]? = some v → ((((((((w.alloc (.cells #[.int .i64 0, .int .i64 0, .int .i64 0, .bool false, .bool false, .bool false, .int .i64 0] ty)).setCell ⟨w.heap.size, 0, none⟩ (.int .i64 x.root)).setCell ⟨w.heap.size, 1, none⟩ (.int .i64 x.page)).setCell ⟨w.heap.size, 2, none⟩ (.int .i64 x.dest)).setCell ⟨w.heap.size, 3, none⟩ (.bool x.may)).setCell ⟨w.heap.size, 4, none⟩ (.bool x.lf.there)).setCell ⟨w.heap.size, 5, none⟩ (.bool x.lf.wr)).setCell ⟨w.heap.size, 6, none⟩ (.int .i64 x.lf.fr)).cell? ⟨w.heap.size, j, none⟩ = some v) ∧ Upd (fun _ => False) w ((((((((w.alloc (.cells #[.int .i64 0, .int .i64 0, .int .i64 0, .bool false, .bool false, .bool false, .int .i64 0] ty)).setCell ⟨w.heap.size, 0, none⟩ (.int .i64 x.root)).setCell ⟨w.heap.size, 1, none⟩ (.int .i64 x.page)).setCell ⟨w.heap.size, 2, none⟩ (.int .i64 x.dest)).setCell ⟨w.heap.size, 3, none⟩ (.bool x.may)).setCell ⟨w.heap.size, 4, none⟩ (.bool x.lf.there)).setCell ⟨w.heap.size, 5, none⟩ (.bool x.lf.wr)).setCell ⟨w.heap.size, 6, none⟩ (.int .i64 x.lf.fr)) := by
  refine ⟨fun j v hj => ?_, ?_⟩
  · have := World.rangeAt_setCells_same (w.alloc (.cells #[.int .i64 0, .int .i64 0, .int .i64 0, .bool false, .bool false, .bool false, .int .i64 0] ty)) w.heap.size 0 (enCells x) (fun o ho => ⟨by
      have ho : o < 7 := ho
      rw [Nat.zero_add, World.cell?_alloc_new, Array.getElem?_eq_getElem (show o < (#[.int .i64 0, .int .i64 0, .int .i64 0, .bool false, .bool false, .bool false, .int .i64 0] : Array Value).size from ho)]
      rfl, World.frozen?_alloc_new _ _ _ _⟩) j v hj
    rw [Nat.zero_add] at this
    exact this
  · have := ((Upd.refl (fun _ => False) w).alloc (.cells #[.int .i64 0, .int .i64 0, .int .i64 0, .bool false, .bool false, .bool false, .int .i64 0] ty)).trans (T := fun k => k = w.heap.size) (Upd.row (w.alloc (.cells #[.int .i64 0, .int .i64 0, .int .i64 0, .bool false, .bool false, .bool false, .int .i64 0] ty)) w.heap.size 0 (enCells x)) (fun i hi e => by omega)
    exact this
end Go.Proofs.YtadpibcgjgcjhabGreat
/- The document's answer for chapter 4: At, where the table is read. -/
namespace Go.Proofs.YtadpibcgjgcjhabGreat
open Go.ChangeShapes Go.WideShapes Go.ChangeAt Go.RowKit
set_option maxRecDepth 100000
attribute [local go_sem ↓] Go.wp_at_zero Go.wp_at_succ

end Go.Proofs.YtadpibcgjgcjhabGreat
/- The document's answer for chapter 4: At, Load, Store. -/
namespace Go.Proofs.YtadpibcgjgcjhabGreat
open Go.ChangeShapes Go.WideShapes Go.ChangeAt Go.RowKit
set_option maxRecDepth 100000
attribute [local go_sem ↓] Go.wp_at_zero Go.wp_at_succ

end Go.Proofs.YtadpibcgjgcjhabGreat
/- The document's answer for chapter 4: ForgetOne. -/
namespace Go.Proofs.YtadpibcgjgcjhabGreat
open Go.ChangeShapes Go.WideShapes Go.ChangeAt Go.RowKit
set_option maxRecDepth 100000
attribute [local go_sem ↓] Go.wp_at_zero Go.wp_at_succ

end Go.Proofs.YtadpibcgjgcjhabGreat
/- The document's answer for chapter 4: Cached. -/
namespace Go.Proofs.YtadpibcgjgcjhabGreat
open Go.ChangeShapes Go.WideShapes Go.ChangeAt Go.RowKit
set_option maxRecDepth 100000
attribute [local go_sem ↓] Go.wp_at_zero Go.wp_at_succ

def showTo (m : Mp) (es : List En) (k : Nat) : List En := (es.take k).map (gShow m)
theorem showTo_succ (m : Mp) (es : List En) (k : Nat) (h : k < es.length) : showTo m es (k + 1) = showTo m es k ++ [gShow m (atE es k)] := by
  unfold showTo
  rw [List.take_add_one, List.getElem?_eq_getElem h, List.map_append]
  simp [atE, List.getD_eq_getElem?_getD, h]
theorem showTo_length (m : Mp) (es : List En) (k : Nat) : (showTo m es k).length ≤ k := by
  unfold showTo
  rw [List.length_map]
  exact List.length_take_le k es
theorem showTo_all (g : Gs) : showTo g.m g.c g.c.length = gCached g := by simp [showTo, gCached]
end Go.Proofs.YtadpibcgjgcjhabGreat
/- The document's answer for chapter 4: each act of a guest in one form. -/
namespace Go.Proofs.YtadpibcgjgcjhabGreat
open Go.ChangeShapes Go.WideShapes Go.ChangeAt Go.RowKit
set_option maxRecDepth 100000

/-- An act of a guest: what is told, the pool, the guest. -/
def gMap (g : Gs) (r : Int × Pl × Mp) : Int × Pl × Gs := (r.1, r.2.1, { g with m := r.2.2 })
def gPlug (s : Pl) (g : Gs) (n : Int) : Int × Pl × Gs := gMap g (plugR s g.m n)
def gUnplug (s : Pl) (g : Gs) (n : Int) : Int × Pl × Gs := gMap g (unplugR s g.m n)
def gGive (s : Pl) (g : Gs) (n : Int) (back : Bool) : Int × Pl × Gs := gMap g (giveR s g.m n back)
def gJoin (s : Pl) (g : Gs) (n f : Int) : Int × Pl × Gs := gMap g (joinR s g.m n f)
def gSeal (s : Pl) (g : Gs) (n : Int) : Int × Pl × Gs := ((sealR g.m n).1, s, { g with m := (sealR g.m n).2 })
def onS (s : Pl) (r : Int × Gs) : Int × Pl × Gs := (r.1, s, r.2)
theorem turnM_rest (m : Mp) (n : Nat) (z : Int) (r : Nat → Option Value) : turnM { m with rest := r } n z = { turnM m n z with rest := r } := rfl
theorem turnP_rest (s : Pl) (m : Mp) (n : Nat) (z : Int) (r : Nat → Option Value) : turnP s { m with rest := r } n z = turnP s m n z := rfl
theorem plug_rest (s : Pl) (m : Mp) (n : Int) (r : Nat → Option Value) : plugR s { m with rest := r } n = ((plugR s m n).1, (plugR s m n).2.1, { (plugR s m n).2.2 with rest := r }) := by
  unfold plugR
  repeat' split
  all_goals first | rfl | contradiction
theorem unplug_rest (s : Pl) (m : Mp) (n : Int) (r : Nat → Option Value) : unplugR s { m with rest := r } n = ((unplugR s m n).1, (unplugR s m n).2.1, { (unplugR s m n).2.2 with rest := r }) := by
  unfold unplugR
  repeat' split
  all_goals first | rfl | contradiction
theorem give_rest (s : Pl) (m : Mp) (n : Int) (b : Bool) (r : Nat → Option Value) : giveR s { m with rest := r } n b = ((giveR s m n b).1, (giveR s m n b).2.1, { (giveR s m n b).2.2 with rest := r }) := by
  unfold giveR
  repeat' split
  all_goals first | rfl | contradiction
theorem join_rest (s : Pl) (m : Mp) (n f : Int) (r : Nat → Option Value) : joinR s { m with rest := r } n f = ((joinR s m n f).1, (joinR s m n f).2.1, { (joinR s m n f).2.2 with rest := r }) := by
  unfold joinR
  repeat' split
  all_goals first | rfl | contradiction
theorem seal_rest (m : Mp) (n : Int) (r : Nat → Option Value) : sealR { m with rest := r } n = ((sealR m n).1, { (sealR m n).2 with rest := r }) := by
  unfold sealR
  repeat' split
  all_goals first | rfl | contradiction
/-- How an act of the document's guest ends. -/
def RPost (w : World) (bg bm base : Nat) (v : Value) (r : Int × Pl × Gs) (e : Ending) (w' : World) : Prop := e = .returned (.int .i64 r.1) ∧ RefAt w' bm r.2.1 ∧ (∃ v', RGu w' bg bm base v' r.2.2 ∧ Fr w v v') ∧ Upd (fun k => k = bm ∨ k = bg) w w'
/-- Where an act of the document's guest begins. -/
structure RPre (w : World) (bg bm base : Nat) (v : Value) (s : Pl) (g : Gs) (b : Mp) : Prop where
  gu : RGu w bg bm base v g
  ref : RefAt w bm s
  ne : bg ≠ bm
  inv : GInv s g b 1000000
  base : base ≤ w.heap.size
variable {w : World} {bg bm base : Nat} {v : Value} {s : Pl} {g : Gs} {b : Mp}
theorem RPre.m9 (h : RPre w bg bm base v s g b) : ∀ f, f < s.n → s.refs f ≤ 999999 := fun f hf => by have := h.inv.inv.le f hf; omega
/-- What the map's acts keep. -/
theorem GInv.map {W : Int} (h : GInv s g b W) {r : Int × Pl × Mp} (hi : Inv r.2.1 r.2.2 b) (hb : BytOk r.2.1) : GInv (gMap g r).2.1 (gMap g r).2.2 b W := { h with inv := hi, byt := hb }
theorem share_byt (hb : BytOk s) (f d : Int) : BytOk (s.share f d).2 := fun a c => by rw [(share_same s f d).2]; exact hb a c
theorem turn_byt (hb : BytOk s) (m : Mp) (n : Nat) (z : Int) : BytOk (turnP s m n z) := by
  unfold turnP
  split
  · exact share_byt hb _ _
  · exact hb
theorem GInv.plug {W : Int} (h : GInv s g b W) (n : Int) : GInv (gPlug s g n).2.1 (gPlug s g n).2.2 b W := h.map (h.inv.plug n) (by
  unfold plugR
  repeat' split
  all_goals first | exact h.byt | exact turn_byt h.byt _ _ _)
theorem GInv.unplug {W : Int} (h : GInv s g b W) (n : Int) : GInv (gUnplug s g n).2.1 (gUnplug s g n).2.2 b W := h.map (h.inv.unplug n) (by
  unfold unplugR
  repeat' split
  all_goals first | exact h.byt | exact turn_byt h.byt _ _ _)
theorem GInv.give {W : Int} (h : GInv s g b W) (n : Int) (back : Bool) : GInv (gGive s g n back).2.1 (gGive s g n back).2.2 b W := h.map (h.inv.give n back) (by
  unfold giveR
  repeat' split
  all_goals first | exact h.byt | exact turn_byt h.byt _ _ _)
theorem GInv.join {W : Int} (h : GInv s g b W) (n f : Int) : GInv (gJoin s g n f).2.1 (gJoin s g n f).2.2 b W := h.map (h.inv.join n f) (by
  unfold joinR
  repeat' split
  all_goals first | exact h.byt | exact share_byt (share_byt h.byt _ _) _ _)
theorem GInv.seal {W : Int} (h : GInv s g b W) (n : Int) : GInv (gSeal s g n).2.1 (gSeal s g n).2.2 b W := { h with inv := h.inv.seal n }
end Go.Proofs.YtadpibcgjgcjhabGreat
/- A page of a guest of a host turns to another state, plainly. -/
namespace Go.Proofs.YtadpibcgjgcjhabGreat
open Go.RowKit
variable {h : Hs} {t : Nat → Nat → Int} {W W' : Int} {n : Nat} {x : Gs} {f : Fl}

/-- A page leaves its frame. -/
theorem RInv.drop {s : Pl} {L : Nat → Lf} {t : Nat → Nat → Int} (h : RInv s L t) (c : Cn s L) {p : Nat} (hp : p < 64) (ht : (L p).there = true) : RInv (s.share (L p).fr (-1)).2 (setAt L p lf0) (setAt t p fun _ => 0) := by
  rw [share_refs (c.used hp ht)]
  constructor
  · intro k hk
    by_cases e : k = p
    · subst e; rw [setAt_same]; intro t1; simp [lf0] at t1
    · rw [setAt_other _ _ _ _ e]
      intro t1 w1
      have h1 := h.one k hk t1 w1
      have h3 : (L k).fr.toNat ≠ (L p).fr.toNat := fun q => e (c.lone hk hp t1 ht h1 q.symm).symm
      simp only
      rw [setAt_other _ _ _ _ h3]
      exact h1
  · intro k hk t1 i hi
    by_cases e : k = p
    · subst e; rw [setAt_same]
    · rw [setAt_other _ _ _ _ e] at t1 ⊢
      exact h.out k hk t1 i hi
  · intro k hk
    by_cases e : k = p
    · subst e; rw [setAt_same]; intro t1; simp [lf0] at t1
    · rw [setAt_other _ _ _ _ e]
      intro t1 i hi
      rw [setAt_other _ _ _ _ e]
      exact h.byt k hk t1 i hi
/-- A page that is in no frame has noughts, whatever is said of it. -/
theorem RInv.zero {s : Pl} {L : Nat → Lf} {t : Nat → Nat → Int} (h : RInv s L t) {p : Nat} (ht : (L p).there = false) : RInv s L (setAt t p fun _ => 0) := by
  refine ⟨h.one, fun k hk t1 i hi => ?_, fun k hk t1 i hi => ?_⟩
  · by_cases e : k = p
    · subst e; rw [setAt_same]
    · rw [setAt_other _ _ _ _ e]; exact h.out k hk t1 i hi
  · by_cases e : k = p
    · subst e; rw [ht] at t1; simp at t1
    · rw [setAt_other _ _ _ _ e]; exact h.byt k hk t1 i hi
def fTurn (f : Fl) (k : Nat) (z : Int) : Fl := { f with st := setAt f.st k z, b := setAt f.b k fun _ => 0 }
/-- A guest's page turns. -/
def gTurn (s : Pl) (x : Gs) (k : Nat) (z : Int) : Pl × Gs := (turnP s x.m k z, { x with m := turnM x.m k z })
theorem turnP_n (s : Pl) (m : Mp) (k : Nat) (z : Int) : (turnP s m k z).n = s.n := by
  unfold turnP
  split
  · exact share_n _ _ _
  · rfl
theorem rowS_one {k : Nat} {y : Gs} {s' : Pl} {z : Int} (hx : h.g n = some x) (hk : k < 16) (hy : y.m.st = setAt x.m.st k z) : rowS (h.put n (s', y)) = setAt (rowS h) (16 * n + k) z := by
  funext i
  rw [rowS_put]
  by_cases e : i / 16 = n
  · rw [if_pos e]
    show y.m.st (i % 16) = _
    rw [hy]
    by_cases e2 : i = 16 * n + k
    · subst e2
      rw [setAt_same, show (16 * n + k) % 16 = k by omega, setAt_same]
    · rw [setAt_other _ _ _ _ e2, setAt_other _ _ _ _ (by omega)]
      have := rowS_at hx (j := i % 16) (by omega)
      rw [show 16 * n + i % 16 = i by omega] at this
      exact this.symm
  · rw [if_neg e, setAt_other _ _ _ _ (by omega)]
/-- What holds of a host's pages, but for how many are promised. -/
structure HQ (h : Hs) (t : Nat → Nat → Int) (W : Int) : Prop where
  inv : HInv h W
  ri : RInv h.s (rowL h) t
theorem HR.hq (hr : HR h t W) : HQ h t W := ⟨hr.inv, hr.ri⟩
theorem HQ.turn (hr : HQ h t W) (hx : h.g n = some x) {k : Nat} (hk : k < 16) {z : Int} (z0 : 0 ≤ z) (z2 : z ≤ 2) (hz : z = 1 → x.m.st k ≠ 1) :
    HQ (h.put n (gTurn h.s x k z)) (setAt t (16 * n + k) fun _ => 0) W ∧ rowS (h.put n (gTurn h.s x k z)) = setAt (rowS h) (16 * n + k) z ∧ (h.put n (gTurn h.s x k z)).s.n = h.s.n := by
  obtain ⟨hn, ok⟩ := hr.inv.gi n x hx
  have hgi := hr.inv.ginv hx
  have hL := rowL_at hx hk
  have hinv := hgi.inv.turn hk z z0 z2
  have hgt : GInv (gTurn h.s x k z).1 (gTurn h.s x k z).2 (oth h n) W := { hgi with inv := hinv, byt := turn_byt hgi.byt x.m k z }
  refine ⟨⟨hr.inv.put hx hgt ok.di (turnP_n _ _ _ _) (Int.le_refl _), ?_⟩, rowS_one hx hk rfl, turnP_n _ _ _ _⟩
  show RInv (turnP h.s x.m k z) (rowL (h.put n (gTurn h.s x k z))) _
  by_cases hc : ((x.m.lf k).there && !(z == 1)) = true
  · have hlf : (gTurn h.s x k z).2.m.lf = setAt x.m.lf k lf0 := by
      show (turnM x.m k z).lf = _
      unfold turnM
      simp only [hc, if_true]
    rw [show h.put n (gTurn h.s x k z) = h.put n ((gTurn h.s x k z).1, (gTurn h.s x k z).2) from rfl, row_one hx hk hlf]
    unfold turnP
    rw [if_pos hc, ← hL]
    exact hr.ri.drop hr.inv.cn (by omega) (by rw [hL]; simp at hc; exact hc.1)
  · have hlf : (gTurn h.s x k z).2.m.lf = x.m.lf := by
      show (turnM x.m k z).lf = _
      unfold turnM
      simp only [hc, Bool.false_eq_true, if_false]
    rw [show h.put n (gTurn h.s x k z) = h.put n ((gTurn h.s x k z).1, (gTurn h.s x k z).2) from rfl, row_same hx hlf]
    unfold turnP
    rw [if_neg hc]
    refine hr.ri.zero ?_
    rw [hL]
    cases ht : (x.m.lf k).there with
    | false => rfl
    | true =>
      exfalso
      have hp := ok.pg.plain hk ht
      rw [ht] at hc
      by_cases e : z = 1
      · exact hz e hp
      · simp [e] at hc
theorem FR.turn (hf : FR n x t f) (s : Pl) {k : Nat} (hk : k < 16) (z : Int) : FR n (gTurn s x k z).2 (setAt t (16 * n + k) fun _ => 0) (fTurn f k z) := by
  refine ⟨fun j hj => ?_, fun j i hj hi => ?_, hf.root, hf.c⟩
  · show setAt f.st k z j = setAt x.m.st k z j
    by_cases e : j = k
    · subst e; rw [setAt_same, setAt_same]
    · rw [setAt_other _ _ _ _ e, setAt_other _ _ _ _ e]; exact hf.st j hj
  · show setAt f.b k (fun _ => 0) j i = _
    by_cases e : j = k
    · subst e; rw [setAt_same, setAt_same]
    · rw [setAt_other _ _ _ _ e, setAt_other _ _ _ _ (by omega)]; exact hf.b j i hj hi
/-- Another guest's view is as it was. -/
theorem FR.other {m : Nat} {y : Gs} {t' : Nat → Nat → Int} (hf : FR m y t f) (ht : ∀ p, p / 16 = m → t' p = t p) : FR m y t' f :=
  ⟨hf.st, fun k i hk hi => by rw [ht (16 * m + k) (by omega)]; exact hf.b k i hk hi, hf.root, hf.c⟩
theorem pln_set (S : Nat → Int) (p : Nat) (z : Int) : ∀ K, p < K → pln (setAt S p z) K + (if S p = 1 then 1 else 0) = pln S K + (if z = 1 then 1 else 0)
  | 0, h => absurd h (by omega)
  | K + 1, h => by
    simp only [pln]
    by_cases e : K = p
    · subst e
      have : pln (setAt S K z) K = pln S K := by
        have aux : ∀ j, j ≤ K → pln (setAt S K z) j = pln S j := by
          intro j
          induction j with
          | zero => intro _; rfl
          | succ j ih => intro hj; simp only [pln]; rw [ih (by omega), setAt_other _ _ _ _ (by omega)]
        exact aux K (Nat.le_refl _)
      rw [this, setAt_same]
      omega
    · have := pln_set S p z K (by omega)
      rw [setAt_other _ _ _ _ e]
      omega
end Go.Proofs.YtadpibcgjgcjhabGreat
/- A host's acts, plainly (chapter 5), and what its guests see of them. -/
namespace Go.Proofs.YtadpibcgjgcjhabGreat
open Go.RowKit

/-- What is wrong with a guest's number. -/
def hWho (h : Hs) (n : Int) : Int := if n < 0 ∨ 3 < n then 1 else match h.g n.toNat with
  | none => 2
  | some _ => 0
def hAt (h : Hs) (n : Int) : Gs := (h.g n.toNat).getD gs0
/-- An act of a guest. -/
def hAct (h : Hs) (n : Int) (r : Pl → Gs → Int × Pl × Gs) : Int × Hs := if 0 < hWho h n then (hWho h n, h) else ((r h.s (hAt h n)).1, h.put n.toNat (r h.s (hAt h n)).2)
def hLoad (h : Hs) (n addr : Int) : (Int × Int) × Hs := if 0 < hWho h n then ((0, hWho h n), h) else ((gLoad h.s (hAt h n) addr).1, h.put n.toNat (gLoad h.s (hAt h n) addr).2)
def hStore (h : Hs) (n addr v : Int) : Int × Hs := hAct h n fun s x => gStore s x addr v
def hRoot (h : Hs) (n p : Int) : Int × Hs := hAct h n fun s x => onS s (gRoot x p)
def hForget (h : Hs) (n addr : Int) : Int × Hs := hAct h n fun s x => onS s (gForget x addr)
def hDrop (h : Hs) (n r : Int) : Int × Hs := hAct h n fun s x => onS s (gForgetAll x r)
/-- The lowest number that is free. -/
def hFree (h : Hs) : Option Nat := if h.g 0 = none then some 0 else if h.g 1 = none then some 1 else if h.g 2 = none then some 2 else if h.g 3 = none then some 3 else none
def hAdd (h : Hs) : (Int × Int) × Hs := match hFree h with
  | some i => (((i : Int), 0), ⟨h.s, setAt h.g i (some gs0)⟩)
  | none => ((0, 4), h)
/-- Pages are plugged and unplugged four at once. -/
def Blk (x : Gs) : Prop := ∀ b j, b < 4 → j < 4 → (x.m.st (4 * b) = 0 ↔ x.m.st (4 * b + j) = 0)
/-- A host, the bytes of its pages, and what each guest may see. -/
structure HF (h : Hs) (t : Nat → Nat → Int) (F : Nat → Option Fl) (W : Int) : Prop where
  hr : HR h t W
  blk : ∀ i x, h.g i = some x → Blk x
  non : ∀ i, h.g i = none ↔ F i = none
  fl : ∀ i x f, h.g i = some x → F i = some f → FR i x t f
variable {h : Hs} {t t' : Nat → Nat → Int} {F : Nat → Option Fl} {W W' : Int} {n : Nat} {x y : Gs} {f f' : Fl} {s' : Pl}
theorem hWho_some (hx : h.g n = some x) (hn : n < 4) : hWho h n = 0 ∧ hAt h n = x := by
  unfold hWho hAt
  rw [if_neg (by omega), Int.toNat_natCast, hx]
  exact ⟨rfl, rfl⟩
/-- A guest's number that may be used. -/
theorem hWho_zero {n : Int} (hw : hWho h n = 0) : ∃ (k : Nat) (x : Gs), n = (k : Int) ∧ k < 4 ∧ h.g k = some x ∧ hAt h n = x := by
  unfold hWho at hw
  split at hw
  · omega
  · next hn =>
    obtain ⟨k, rfl⟩ := Int.eq_ofNat_of_zero_le (show 0 ≤ n by omega)
    rw [Int.toNat_natCast] at hw
    cases hx : h.g k with
    | none => rw [hx] at hw; simp at hw
    | some x => exact ⟨k, x, rfl, by omega, hx, by unfold hAt; rw [Int.toNat_natCast, hx]; rfl⟩
theorem hWho_le (n : Int) : 0 ≤ hWho h n := by
  unfold hWho
  split
  · omega
  · split <;> omega
/-- One guest's act. -/
theorem HF.put (hf : HF h t F W) (hx : h.g n = some x) (hr : HR (h.put n (s', y)) t' W') (hb : Blk y) (hy : FR n y t' f') (ht : ∀ p, p / 16 ≠ n → t' p = t p) : HF (h.put n (s', y)) t' (setAt F n (some f')) W' := by
  refine ⟨hr, fun i z hz => ?_, fun i => ?_, fun i z q hz hq => ?_⟩
  · by_cases e : i = n
    · subst e; rw [put_at] at hz; cases hz; exact hb
    · have hz' : h.g i = some z := by rw [← hz]; exact (setAt_other _ _ _ _ e).symm
      exact hf.blk i z hz'
  · by_cases e : i = n
    · subst e; rw [put_at, setAt_same]; simp
    · rw [setAt_other _ _ _ _ e]
      show setAt h.g n (some y) i = none ↔ _
      rw [setAt_other _ _ _ _ e]
      exact hf.non i
  · by_cases e : i = n
    · subst e; rw [put_at] at hz; rw [setAt_same] at hq; cases hz; cases hq; exact hy
    · have hz' : h.g i = some z := by rw [← hz]; exact (setAt_other _ _ _ _ e).symm
      rw [setAt_other _ _ _ _ e] at hq
      exact (hf.fl i z q hz' hq).other (fun p hp => ht p (by omega))
theorem HF.view (hf : HF h t F W) (hx : h.g n = some x) : ∃ f, F n = some f ∧ FR n x t f := by
  cases hq : F n with
  | none => have := (hf.non n).2 hq; rw [hx] at this; cases this
  | some f => exact ⟨f, rfl, hf.fl n x f hx hq⟩
theorem blk_same (hb : Blk x) (hs : y.m.st = x.m.st) : Blk y := fun b j h1 h2 => by rw [hs]; exact hb b j h1 h2
theorem at_st (s : Pl) (x : Gs) (addr : Int) (wt : Bool) : (gAt s x addr wt).2.2.m.st = x.m.st := by
  have step : ∀ (s : Pl) (x : Gs) (y : En) (fd : Bool), (gStep s x y fd wt).2.2.m.st = x.m.st := by
    intro s x y fd
    have := touch_st s x.m y.dest wt
    unfold gStep
    repeat' split
    all_goals first | rfl | exact this
  unfold gAt
  have ht := touch_st s x.m (addr / 16) wt
  have hr := touch_st s x.m x.root false
  repeat' split
  · rfl
  · exact ht
  · exact step _ _ _ _
  · unfold gWalk
    repeat' split
    · exact hr
    · exact hr
    · rw [step]; exact hr
theorem HF.load (hf : HF h t F W) (hx : h.g n = some x) (hq : F n = some f) (addr : Int) : (gLoad h.s x addr).1 = (fLoad f addr).1 ∧ HF (h.put n (gLoad h.s x addr).2) t (setAt F n (some (fLoad f addr).2)) (W + 1) := by
  obtain ⟨e, h1, h2⟩ := load_ok hf.hr hx (hf.fl n x f hx hq) addr
  refine ⟨e, hf.put hx h1 (blk_same (hf.blk n x hx) ?_) h2 (fun _ _ => rfl)⟩
  unfold gLoad
  split <;> exact at_st _ _ _ _
theorem HF.store (hf : HF h t F W) (hx : h.g n = some x) (hq : F n = some f) (addr v : Int) (v0 : 0 ≤ v) (v1 : v ≤ 255) : (gStore h.s x addr v).1 = (fStore f addr v).1 ∧ ∃ t', HF (h.put n (gStore h.s x addr v).2) t' (setAt F n (some (fStore f addr v).2)) (W + 1) := by
  obtain ⟨e, t', h1, h2, h3⟩ := store_ok hf.hr hx (hf.fl n x f hx hq) addr v v0 v1
  refine ⟨e, t', hf.put hx h1 (blk_same (hf.blk n x hx) ?_) h2 h3⟩
  unfold gStore
  split <;> exact at_st _ _ _ _
def fRoot (f : Fl) (n : Int) : Int × Fl := if n < -1 ∨ 15 < n then (1, f) else (0, { f with root := n })
def fForget (f : Fl) (addr : Int) : Int × Fl := if addr < 0 ∨ 255 < addr then (1, f) else (0, { f with c := flt (isAt f.root (addr / 16)) f.c })
def fDrop (f : Fl) (n : Int) : Int × Fl := if onB n then (0, { f with c := flt (fun x => x.root == n) f.c }) else (1, f)
theorem HR.proc {y : Gs} (hr : HR h t W) (hx : h.g n = some x) (hm : y.m = x.m) (hg : GInv h.s y (oth h n) W) (hd : Dist y.c) : HR (h.put n (h.s, y)) t W := hr.own hx hm hg hd (Int.le_refl _)
theorem HF.root (hf : HF h t F W) (hx : h.g n = some x) (hq : F n = some f) (p : Int) : (gRoot x p).1 = (fRoot f p).1 ∧ HF (h.put n (h.s, (gRoot x p).2)) t (setAt F n (some (fRoot f p).2)) W := by
  have hv := hf.fl n x f hx hq
  have hg := (hf.hr.inv.ginv hx).root p
  have hd := (hf.hr.inv.gi n x hx).2.di
  have hm : (gRoot x p).2.m = x.m ∧ (gRoot x p).2.c = x.c := by unfold gRoot; split <;> exact ⟨rfl, rfl⟩
  refine ⟨?_, hf.put hx (hf.hr.proc hx hm.1 hg (by rw [hm.2]; exact hd)) (blk_same (hf.blk n x hx) (by rw [hm.1])) ?_ (fun _ _ => rfl)⟩
  · unfold gRoot fRoot; split <;> rfl
  · unfold gRoot fRoot
    split
    · exact hv
    · exact ⟨hv.st, hv.b, rfl, hv.c⟩
theorem HF.forget (hf : HF h t F W) (hx : h.g n = some x) (hq : F n = some f) (p : Int) : (gForget x p).1 = (fForget f p).1 ∧ HF (h.put n (h.s, (gForget x p).2)) t (setAt F n (some (fForget f p).2)) W := by
  have hv := hf.fl n x f hx hq
  have hg := (hf.hr.inv.ginv hx).forget p
  have hd := (hf.hr.inv.gi n x hx).2.di
  have hm : (gForget x p).2.m = x.m := by unfold gForget; split <;> rfl
  refine ⟨?_, hf.put hx (hf.hr.proc hx hm hg (forget_dist hd p)) (blk_same (hf.blk n x hx) (by rw [hm])) ?_ (fun _ _ => rfl)⟩
  · unfold gForget fForget; split <;> rfl
  · unfold gForget fForget
    split
    · exact hv
    · refine ⟨hv.st, hv.b, hv.root, ?_⟩
      show flt (isAt f.root (p / 16)) f.c = keepTo _ _ _
      rw [keep_drop hd, hv.root, hv.c]
theorem HF.drop (hf : HF h t F W) (hx : h.g n = some x) (hq : F n = some f) (p : Int) : (gForgetAll x p).1 = (fDrop f p).1 ∧ HF (h.put n (h.s, (gForgetAll x p).2)) t (setAt F n (some (fDrop f p).2)) W := by
  have hv := hf.fl n x f hx hq
  have hg := (hf.hr.inv.ginv hx).forgetAll p
  have hd := (hf.hr.inv.gi n x hx).2.di
  have hm : (gForgetAll x p).2.m = x.m := by unfold gForgetAll; split <;> rfl
  refine ⟨?_, hf.put hx (hf.hr.proc hx hm hg (forgetAll_dist hd p)) (blk_same (hf.blk n x hx) (by rw [hm])) ?_ (fun _ _ => rfl)⟩
  · unfold gForgetAll fDrop; split <;> rfl
  · unfold gForgetAll fDrop
    split
    · refine ⟨hv.st, hv.b, hv.root, ?_⟩
      show flt (fun x => x.root == p) f.c = keepTo _ _ _
      rw [keep_forget, hv.c]
    · exact hv
end Go.Proofs.YtadpibcgjgcjhabGreat
/- A host's blocks of pages are plugged and unplugged, plainly; pages are given and wanted back; guests come and go. -/
namespace Go.Proofs.YtadpibcgjgcjhabGreat
open Go.RowKit
variable {h : Hs} {t t' : Nat → Nat → Int} {F : Nat → Option Fl} {W W' : Int} {n : Nat} {x y : Gs} {f f' : Fl} {s' : Pl}

/-- As HF, but for what is promised and for the blocks. -/
structure HG (h : Hs) (t : Nat → Nat → Int) (F : Nat → Option Fl) (W : Int) : Prop where
  hq : HQ h t W
  non : ∀ i, h.g i = none ↔ F i = none
  fl : ∀ i x f, h.g i = some x → F i = some f → FR i x t f
theorem HF.hg (hf : HF h t F W) : HG h t F W := ⟨hf.hr.hq, hf.non, hf.fl⟩
theorem HG.turn (hg : HG h t F W) (hx : h.g n = some x) (hq : F n = some f) {k : Nat} (hk : k < 16) {z : Int} (z0 : 0 ≤ z) (z2 : z ≤ 2) (hz : z = 1 → x.m.st k ≠ 1) :
    HG (h.put n (gTurn h.s x k z)) (setAt t (16 * n + k) fun _ => 0) (setAt F n (some (fTurn f k z))) W := by
  obtain ⟨h1, _, _⟩ := hg.hq.turn hx hk z0 z2 hz
  have hv := (hg.fl n x f hx hq).turn h.s hk z
  refine ⟨h1, fun i => ?_, fun i y q hy hq => ?_⟩
  · by_cases e : i = n
    · subst e; rw [put_at, setAt_same]; simp
    · rw [setAt_other _ _ _ _ e]
      show setAt h.g n _ i = none ↔ _
      rw [setAt_other _ _ _ _ e]
      exact hg.non i
  · by_cases e : i = n
    · subst e; rw [put_at] at hy; rw [setAt_same] at hq; cases hy; cases hq; exact hv
    · have hy' : h.g i = some y := by rw [← hy]; exact (setAt_other _ _ _ _ e).symm
      rw [setAt_other _ _ _ _ e] at hq
      exact (hg.fl i y q hy' hq).other (fun p hp => setAt_other _ _ _ _ (by omega))
/-- The first pages of a block turn. -/
def turnTo (s : Pl) (x : Gs) (b : Nat) (z : Int) : Nat → Pl × Gs
  | 0 => (s, x)
  | j + 1 => gTurn (turnTo s x b z j).1 (turnTo s x b z j).2 (4 * b + j) z
def fTurnTo (f : Fl) (b : Nat) (z : Int) : Nat → Fl
  | 0 => f
  | j + 1 => fTurn (fTurnTo f b z j) (4 * b + j) z
def zeroTo (t : Nat → Nat → Int) (p : Nat) : Nat → Nat → Nat → Int
  | 0 => t
  | j + 1 => setAt (zeroTo t p j) (p + j) fun _ => 0
theorem turnTo_st (s : Pl) (x : Gs) (b : Nat) (z : Int) (i : Nat) : ∀ j, (turnTo s x b z j).2.m.st i = if 4 * b ≤ i ∧ i < 4 * b + j then z else x.m.st i
  | 0 => by rw [if_neg (by omega)]; rfl
  | j + 1 => by
    have := turnTo_st s x b z i j
    show setAt (turnTo s x b z j).2.m.st (4 * b + j) z i = _
    by_cases e : i = 4 * b + j
    · subst e; rw [setAt_same, if_pos (by omega)]
    · rw [setAt_other _ _ _ _ e, this]
      by_cases e2 : 4 * b ≤ i ∧ i < 4 * b + j
      · rw [if_pos e2, if_pos (by omega)]
      · rw [if_neg e2, if_neg (by omega)]
theorem turnTo_root (s : Pl) (x : Gs) (b : Nat) (z : Int) : ∀ j, (turnTo s x b z j).1.n = s.n
  | 0 => rfl
  | j + 1 => by
    have := turnTo_root s x b z j
    show (turnP _ _ _ _).n = _
    rw [turnP_n, this]
theorem HG.turns (hg : HG h t F W) (hx : h.g n = some x) (hq : F n = some f) {b : Nat} (hb : b < 4) {z : Int} (z0 : 0 ≤ z) (z2 : z ≤ 2) (hz : z = 1 → ∀ j, j < 4 → x.m.st (4 * b + j) ≠ 1) : ∀ j, j ≤ 4 →
    HG (h.put n (turnTo h.s x b z j)) (zeroTo t (16 * n + 4 * b) j) (setAt F n (some (fTurnTo f b z j))) W ∧ (z = 1 → pln (rowS (h.put n (turnTo h.s x b z j))) 64 = pln (rowS h) 64 + j) ∧ (z ≠ 1 → pln (rowS (h.put n (turnTo h.s x b z j))) 64 ≤ pln (rowS h) 64)
  | 0, _ => by
    have e : h.put n (turnTo h.s x b z 0) = h := Hs.put_self hx
    rw [e]
    refine ⟨?_, fun _ => rfl, fun _ => Nat.le_refl _⟩
    rw [show setAt F n (some (fTurnTo f b z 0)) = F from setAt_self _ _ _ hq]
    exact hg
  | j + 1, hj => by
    obtain ⟨h1, h2, h3⟩ := hg.turns hx hq hb z0 z2 hz j (by omega)
    have hn := (hg.hq.inv.gi n x hx).1
    have hst := turnTo_st h.s x b z (4 * b + j) j
    rw [if_neg (by omega)] at hst
    have hzz : z = 1 → (turnTo h.s x b z j).2.m.st (4 * b + j) ≠ 1 := fun e => by rw [hst]; exact hz e j (by omega)
    have h4 := h1.turn (k := 4 * b + j) (put_at _ _ _) (setAt_same _ _ _) (by omega) z0 z2 hzz
    obtain ⟨_, h5, _⟩ := h1.hq.turn (k := 4 * b + j) (put_at _ _ _) (by omega) z0 z2 hzz
    rw [put_put] at h4 h5
    have e1 : setAt (setAt F n (some (fTurnTo f b z j))) n (some (fTurn (fTurnTo f b z j) (4 * b + j) z)) = setAt F n (some (fTurnTo f b z (j + 1))) := by
      funext i
      by_cases e : i = n
      · subst e; rw [setAt_same, setAt_same]; rfl
      · rw [setAt_other _ _ _ _ e, setAt_other _ _ _ _ e, setAt_other _ _ _ _ e]
    have e2 : setAt (zeroTo t (16 * n + 4 * b) j) (16 * n + (4 * b + j)) (fun _ => 0) = zeroTo t (16 * n + 4 * b) (j + 1) := by
      rw [show 16 * n + (4 * b + j) = 16 * n + 4 * b + j by omega]; rfl
    rw [e1, e2] at h4
    have h6 := pln_set (rowS (h.put n (turnTo h.s x b z j))) (16 * n + (4 * b + j)) z 64 (by omega)
    have h7 : rowS (h.put n (turnTo h.s x b z j)) (16 * n + (4 * b + j)) = x.m.st (4 * b + j) := by rw [rowS_at (put_at _ _ _) (by omega)]; exact hst
    rw [h7] at h6
    have h8 : h.put n (turnTo h.s x b z (j + 1)) = h.put n (gTurn (h.put n (turnTo h.s x b z j)).s (turnTo h.s x b z j).2 (4 * b + j) z) := rfl
    refine ⟨h4, fun e => ?_, fun e => ?_⟩
    · rw [h8, h5]
      have := h2 e
      rw [if_neg (hz e j (by omega)), if_pos e] at h6
      omega
    · rw [h8, h5]
      have := h3 e
      rw [if_neg e] at h6
      omega
/-- A whole block has turned. -/
theorem HF.block (hf : HF h t F W) (hx : h.g n = some x) (hq : F n = some f) {b : Nat} (hb : b < 4) {z : Int} (z0 : 0 ≤ z) (z1 : z ≤ 1) (hz : z = 1 → x.m.st (4 * b) = 0 ∧ pln (rowS h) 64 + 4 ≤ h.s.n) :
    HF (h.put n (turnTo h.s x b z 4)) (zeroTo t (16 * n + 4 * b) 4) (setAt F n (some (fTurnTo f b z 4))) W := by
  have hblk := hf.blk n x hx
  obtain ⟨h1, h2, h3⟩ := hf.hg.turns hx hq hb z0 (by omega) (fun e j hj => by
    have := (hblk b j hb hj).1 (hz e).1
    omega) 4 (Nat.le_refl _)
  have hs : (h.put n (turnTo h.s x b z 4)).s.n = h.s.n := turnTo_root _ _ _ _ _
  refine ⟨⟨h1.hq.inv, h1.hq.ri, ?_⟩, fun i y hy => ?_, h1.non, h1.fl⟩
  · rw [hs]
    by_cases e : z = 1
    · have := h2 e; have := (hz e).2; omega
    · have := h3 e; have := hf.hr.le; omega
  · by_cases e : i = n
    · subst e
      rw [put_at] at hy
      cases hy
      intro b' j hb' hj
      rw [turnTo_st, turnTo_st]
      by_cases e2 : b' = b
      · subst e2
        rw [if_pos (by omega), if_pos (by omega)]
      · rw [if_neg (by omega), if_neg (by omega)]
        exact hblk b' j hb' hj
    · have hy' : h.g i = some y := by rw [← hy]; exact (setAt_other _ _ _ _ e).symm
      exact hf.blk i y hy'
/-- One page turns, and is not Absent ahead of it or behind it. -/
theorem HF.page (hf : HF h t F W) (hx : h.g n = some x) (hq : F n = some f) {k : Nat} (hk : k < 16) {z : Int} (z0 : 1 ≤ z) (z2 : z ≤ 2) (hs : x.m.st k ≠ 0) (hz : z = 1 → x.m.st k ≠ 1 ∧ pln (rowS h) 64 + 1 ≤ h.s.n) :
    HF (h.put n (gTurn h.s x k z)) (setAt t (16 * n + k) fun _ => 0) (setAt F n (some (fTurn f k z))) W := by
  have h1 := hf.hg.turn hx hq hk (by omega) z2 (fun e => (hz e).1)
  obtain ⟨_, h2, h3⟩ := hf.hr.hq.turn hx hk (by omega) z2 (fun e => (hz e).1)
  have hn := (hf.hr.inv.gi n x hx).1
  have h4 := pln_set (rowS h) (16 * n + k) z 64 (by omega)
  refine ⟨⟨h1.hq.inv, h1.hq.ri, ?_⟩, fun i y hy => ?_, h1.non, h1.fl⟩
  · rw [h2, h3]
    have := hf.hr.le
    by_cases e : z = 1
    · have h5 := (hz e).2
      rw [if_pos e] at h4
      omega
    · rw [if_neg e] at h4
      omega
  · by_cases e : i = n
    · subst e
      rw [put_at] at hy
      cases hy
      have hblk := hf.blk i x hx
      intro b j hb hj
      show setAt x.m.st k z (4 * b) = 0 ↔ setAt x.m.st k z (4 * b + j) = 0
      have key : ∀ i, setAt x.m.st k z i = 0 ↔ x.m.st i = 0 := fun i => by
        by_cases e : i = k
        · subst e
          rw [setAt_same]
          constructor
          · intro e2; omega
          · intro e2; exact absurd e2 hs
        · rw [setAt_other _ _ _ _ e]
      rw [key, key]
      exact hblk b j hb hj
    · have hy' : h.g i = some y := by rw [← hy]; exact (setAt_other _ _ _ _ e).symm
      exact hf.blk i y hy'
end Go.Proofs.YtadpibcgjgcjhabGreat
/- Guests come and go, plainly; the document's loops over pages are turns. -/
namespace Go.Proofs.YtadpibcgjgcjhabGreat
open Go.RowKit
variable {h : Hs} {t t' : Nat → Nat → Int} {F : Nat → Option Fl} {W W' : Int} {n : Nat} {x y : Gs} {f f' : Fl} {s' : Pl}

theorem gPlug_yes (s : Pl) (x : Gs) {k : Nat} (hk : k < 16) (h0 : x.m.st k = 0) : gPlug s x (k : Int) = (0, gTurn s x k 1) := by
  have ho : onB (k : Int) = true := (onB_iff _).2 ⟨by omega, by omega⟩
  unfold gPlug gMap plugR
  simp only [ho, if_true, Int.toNat_natCast, h0]
  rfl
theorem gUnplug_yes (s : Pl) (x : Gs) {k : Nat} (hk : k < 16) (h0 : x.m.st k ≠ 0) : gUnplug s x (k : Int) = (0, gTurn s x k 0) := by
  have ho : onB (k : Int) = true := (onB_iff _).2 ⟨by omega, by omega⟩
  unfold gUnplug gMap unplugR
  simp only [ho, if_true, Int.toNat_natCast, h0, if_false]
  rfl
theorem gUnplug_no (s : Pl) (x : Gs) {k : Nat} (hk : k < 16) (h0 : x.m.st k = 0) : gUnplug s x (k : Int) = (2, s, x) := by
  have ho : onB (k : Int) = true := (onB_iff _).2 ⟨by omega, by omega⟩
  unfold gUnplug gMap unplugR
  simp only [ho, if_true, Int.toNat_natCast, h0]
/-- Plug's loop. -/
def gPlugs (s : Pl) (x : Gs) (b : Nat) : Nat → Pl × Gs
  | 0 => (s, x)
  | j + 1 => (gPlug (gPlugs s x b j).1 (gPlugs s x b j).2 ((4 * b + j : Nat) : Int)).2
/-- Unplug's loop: it ends at an error. -/
def gUnplugs (s : Pl) (x : Gs) (b : Nat) : Nat → Int × Pl × Gs
  | 0 => (0, s, x)
  | j + 1 => if 0 < (gUnplugs s x b j).1 then gUnplugs s x b j else gUnplug (gUnplugs s x b j).2.1 (gUnplugs s x b j).2.2 ((4 * b + j : Nat) : Int)
/-- Remove's loop. -/
def gClear (s : Pl) (x : Gs) : Nat → Pl × Gs
  | 0 => (s, x)
  | j + 1 => (gUnplug (gClear s x j).1 (gClear s x j).2 ((j : Nat) : Int)).2
theorem gPlugs_is (s : Pl) (x : Gs) {b : Nat} (hb : b < 4) (h0 : ∀ j, j < 4 → x.m.st (4 * b + j) = 0) : ∀ j, j ≤ 4 → gPlugs s x b j = turnTo s x b 1 j
  | 0, _ => rfl
  | j + 1, hj => by
    have ih := gPlugs_is s x hb h0 j (by omega)
    have hst := turnTo_st s x b 1 (4 * b + j) j
    rw [if_neg (by omega), h0 j (by omega)] at hst
    show (gPlug (gPlugs s x b j).1 (gPlugs s x b j).2 ((4 * b + j : Nat) : Int)).2 = gTurn _ _ _ _
    rw [ih, gPlug_yes _ _ (by omega) hst]
theorem gUnplugs_is (s : Pl) (x : Gs) {b : Nat} (hb : b < 4) (h0 : ∀ j, j < 4 → x.m.st (4 * b + j) ≠ 0) : ∀ j, j ≤ 4 → gUnplugs s x b j = (0, turnTo s x b 0 j)
  | 0, _ => rfl
  | j + 1, hj => by
    have ih := gUnplugs_is s x hb h0 j (by omega)
    have hst := turnTo_st s x b 0 (4 * b + j) j
    rw [if_neg (by omega)] at hst
    show (if 0 < (gUnplugs s x b j).1 then gUnplugs s x b j else gUnplug (gUnplugs s x b j).2.1 (gUnplugs s x b j).2.2 ((4 * b + j : Nat) : Int)) = (0, gTurn _ _ _ _)
    rw [ih, if_neg (by omega), gUnplug_yes _ _ (by omega) (by rw [hst]; exact h0 j (by omega))]
theorem gUnplugs_no (s : Pl) (x : Gs) {b : Nat} (hb : b < 4) (h0 : x.m.st (4 * b) = 0) : ∀ j, gUnplugs s x b (j + 1) = (2, s, x)
  | 0 => by
    show (if 0 < (0 : Int) then _ else gUnplug s x ((4 * b + 0 : Nat) : Int)) = _
    rw [if_neg (by omega), Nat.add_zero, gUnplug_no _ _ (by omega) h0]
  | j + 1 => by
    have ih := gUnplugs_no s x hb h0 j
    show (if 0 < (gUnplugs s x b (j + 1)).1 then gUnplugs s x b (j + 1) else _) = _
    rw [ih, if_pos (by simp)]
theorem gClear_st (s : Pl) (x : Gs) (i : Nat) : ∀ j, j ≤ 16 → (gClear s x j).2.m.st i = if i < j then 0 else x.m.st i
  | 0, _ => by rw [if_neg (by omega)]; rfl
  | j + 1, hj => by
    have ih := gClear_st s x i j (by omega)
    show (gUnplug (gClear s x j).1 (gClear s x j).2 ((j : Nat) : Int)).2.2.m.st i = _
    by_cases h0 : (gClear s x j).2.m.st j = 0
    · rw [gUnplug_no _ _ (by omega) h0]
      simp only
      by_cases e : i = j
      · subst e; rw [h0, if_pos (by omega)]
      · rw [ih]
        by_cases e2 : i < j
        · rw [if_pos e2, if_pos (by omega)]
        · rw [if_neg e2, if_neg (by omega)]
    · rw [gUnplug_yes _ _ (by omega) h0]
      show setAt (gClear s x j).2.m.st j 0 i = _
      by_cases e : i = j
      · subst e; rw [setAt_same, if_pos (by omega)]
      · rw [setAt_other _ _ _ _ e, ih]
        by_cases e2 : i < j
        · rw [if_pos e2, if_pos (by omega)]
        · rw [if_neg e2, if_neg (by omega)]
theorem gClear_n (s : Pl) (x : Gs) : ∀ j, (gClear s x j).1.n = s.n
  | 0 => rfl
  | j + 1 => by
    have ih := gClear_n s x j
    show (unplugR _ _ _).2.1.n = _
    rw [unplug_n, ih]
/-- All pages of a guest are unplugged. -/
theorem HQ.clear (hq : HQ h t W) (hx : h.g n = some x) : ∀ j, j ≤ 16 → ∃ t', HQ (h.put n (gClear h.s x j)) t' W ∧ (∀ p, p / 16 ≠ n → t' p = t p) ∧ pln (rowS (h.put n (gClear h.s x j))) 64 ≤ pln (rowS h) 64
  | 0, _ => by
    refine ⟨t, ?_, fun _ _ => rfl, ?_⟩
    · rw [show h.put n (gClear h.s x 0) = h from Hs.put_self hx]; exact hq
    · rw [show h.put n (gClear h.s x 0) = h from Hs.put_self hx]; exact Nat.le_refl _
  | j + 1, hj => by
    obtain ⟨t1, h1, h2, h3⟩ := hq.clear hx j (by omega)
    have hn := (hq.inv.gi n x hx).1
    have e0 : h.put n (gClear h.s x (j + 1)) = h.put n (gUnplug (gClear h.s x j).1 (gClear h.s x j).2 ((j : Nat) : Int)).2 := rfl
    by_cases h0 : (gClear h.s x j).2.m.st j = 0
    · rw [e0, gUnplug_no _ _ (by omega) h0]
      exact ⟨t1, h1, h2, h3⟩
    · rw [e0, gUnplug_yes _ _ (by omega) h0]
      obtain ⟨a1, a2, a3⟩ := h1.turn (k := j) (z := 0) (put_at _ _ _) (by omega) (by omega) (by omega) (fun e => by omega)
      rw [put_put] at a1 a2
      refine ⟨_, a1, fun p hp => by rw [setAt_other _ _ _ _ (by omega)]; exact h2 p hp, ?_⟩
      have h4 := pln_set (rowS (h.put n (gClear h.s x j))) (16 * n + j) 0 64 (by omega)
      rw [if_neg (show ¬ ((0 : Int) = 1) by omega)] at h4
      have h5 : rowS (h.put n (gTurn (gClear h.s x j).1 (gClear h.s x j).2 j 0)) = _ := a2
      rw [h5]
      omega
def hOff (s : Pl) (h : Hs) (n : Nat) : Hs := ⟨s, setAt h.g n none⟩
theorem HF.remove (hf : HF h t F W) (hx : h.g n = some x) : ∃ t', HF (hOff (gClear h.s x 16).1 h n) t' (setAt F n none) W := by
  obtain ⟨t', h1, h2, h3⟩ := hf.hr.hq.clear hx 16 (Nat.le_refl _)
  have hn := (hf.hr.inv.gi n x hx).1
  have ok := (h1.inv.gi n _ (put_at _ _ _)).2
  have hz : ∀ k, k < 16 → (gClear h.s x 16).2.m.lf k = lf0 := fun k hk => by
    refine ok.pg.zero hk ?_
    have := gClear_st h.s x k 16 (Nat.le_refl _)
    rw [if_pos hk] at this
    rw [this]; omega
  have hrow : rowL (hOff (gClear h.s x 16).1 h n) = rowL (h.put n (gClear h.s x 16)) := by
    funext i
    rw [rowL_put]
    unfold rowL hOff
    simp only
    by_cases e : i / 16 = n
    · rw [if_pos e, e, setAt_same, hz _ (by omega)]; rfl
    · rw [if_neg e, setAt_other _ _ _ _ e]
  have hrowS : rowS (hOff (gClear h.s x 16).1 h n) = rowS (h.put n (gClear h.s x 16)) := by
    funext i
    rw [rowS_put]
    unfold rowS hOff
    simp only
    by_cases e : i / 16 = n
    · have := gClear_st h.s x (i % 16) 16 (Nat.le_refl _)
      rw [if_pos (by omega)] at this
      rw [if_pos e, e, setAt_same, this]; rfl
    · rw [if_neg e, setAt_other _ _ _ _ e]
  have hne : ∀ i y, (hOff (gClear h.s x 16).1 h n).g i = some y → i ≠ n ∧ h.g i = some y := fun i y hy => by
    have hy : setAt h.g n none i = some y := hy
    by_cases e : i = n
    · subst e; rw [setAt_same] at hy; cases hy
    · rw [setAt_other _ _ _ _ e] at hy; exact ⟨e, hy⟩
  refine ⟨t', ⟨⟨⟨?_, h1.inv.byt, fun i y hy => hf.hr.inv.gi i y (hne i y hy).2⟩, ?_, ?_⟩, fun i y hy => hf.blk i y (hne i y hy).2, fun i => ?_, fun i y q hy hq => ?_⟩⟩
  · have := h1.inv.cn
    rw [← hrow] at this
    exact this
  · have := h1.ri
    rw [← hrow] at this
    exact this
  · rw [hrowS]
    show _ ≤ (gClear h.s x 16).1.n
    rw [gClear_n]
    have := hf.hr.le
    omega
  · show setAt h.g n none i = none ↔ _
    by_cases e : i = n
    · subst e; rw [setAt_same, setAt_same]; simp
    · rw [setAt_other _ _ _ _ e, setAt_other _ _ _ _ e]; exact hf.non i
  · obtain ⟨e, hy'⟩ := hne i y hy
    rw [setAt_other _ _ _ _ e] at hq
    exact (hf.fl i y q hy' hq).other (fun p hp => h2 p (by omega))
theorem HF.add (hf : HF h t F W) (hn : n < 4) (hx : h.g n = none) (hW : 0 ≤ W) : HF ⟨h.s, setAt h.g n (some gs0)⟩ t (setAt F n (some fl0)) W := by
  have hrow : rowL ⟨h.s, setAt h.g n (some gs0)⟩ = rowL h := by
    funext i
    unfold rowL
    simp only
    by_cases e : i / 16 = n
    · rw [e, setAt_same, hx]; rfl
    · rw [setAt_other _ _ _ _ e]
  have hrowS : rowS ⟨h.s, setAt h.g n (some gs0)⟩ = rowS h := by
    funext i
    unfold rowS
    simp only
    by_cases e : i / 16 = n
    · rw [e, setAt_same, hx]; rfl
    · rw [setAt_other _ _ _ _ e]
  have hne : ∀ i y, setAt h.g n (some gs0) i = some y → (i = n ∧ y = gs0) ∨ (i ≠ n ∧ h.g i = some y) := fun i y hy => by
    by_cases e : i = n
    · subst e; rw [setAt_same] at hy; cases hy; exact Or.inl ⟨rfl, rfl⟩
    · rw [setAt_other _ _ _ _ e] at hy; exact Or.inr ⟨e, hy⟩
  refine ⟨⟨⟨by rw [hrow]; exact hf.hr.inv.cn, hf.hr.inv.byt, fun i y hy => ?_⟩, by rw [hrow]; exact hf.hr.ri, by rw [hrowS]; exact hf.hr.le⟩, fun i y hy => ?_, fun i => ?_, fun i y q hy hq => ?_⟩
  · rcases hne i y hy with ⟨rfl, rfl⟩ | ⟨_, hy'⟩
    · exact ⟨hn, Pgs.start, by show 0 ≤ 4; omega, dist_nil, by show (0 : Int) ≤ 0; omega, hW, by show (-1 : Int) ≤ -1; omega, by show (-1 : Int) ≤ 15; omega, fun y hy => by simp [gs0] at hy⟩
    · exact hf.hr.inv.gi i y hy'
  · rcases hne i y hy with ⟨rfl, rfl⟩ | ⟨_, hy'⟩
    · intro b j _ _; exact ⟨fun _ => rfl, fun _ => rfl⟩
    · exact hf.blk i y hy'
  · show setAt h.g n (some gs0) i = none ↔ _
    by_cases e : i = n
    · subst e; rw [setAt_same, setAt_same]; simp
    · rw [setAt_other _ _ _ _ e, setAt_other _ _ _ _ e]; exact hf.non i
  · rcases hne i y hy with ⟨rfl, rfl⟩ | ⟨e, hy'⟩
    · rw [setAt_same] at hq
      cases hq
      refine ⟨fun k _ => rfl, fun k j hk hj => ?_, rfl, rfl⟩
      show (0 : Int) = _
      have : (rowL h (16 * i + k)).there = false := by
        unfold rowL
        rw [show (16 * i + k) / 16 = i by omega, hx]; rfl
      exact (hf.hr.ri.out (16 * i + k) (by omega) this j hj).symm
    · rw [setAt_other _ _ _ _ e] at hq
      exact hf.fl i y q hy' hq
end Go.Proofs.YtadpibcgjgcjhabGreat
