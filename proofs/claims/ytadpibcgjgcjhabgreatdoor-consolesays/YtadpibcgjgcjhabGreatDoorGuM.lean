/- A guest, plainly; the document's answer for chapter 4 in memory. -/
import Derived.Test.YtadpibcgjgcjhabGreatDoorMapW
import Derived.Test.YtadpibcgjgcjhabGreatDoorMapP
import Derived.Test.YtadpibcgjgcjhabGreatDoorCaP
namespace Go.Proofs.YtadpibcgjgcjhabGreatDoor
open Go.ChangeShapes Go.WideShapes Go.ChangeAt Go.RowKit
set_option maxRecDepth 100000

/-- A guest: its pages, its cache (leaves are looked up), its root, how often a table was read. -/
structure Gs where
  m : Mp
  c : List En
  root : Int
  walks : Int
def gs0 : Gs := ⟨mp0, [], -1, 0⟩
def gTouch (s : Pl) (g : Gs) (n : Int) (wt : Bool) : (Int × Int) × Pl × Gs := (((touchR s g.m n wt).1.1, (touchR s g.m n wt).1.2.2), (touchR s g.m n wt).2.1, { g with m := (touchR s g.m n wt).2.2 })
/-- Behind the table: the page To is touched. -/
def gStep (s : Pl) (g : Gs) (x : En) (found wt : Bool) : (Int × Int) × Pl × Gs :=
  if wt && !x.may then ((0, 5), s, g)
  else if 0 < (gTouch s g x.dest wt).1.2 then ((0, (gTouch s g x.dest wt).1.2), (gTouch s g x.dest wt).2)
  else (((gTouch s g x.dest wt).1.1, 0), (gTouch s g x.dest wt).2.1, if found then (gTouch s g x.dest wt).2.2 else { (gTouch s g x.dest wt).2.2 with c := putC (gTouch s g x.dest wt).2.2.c x })
/-- What a table's byte says. -/
def gEn (root page b : Int) : En := ⟨root, page, b % 16, b / 64 % 2 == 1, lf0⟩
/-- The table is read. -/
def gWalk (s : Pl) (g : Gs) (page : Int) (wt : Bool) : (Int × Int) × Pl × Gs :=
  if 0 < (gTouch s g g.root false).1.2 then ((0, (gTouch s g g.root false).1.2), (gTouch s g g.root false).2)
  else if (gTouch s g g.root false).2.1.byt (gTouch s g g.root false).1.1.toNat page.toNat < 128 then ((0, 5), (gTouch s g g.root false).2.1, { (gTouch s g g.root false).2.2 with walks := g.walks + 1 })
  else gStep (gTouch s g g.root false).2.1 { (gTouch s g g.root false).2.2 with walks := g.walks + 1 } (gEn g.root page ((gTouch s g g.root false).2.1.byt (gTouch s g g.root false).1.1.toNat page.toNat)) false wt
/-- The frame of an address: D2. -/
def gAt (s : Pl) (g : Gs) (addr : Int) (wt : Bool) : (Int × Int) × Pl × Gs :=
  if addr < 0 ∨ 255 < addr then ((0, 1), s, g)
  else if g.root = -1 then gTouch s g (addr / 16) wt
  else if 0 ≤ fndI g.c g.root (addr / 16) then gStep s g (atE g.c (fndI g.c g.root (addr / 16)).toNat) true wt
  else gWalk s g (addr / 16) wt
def gLoad (s : Pl) (g : Gs) (addr : Int) : (Int × Int) × Pl × Gs :=
  if 0 < (gAt s g addr false).1.2 then ((0, (gAt s g addr false).1.2), (gAt s g addr false).2)
  else (((gAt s g addr false).2.1.byt (gAt s g addr false).1.1.toNat (addr % 16).toNat, 0), (gAt s g addr false).2)
def gStore (s : Pl) (g : Gs) (addr v : Int) : Int × Pl × Gs :=
  if 0 < (gAt s g addr true).1.2 then ((gAt s g addr true).1.2, (gAt s g addr true).2)
  else (((gAt s g addr true).2.1.set (gAt s g addr true).1.1 (addr % 16) v).1, ((gAt s g addr true).2.1.set (gAt s g addr true).1.1 (addr % 16) v).2, (gAt s g addr true).2.2)
def gRoot (g : Gs) (n : Int) : Int × Gs := if n < -1 ∨ 15 < n then (1, g) else (0, { g with root := n })
def gForget (g : Gs) (addr : Int) : Int × Gs :=
  if addr < 0 ∨ 255 < addr then (1, g) else (0, { g with c := keepTo (fun i => (i : Int) != fndI g.c g.root (addr / 16)) g.c g.c.length })
def gForgetAll (g : Gs) (n : Int) : Int × Gs := if onB n then (0, { g with c := keepTo (fun i => (atE g.c i).root != n) g.c g.c.length }) else (1, g)
/-- The entries as they are told: each leaf is its page's. -/
def gShow (m : Mp) (e : En) : En := { e with lf := m.lf e.dest.toNat }
def gCached (g : Gs) : List En := g.c.map (gShow g.m)

/-- What lies behind the map in a guest's block. -/
def gRest (v : Value) (root walks : Int) : Nat → Option Value := fun o => if o = 65 then some v else if o = 66 then some (.int .i64 root) else if o = 67 then some (.int .i64 walks) else none
/-- The document's guest in memory: its block bg, its pool's block bm, the list of its entries v. -/
structure RGu (w : World) (bg bm base : Nat) (v : Value) (g : Gs) : Prop where
  mp : RMap w bg bm { g.m with rest := gRest v g.root g.walks }
  sl : SlC w base v g.c
  nb : ∀ k, v.ownBlock = some k → k ≠ bg ∧ k ≠ bm
theorem SlC.ownLt {w : World} {base : Nat} {v : Value} {es : List En} (h : SlC w base v es) {g : Nat} (hg : v.ownBlock = some g) : base ≤ g ∧ g < w.heap.size := by
  rcases h.2 with ⟨rfl, _⟩ | ⟨g', cap, cur, rfl, hb, hg', _⟩
  · simp [Value.ownBlock] at hg
  · obtain rfl : g' = g := by simpa [Value.ownBlock] using hg
    exact ⟨hb, (Array.getElem?_eq_some_iff.1 hg').1⟩
/-- Whatever list is kept now: the one that was kept, or a new one. -/
def Fr (w : World) (v v' : Value) : Prop := ∀ k, v'.ownBlock = some k → v.ownBlock = some k ∨ w.heap.size ≤ k
theorem Fr.refl (w : World) (v : Value) : Fr w v v := fun _ h => Or.inl h
theorem Fr.of {w w2 : World} {v v' : Value} {z : Nat} {es : List En} (hs : SlC w2 z v' es) (hz : w.heap.size ≤ z) : Fr w v v' := fun _ h => Or.inr (Nat.le_trans hz (hs.ownLt h).1)
theorem touch_rest (s : Pl) (m : Mp) (n : Int) (wt : Bool) (r : Nat → Option Value) : touchR s { m with rest := r } n wt = ((touchR s m n wt).1, (touchR s m n wt).2.1, { (touchR s m n wt).2.2 with rest := r }) := by
  unfold touchR
  repeat' split
  all_goals first | rfl | contradiction
variable {w w' : World} {bg bm base : Nat} {v : Value} {g : Gs}
theorem RGu.c65 (h : RGu w bg bm base v g) : w.cell? ⟨bg, 65, none⟩ = some v := h.mp.rs 65 v (by omega) rfl
theorem RGu.c66 (h : RGu w bg bm base v g) : w.cell? ⟨bg, 66, none⟩ = some (.int .i64 g.root) := h.mp.rs 66 _ (by omega) rfl
theorem RGu.c67 (h : RGu w bg bm base v g) : w.cell? ⟨bg, 67, none⟩ = some (.int .i64 g.walks) := h.mp.rs 67 _ (by omega) rfl
theorem RGu.upd {S : Nat → Prop} (h : RGu w bg bm base v g) (u : Upd S w w') (hb : ¬ S bg) (hv : ∀ k, v.ownBlock = some k → ¬ S k) : RGu w' bg bm base v g := ⟨h.mp.upd u hb, h.sl.upd u hv, h.nb⟩
/-- The map's own cells turn. -/
theorem RGu.map {m' : Mp} (h : RGu w bg bm base v g) (u : Upd (fun k => k = bm ∨ k = bg) w w') (hm : RMap w' bg bm { m' with rest := gRest v g.root g.walks }) : RGu w' bg bm base v { g with m := m' } :=
  ⟨hm, h.sl.upd u (fun k hk e => by have := h.nb k hk; omega), h.nb⟩
/-- A cell behind the map turns. -/
theorem RMap.setRest {m : Mp} {o : Nat} {u : Value} {r : Nat → Option Value} (h : RMap w bg bm m) (ho : 65 ≤ o) (hc : ∃ z, w.cell? ⟨bg, o, none⟩ = some z) (hr : ∀ p, p ≠ o → r p = m.rest p) (hr2 : r o = some u) : RMap (w.setCell ⟨bg, o, none⟩ u) bg bm { m with rest := r } where
  pool := by rw [World.cell?_setCell_other _ _ _ _ (addr_ne (Or.inr (by omega)))]; exact h.pool
  st := fun k hk => by rw [World.cell?_setCell_other _ _ _ _ (addr_ne (Or.inr (by omega)))]; exact h.st k hk
  th := fun k hk => by rw [World.cell?_setCell_other _ _ _ _ (addr_ne (Or.inr (by omega)))]; exact h.th k hk
  wr := fun k hk => by rw [World.cell?_setCell_other _ _ _ _ (addr_ne (Or.inr (by omega)))]; exact h.wr k hk
  fr := fun k hk => by rw [World.cell?_setCell_other _ _ _ _ (addr_ne (Or.inr (by omega)))]; exact h.fr k hk
  fz := fun p => by rw [World.frozen?_setCell]; exact h.fz p
  rs := fun p z hp hz => by
    by_cases e : p = o
    · subst e
      obtain ⟨z0, h0⟩ := hc
      rw [World.cell?_setCell_same _ _ _ h0]
      exact hr2.symm.trans hz
    · rw [World.cell?_setCell_other _ _ _ _ (addr_ne (Or.inr (Ne.symm e)))]
      exact h.rs p z hp (by rw [← hr p e]; exact hz)
theorem RGu.setWalks (h : RGu w bg bm base v g) (n : Int) : RGu (w.setCell ⟨bg, 67, none⟩ (.int .i64 n)) bg bm base v { g with walks := n } :=
  ⟨h.mp.setRest (r := gRest v g.root n) (by omega) ⟨_, h.c67⟩ (fun p hp => by simp [gRest, hp]) rfl, h.sl.upd (Upd.one w bg 67 _) (fun k hk e => (h.nb k hk).1 e), h.nb⟩
theorem RGu.setRoot (h : RGu w bg bm base v g) (n : Int) : RGu (w.setCell ⟨bg, 66, none⟩ (.int .i64 n)) bg bm base v { g with root := n } :=
  ⟨h.mp.setRest (r := gRest v n g.walks) (by omega) ⟨_, h.c66⟩ (fun p hp => by simp [gRest, hp]) rfl, h.sl.upd (Upd.one w bg 66 _) (fun k hk e => (h.nb k hk).1 e), h.nb⟩
theorem RGu.setC {z : Nat} {v' : Value} {c' : List En} (h : RGu w bg bm base v g) (hs : SlC w z v' c') (hz : base ≤ z) (h1 : bg < z) (h2 : bm < z) : RGu (w.setCell ⟨bg, 65, none⟩ v') bg bm base v' { g with c := c' } := by
  have hg : ∀ k, v'.ownBlock = some k → z ≤ k := fun k hk => by
    rcases hs.2 with ⟨rfl, _⟩ | ⟨g', cap, cur, rfl, hb, _, _⟩
    · simp [Value.ownBlock] at hk
    · obtain rfl : g' = k := by simpa [Value.ownBlock] using hk
      exact hb
  refine ⟨h.mp.setRest (r := gRest v' g.root g.walks) (by omega) ⟨_, h.c65⟩ (fun p hp => by simp [gRest, hp]) rfl, (hs.weak hz).upd (Upd.one w bg 65 _) (fun k hk e => by have := hg k hk; omega), fun k hk => by have := hg k hk; omega⟩
end Go.Proofs.YtadpibcgjgcjhabGreatDoor
