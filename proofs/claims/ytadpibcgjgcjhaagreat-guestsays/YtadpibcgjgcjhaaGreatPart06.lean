/- The document's answer for chapter 3: an entry behind Point; two lists of entries held against each other. -/
import Derived.Test.YtadpibcgjgcjhaaGreatPart05
import Derived.Shelf.Abstract
namespace Go.Proofs.YtadpibcgjgcjhaaGreat
open Go.ChangeShapes Go.WideShapes Go.ChangeAt Go.RowKit
set_option maxRecDepth 100000
attribute [local go_sem ↓] Go.wp_at_zero Go.wp_at_succ

/-- An entry behind Point. -/
def pnt (d : Int) (l : Lf) (e : En) : En := if e.dest == d then { e with lf := l } else e
def pntTo (d : Int) (l : Lf) (es : List En) : Nat → List En
  | 0 => []
  | k + 1 => pntTo d l es k ++ [pnt d l (atE es k)]
def pntN (d : Int) (es : List En) : Nat → Nat
  | 0 => 0
  | k + 1 => pntN d es k + if (atE es k).dest == d then 1 else 0
theorem pntTo_length (d : Int) (l : Lf) (es : List En) : ∀ k, (pntTo d l es k).length = k
  | 0 => rfl
  | k + 1 => by simp [pntTo, pntTo_length d l es k]
theorem pntN_le (d : Int) (es : List En) : ∀ k, pntN d es k ≤ k
  | 0 => Nat.le_refl _
  | k + 1 => by
    have := pntN_le d es k
    unfold pntN
    split <;> omega
theorem cSame_any (w : World) (b0 b1 : Nat) (v u : Value) (es : List En) (h : SlC w b0 v es) (h2 : SlC w b1 u es) (hl : es.length ≤ 50) :
    Calls Tryz.prog 65 #[v, u] w fun e w' => e = .returned (.bool true) ∧ ∃ m, w' = w.drewN m := by
  obtain ⟨a, cap, rfl, hc⟩ := h.form
  obtain ⟨a2, cap2, rfl, hc2⟩ := h2.form
  have HC : Hid _ := hc
  have HC2 : Hid _ := hc2
  clear hc hc2
  have b1' : (((es.length : Nat) : Int) != ((es.length : Nat) : Int)) = false := by simp
  go_enter Tryz.func65, Tryz.ntmps65
  go_wp2_with fail
  go_loopg [5] es.length (fun g i wi => ∃ k : Nat, k + g = es.length ∧ i = .int .i64 k ∧ ∃ m, wi = w.drewN m)
  case atStart => exact ⟨0, by omega, rfl, 0, rfl⟩
  case round =>
    obtain ⟨k, hk, rfl, m, rfl⟩ := hrel
    have HK : Hid _ := hk
    by_cases hlt : k < es.length
    · clear hk b1'
      obtain ⟨g, rfl, _, _, hcell⟩ := HC.out k hlt
      obtain ⟨g2, rfl, _, _, hcell2⟩ := HC2.out k hlt
      have c0 : (w.drewN m).cell? ⟨g, k * 7, none⟩ = some (.int .i64 (atE es k).root) := hcell 0 (by omega)
      have c1 : (w.drewN m).cell? ⟨g, k * 7 + 1, none⟩ = some (.int .i64 (atE es k).page) := hcell 1 (by omega)
      have c2 : (w.drewN m).cell? ⟨g, k * 7 + 2, none⟩ = some (.int .i64 (atE es k).dest) := hcell 2 (by omega)
      have c3 : (w.drewN m).cell? ⟨g, k * 7 + 3, none⟩ = some (.bool (atE es k).may) := hcell 3 (by omega)
      have c4 : (w.drewN m).cell? ⟨g, k * 7 + 4, none⟩ = some (.bool (atE es k).lf.there) := hcell 4 (by omega)
      have c5 : (w.drewN m).cell? ⟨g, k * 7 + 5, none⟩ = some (.bool (atE es k).lf.wr) := hcell 5 (by omega)
      have c6 : (w.drewN m).cell? ⟨g, k * 7 + 6, none⟩ = some (.int .i64 (atE es k).lf.fr) := hcell 6 (by omega)
      have d0 : (w.drewN m).cell? ⟨g2, k * 7, none⟩ = some (.int .i64 (atE es k).root) := hcell2 0 (by omega)
      have d1 : (w.drewN m).cell? ⟨g2, k * 7 + 1, none⟩ = some (.int .i64 (atE es k).page) := hcell2 1 (by omega)
      have d2 : (w.drewN m).cell? ⟨g2, k * 7 + 2, none⟩ = some (.int .i64 (atE es k).dest) := hcell2 2 (by omega)
      have d3 : (w.drewN m).cell? ⟨g2, k * 7 + 3, none⟩ = some (.bool (atE es k).may) := hcell2 3 (by omega)
      have d4 : (w.drewN m).cell? ⟨g2, k * 7 + 4, none⟩ = some (.bool (atE es k).lf.there) := hcell2 4 (by omega)
      have d5 : (w.drewN m).cell? ⟨g2, k * 7 + 5, none⟩ = some (.bool (atE es k).lf.wr) := hcell2 5 (by omega)
      have d6 : (w.drewN m).cell? ⟨g2, k * 7 + 6, none⟩ = some (.int .i64 (atE es k).lf.fr) := hcell2 6 (by omega)
      clear hcell hcell2 HC HC2
      have k0 : (0 : Int) ≤ (k : Int) := by omega
      have k1 : (k : Int) < es.length := by omega
      generalize atE es k = x at *
      go_wp2_with fail
      go_region_held3 (fun w' => w'.cell? ⟨g, k * 7, none⟩ = some (.int .i64 x.root) ∧ w'.cell? ⟨g, k * 7 + 1, none⟩ = some (.int .i64 x.page) ∧ w'.cell? ⟨g, k * 7 + 2, none⟩ = some (.int .i64 x.dest) ∧ w'.cell? ⟨g, k * 7 + 3, none⟩ = some (.bool x.may) ∧ w'.cell? ⟨g, k * 7 + 4, none⟩ = some (.bool x.lf.there) ∧ w'.cell? ⟨g, k * 7 + 5, none⟩ = some (.bool x.lf.wr) ∧ w'.cell? ⟨g, k * 7 + 6, none⟩ = some (.int .i64 x.lf.fr) ∧ w'.cell? ⟨g2, k * 7, none⟩ = some (.int .i64 x.root) ∧ w'.cell? ⟨g2, k * 7 + 1, none⟩ = some (.int .i64 x.page) ∧ w'.cell? ⟨g2, k * 7 + 2, none⟩ = some (.int .i64 x.dest) ∧ w'.cell? ⟨g2, k * 7 + 3, none⟩ = some (.bool x.may) ∧ w'.cell? ⟨g2, k * 7 + 4, none⟩ = some (.bool x.lf.there) ∧ w'.cell? ⟨g2, k * 7 + 5, none⟩ = some (.bool x.lf.wr) ∧ w'.cell? ⟨g2, k * 7 + 6, none⟩ = some (.int .i64 x.lf.fr)) (first | exact ⟨c0, c1, c2, c3, c4, c5, c6, d0, d1, d2, d3, d4, d5, d6⟩ | go_keep) (fail)
      go_wp2_with fail
      go_roundg (es.length - (k + 1))
      case rel => exact ⟨k + 1, by omega, by go_num, m + 1, rfl⟩
      case measure => have := HK.out; omega
    · clear hk b1' HC HC2
      go_wp2_with fail
      go_ret
      exact ⟨rfl, m, rfl⟩
end Go.Proofs.YtadpibcgjgcjhaaGreat
/- A guest, plainly; the document's answer for chapter 4 in memory. -/
namespace Go.Proofs.YtadpibcgjgcjhaaGreat
open Go.ChangeShapes Go.WideShapes Go.ChangeAt Go.RowKit
set_option maxRecDepth 100000

/-- A guest: its pages, its cache (leaves are looked up), its root, how often a table was read. -/
structure Gs where
  m : Mp
  c : List En
  root : Int
  walks : Int
def gs0 : Gs := ⟨mp0, [], -1, 0⟩
def gTouch (s : Pl) (g : Gs) (n : Int) (wt : Bool) : (Int × Int) × Pl × Gs := (((touchR s g.m n wt).1.1, (touchR s g.m n wt).1.2.2), (touchR s g.m n wt).2.1, { g with m := (touchR s g.m n wt).2.2 })
/-- Behind the table: the page To is touched. -/
def gStep (s : Pl) (g : Gs) (x : En) (found wt : Bool) : (Int × Int) × Pl × Gs :=
  if wt && !x.may then ((0, 5), s, g)
  else if 0 < (gTouch s g x.dest wt).1.2 then ((0, (gTouch s g x.dest wt).1.2), (gTouch s g x.dest wt).2)
  else (((gTouch s g x.dest wt).1.1, 0), (gTouch s g x.dest wt).2.1, if found then (gTouch s g x.dest wt).2.2 else { (gTouch s g x.dest wt).2.2 with c := putC (gTouch s g x.dest wt).2.2.c x })
/-- What a table's byte says. -/
def gEn (root page b : Int) : En := ⟨root, page, b % 16, b / 64 % 2 == 1, lf0⟩
/-- The table is read. -/
def gWalk (s : Pl) (g : Gs) (page : Int) (wt : Bool) : (Int × Int) × Pl × Gs :=
  if 0 < (gTouch s g g.root false).1.2 then ((0, (gTouch s g g.root false).1.2), (gTouch s g g.root false).2)
  else if (gTouch s g g.root false).2.1.byt (gTouch s g g.root false).1.1.toNat page.toNat < 128 then ((0, 5), (gTouch s g g.root false).2.1, { (gTouch s g g.root false).2.2 with walks := g.walks + 1 })
  else gStep (gTouch s g g.root false).2.1 { (gTouch s g g.root false).2.2 with walks := g.walks + 1 } (gEn g.root page ((gTouch s g g.root false).2.1.byt (gTouch s g g.root false).1.1.toNat page.toNat)) false wt
/-- The frame of an address: D2. -/
def gAt (s : Pl) (g : Gs) (addr : Int) (wt : Bool) : (Int × Int) × Pl × Gs :=
  if addr < 0 ∨ 255 < addr then ((0, 1), s, g)
  else if g.root = -1 then gTouch s g (addr / 16) wt
  else if 0 ≤ fndI g.c g.root (addr / 16) then gStep s g (atE g.c (fndI g.c g.root (addr / 16)).toNat) true wt
  else gWalk s g (addr / 16) wt
def gLoad (s : Pl) (g : Gs) (addr : Int) : (Int × Int) × Pl × Gs :=
  if 0 < (gAt s g addr false).1.2 then ((0, (gAt s g addr false).1.2), (gAt s g addr false).2)
  else (((gAt s g addr false).2.1.byt (gAt s g addr false).1.1.toNat (addr % 16).toNat, 0), (gAt s g addr false).2)
def gStore (s : Pl) (g : Gs) (addr v : Int) : Int × Pl × Gs :=
  if 0 < (gAt s g addr true).1.2 then ((gAt s g addr true).1.2, (gAt s g addr true).2)
  else (((gAt s g addr true).2.1.set (gAt s g addr true).1.1 (addr % 16) v).1, ((gAt s g addr true).2.1.set (gAt s g addr true).1.1 (addr % 16) v).2, (gAt s g addr true).2.2)
def gRoot (g : Gs) (n : Int) : Int × Gs := if n < -1 ∨ 15 < n then (1, g) else (0, { g with root := n })
def gForget (g : Gs) (addr : Int) : Int × Gs :=
  if addr < 0 ∨ 255 < addr then (1, g) else (0, { g with c := keepTo (fun i => (i : Int) != fndI g.c g.root (addr / 16)) g.c g.c.length })
def gForgetAll (g : Gs) (n : Int) : Int × Gs := if onB n then (0, { g with c := keepTo (fun i => (atE g.c i).root != n) g.c g.c.length }) else (1, g)
/-- The entries as they are told: each leaf is its page's. -/
def gShow (m : Mp) (e : En) : En := { e with lf := m.lf e.dest.toNat }
def gCached (g : Gs) : List En := g.c.map (gShow g.m)

/-- What lies behind the map in a guest's block. -/
def gRest (v : Value) (root walks : Int) : Nat → Option Value := fun o => if o = 65 then some v else if o = 66 then some (.int .i64 root) else if o = 67 then some (.int .i64 walks) else none
/-- The document's guest in memory: its block bg, its pool's block bm, the list of its entries v. -/
structure RGu (w : World) (bg bm base : Nat) (v : Value) (g : Gs) : Prop where
  mp : RMap w bg bm { g.m with rest := gRest v g.root g.walks }
  sl : SlC w base v g.c
  nb : ∀ k, v.ownBlock = some k → k ≠ bg ∧ k ≠ bm
theorem SlC.ownLt {w : World} {base : Nat} {v : Value} {es : List En} (h : SlC w base v es) {g : Nat} (hg : v.ownBlock = some g) : base ≤ g ∧ g < w.heap.size := by
  rcases h.2 with ⟨rfl, _⟩ | ⟨g', cap, cur, rfl, hb, hg', _⟩
  · simp [Value.ownBlock] at hg
  · obtain rfl : g' = g := by simpa [Value.ownBlock] using hg
    exact ⟨hb, (Array.getElem?_eq_some_iff.1 hg').1⟩
/-- Whatever list is kept now: the one that was kept, or a new one. -/
def Fr (w : World) (v v' : Value) : Prop := ∀ k, v'.ownBlock = some k → v.ownBlock = some k ∨ w.heap.size ≤ k
theorem Fr.refl (w : World) (v : Value) : Fr w v v := fun _ h => Or.inl h
theorem Fr.of {w w2 : World} {v v' : Value} {z : Nat} {es : List En} (hs : SlC w2 z v' es) (hz : w.heap.size ≤ z) : Fr w v v' := fun _ h => Or.inr (Nat.le_trans hz (hs.ownLt h).1)
theorem touch_rest (s : Pl) (m : Mp) (n : Int) (wt : Bool) (r : Nat → Option Value) : touchR s { m with rest := r } n wt = ((touchR s m n wt).1, (touchR s m n wt).2.1, { (touchR s m n wt).2.2 with rest := r }) := by
  unfold touchR
  repeat' split
  all_goals first | rfl | contradiction
variable {w w' : World} {bg bm base : Nat} {v : Value} {g : Gs}
theorem RGu.c65 (h : RGu w bg bm base v g) : w.cell? ⟨bg, 65, none⟩ = some v := h.mp.rs 65 v (by omega) rfl
theorem RGu.c66 (h : RGu w bg bm base v g) : w.cell? ⟨bg, 66, none⟩ = some (.int .i64 g.root) := h.mp.rs 66 _ (by omega) rfl
theorem RGu.c67 (h : RGu w bg bm base v g) : w.cell? ⟨bg, 67, none⟩ = some (.int .i64 g.walks) := h.mp.rs 67 _ (by omega) rfl
theorem RGu.upd {S : Nat → Prop} (h : RGu w bg bm base v g) (u : Upd S w w') (hb : ¬ S bg) (hv : ∀ k, v.ownBlock = some k → ¬ S k) : RGu w' bg bm base v g := ⟨h.mp.upd u hb, h.sl.upd u hv, h.nb⟩
/-- The map's own cells turn. -/
theorem RGu.map {m' : Mp} (h : RGu w bg bm base v g) (u : Upd (fun k => k = bm ∨ k = bg) w w') (hm : RMap w' bg bm { m' with rest := gRest v g.root g.walks }) : RGu w' bg bm base v { g with m := m' } :=
  ⟨hm, h.sl.upd u (fun k hk e => by have := h.nb k hk; omega), h.nb⟩
/-- A cell behind the map turns. -/
theorem RMap.setRest {m : Mp} {o : Nat} {u : Value} {r : Nat → Option Value} (h : RMap w bg bm m) (ho : 65 ≤ o) (hc : ∃ z, w.cell? ⟨bg, o, none⟩ = some z) (hr : ∀ p, p ≠ o → r p = m.rest p) (hr2 : r o = some u) : RMap (w.setCell ⟨bg, o, none⟩ u) bg bm { m with rest := r } where
  pool := by rw [World.cell?_setCell_other _ _ _ _ (addr_ne (Or.inr (by omega)))]; exact h.pool
  st := fun k hk => by rw [World.cell?_setCell_other _ _ _ _ (addr_ne (Or.inr (by omega)))]; exact h.st k hk
  th := fun k hk => by rw [World.cell?_setCell_other _ _ _ _ (addr_ne (Or.inr (by omega)))]; exact h.th k hk
  wr := fun k hk => by rw [World.cell?_setCell_other _ _ _ _ (addr_ne (Or.inr (by omega)))]; exact h.wr k hk
  fr := fun k hk => by rw [World.cell?_setCell_other _ _ _ _ (addr_ne (Or.inr (by omega)))]; exact h.fr k hk
  fz := fun p => by rw [World.frozen?_setCell]; exact h.fz p
  rs := fun p z hp hz => by
    by_cases e : p = o
    · subst e
      obtain ⟨z0, h0⟩ := hc
      rw [World.cell?_setCell_same _ _ _ h0]
      exact hr2.symm.trans hz
    · rw [World.cell?_setCell_other _ _ _ _ (addr_ne (Or.inr (Ne.symm e)))]
      exact h.rs p z hp (by rw [← hr p e]; exact hz)
theorem RGu.setWalks (h : RGu w bg bm base v g) (n : Int) : RGu (w.setCell ⟨bg, 67, none⟩ (.int .i64 n)) bg bm base v { g with walks := n } :=
  ⟨h.mp.setRest (r := gRest v g.root n) (by omega) ⟨_, h.c67⟩ (fun p hp => by simp [gRest, hp]) rfl, h.sl.upd (Upd.one w bg 67 _) (fun k hk e => (h.nb k hk).1 e), h.nb⟩
theorem RGu.setRoot (h : RGu w bg bm base v g) (n : Int) : RGu (w.setCell ⟨bg, 66, none⟩ (.int .i64 n)) bg bm base v { g with root := n } :=
  ⟨h.mp.setRest (r := gRest v n g.walks) (by omega) ⟨_, h.c66⟩ (fun p hp => by simp [gRest, hp]) rfl, h.sl.upd (Upd.one w bg 66 _) (fun k hk e => (h.nb k hk).1 e), h.nb⟩
theorem RGu.setC {z : Nat} {v' : Value} {c' : List En} (h : RGu w bg bm base v g) (hs : SlC w z v' c') (hz : base ≤ z) (h1 : bg < z) (h2 : bm < z) : RGu (w.setCell ⟨bg, 65, none⟩ v') bg bm base v' { g with c := c' } := by
  have hg : ∀ k, v'.ownBlock = some k → z ≤ k := fun k hk => by
    rcases hs.2 with ⟨rfl, _⟩ | ⟨g', cap, cur, rfl, hb, _, _⟩
    · simp [Value.ownBlock] at hk
    · obtain rfl : g' = k := by simpa [Value.ownBlock] using hk
      exact hb
  refine ⟨h.mp.setRest (r := gRest v' g.root g.walks) (by omega) ⟨_, h.c65⟩ (fun p hp => by simp [gRest, hp]) rfl, (hs.weak hz).upd (Upd.one w bg 65 _) (fun k hk e => by have := hg k hk; omega), fun k hk => by have := hg k hk; omega⟩
end Go.Proofs.YtadpibcgjgcjhaaGreat
/- Touch, plainly: the frame it tells is one, and bytes stay bytes. -/
namespace Go.Proofs.YtadpibcgjgcjhaaGreat
def BytOk (s : Pl) : Prop := ∀ f i, 0 ≤ s.byt f i ∧ s.byt f i ≤ 255
theorem take_or (s : Pl) : (∃ j : Nat, j < s.n ∧ s.take = ((j : Int), 0, { s with refs := setAt s.refs j 1, byt := setAt s.byt j fun _ => 0 })) ∨ s.take = (0, 3, s) := by
  unfold Pl.take
  cases h : firstFrom s.refs 0 s.n with
  | none => exact Or.inr rfl
  | some j =>
    refine Or.inl ⟨j, ?_, rfl⟩
    have aux : ∀ (m k : Nat), firstFrom s.refs k m = some j → k ≤ j ∧ j < k + m := by
      intro m
      induction m with
      | zero => intro k hk; simp [firstFrom] at hk
      | succ m ih =>
        intro k hk
        unfold firstFrom at hk
        split at hk
        · cases hk; omega
        · have := ih (k + 1) hk; omega
    have := aux s.n 0 h
    omega
theorem share_same (s : Pl) (f d : Int) : (s.share f d).2.n = s.n ∧ (s.share f d).2.byt = s.byt := by unfold Pl.share; split <;> exact ⟨rfl, rfl⟩
theorem touch_code (s : Pl) (m : Mp) (n : Int) (wt : Bool) : 0 ≤ (touchR s m n wt).1.2.2 := by
  unfold touchR
  repeat' split
  all_goals first | (simp; done) | skip
  rcases take_or s with ⟨j, _, e⟩ | e <;> rw [e] <;> simp
theorem touch_frame {s : Pl} {a b : Mp} (h : Inv s a b) (n : Int) (wt : Bool) (he : (touchR s a n wt).1.2.2 = 0) :
    0 ≤ (touchR s a n wt).1.1 ∧ (touchR s a n wt).1.1 < (touchR s a n wt).2.1.n ∧ onB n = true ∧ ((touchR s a n wt).2.2.lf n.toNat).there = true ∧ ((touchR s a n wt).2.2.lf n.toNat).fr = (touchR s a n wt).1.1 := by
  unfold touchR at he ⊢
  cases ho : onB n with
  | false => simp [ho] at he
  | true =>
    obtain ⟨n0, n1⟩ := (onB_iff n).1 ho
    have hk : n.toNat < 16 := by omega
    simp only [ho, if_true] at he ⊢
    by_cases h0 : a.st n.toNat = 0
    · simp [h0] at he
    · rw [if_neg h0] at he ⊢
      by_cases h2 : a.st n.toNat = 2
      · simp [h2] at he
      · rw [if_neg h2] at he ⊢
        cases ht : (a.lf n.toNat).there with
        | true =>
          have hin := h.ina n.toNat hk ht
          cases hw : (!wt || (a.lf n.toNat).wr) with
          | true => simp [ht, hin]
          | false =>
            simp only [ht, hw, Bool.and_false, Bool.false_eq_true, if_false, Bool.true_and] at he ⊢
            cases hr : (s.refs (a.lf n.toNat).fr.toNat == 1) with
            | true => simp [setAt, hin]
            | false =>
              simp only [hr, Bool.false_eq_true, if_false] at he ⊢
              rcases take_or s with ⟨j, hj, e⟩ | e
              · rw [e]
                simp only [if_true, setAt]
                exact ⟨by omega, by rw [(share_same _ _ _).1]; show (j : Int) < s.n; omega, trivial, by simp, by simp⟩
              · rw [e] at he; simp at he
        | false =>
          simp only [ht, Bool.false_and, Bool.false_eq_true, if_false] at he ⊢
          rcases take_or s with ⟨j, hj, e⟩ | e
          · rw [e]
            simp only [if_true, setAt]
            exact ⟨by omega, by show (j : Int) < s.n; omega, trivial, by simp, by simp⟩
          · rw [e] at he; simp at he
theorem BytOk.touch {s : Pl} (h : BytOk s) (m : Mp) (n : Int) (wt : Bool) : BytOk (touchR s m n wt).2.1 := by
  have ht : BytOk s.take.2.2 := by
    rcases take_or s with ⟨j, _, e⟩ | e
    · rw [e]
      intro f i
      show 0 ≤ setAt s.byt j (fun _ => 0) f i ∧ setAt s.byt j (fun _ => 0) f i ≤ 255
      by_cases ef : f = j
      · subst ef; simp [setAt]
      · rw [setAt_other _ _ _ _ ef]; exact h f i
    · rw [e]; exact h
  unfold touchR
  repeat' split
  all_goals first | exact h | exact ht | skip
  intro f i
  rw [(share_same _ _ _).2]
  show 0 ≤ setAt s.take.2.2.byt s.take.1.toNat (s.take.2.2.byt (m.lf n.toNat).fr.toNat) f i ∧ setAt s.take.2.2.byt s.take.1.toNat (s.take.2.2.byt (m.lf n.toNat).fr.toNat) f i ≤ 255
  by_cases ef : f = s.take.1.toNat
  · rw [ef, setAt_same]; exact ht _ _
  · rw [setAt_other _ _ _ _ ef]; exact ht f i
end Go.Proofs.YtadpibcgjgcjhaaGreat
/- A guest, plainly: what At keeps. -/
namespace Go.Proofs.YtadpibcgjgcjhaaGreat

/-- What holds of a guest and its pool (b: another map on that pool). -/
structure GInv (s : Pl) (g : Gs) (b : Mp) (W : Int) : Prop where
  inv : Inv s g.m b
  byt : BytOk s
  len : g.c.length ≤ 4
  w0 : 0 ≤ g.walks
  w1 : g.walks ≤ W
  r0 : -1 ≤ g.root
  r1 : g.root ≤ 15
  en : ∀ x ∈ g.c, 0 ≤ x.dest ∧ x.dest < 16
theorem GInv.more {s : Pl} {g : Gs} {b : Mp} {W W' : Int} (h : GInv s g b W) (hw : W ≤ W') : GInv s g b W' := { h with w1 := Int.le_trans h.w1 hw }
theorem GInv.touch {s : Pl} {g : Gs} {b : Mp} {W : Int} (h : GInv s g b W) (n : Int) (wt : Bool) : GInv (gTouch s g n wt).2.1 (gTouch s g n wt).2.2 b W :=
  ⟨h.inv.touch n wt, h.byt.touch g.m n wt, h.len, h.w0, h.w1, h.r0, h.r1, h.en⟩
theorem keepTo_mem (P : Nat → Bool) (es : List En) : ∀ k, k ≤ es.length → ∀ x ∈ keepTo P es k, x ∈ es
  | 0, _, x, hx => by simp [keepTo] at hx
  | k + 1, hk, x, hx => by
    unfold keepTo at hx
    rw [List.mem_append] at hx
    rcases hx with hx | hx
    · exact keepTo_mem P es k (by omega) x hx
    · split at hx
      · rw [List.mem_singleton] at hx
        subst hx
        simp [atE, List.getD_eq_getElem?_getD, List.getElem?_eq_getElem (show k < es.length by omega)]
      · simp at hx
theorem keepTo_drop0 (l : List En) (h : 0 < l.length) : (keepTo (fun i => (i : Int) != 0) l l.length).length < l.length := by
  have aux : ∀ k, k + 1 ≤ l.length → (keepTo (fun i => (i : Int) != 0) l (k + 1)).length ≤ k := by
    intro k
    induction k with
    | zero => intro _; simp [keepTo]
    | succ k ih =>
      intro hk
      have := ih (by omega)
      unfold keepTo
      rw [List.length_append]
      split
      · simp; omega
      · simp; omega
  have := aux (l.length - 1) (by omega)
  rw [show l.length - 1 + 1 = l.length by omega] at this
  omega
theorem putC_le (es : List En) (x : En) (h : es.length ≤ 4) : (putC es x).length ≤ 4 := by
  have h1 := keepTo_length (fun i => (i : Int) != fndI es x.root x.page) es es.length
  unfold putC
  simp only
  generalize keepTo (fun i => (i : Int) != fndI es x.root x.page) es es.length = l at *
  split
  · have := keepTo_drop0 (l ++ [x]) (by simp)
    simp at this ⊢
    omega
  · omega
theorem putC_mem (es : List En) (x : En) : ∀ y ∈ putC es x, y ∈ es ∨ y = x := by
  intro y hy
  unfold putC at hy
  simp only at hy
  have aux : ∀ z ∈ keepTo (fun i => (i : Int) != fndI es x.root x.page) es es.length ++ [x], z ∈ es ∨ z = x := by
    intro z hz
    rw [List.mem_append, List.mem_singleton] at hz
    rcases hz with hz | hz
    · exact Or.inl (keepTo_mem _ _ _ (Nat.le_refl _) z hz)
    · exact Or.inr hz
  split at hy
  · exact aux y (keepTo_mem _ _ _ (Nat.le_refl _) y hy)
  · exact aux y hy
theorem GInv.step {s : Pl} {g : Gs} {b : Mp} {W : Int} (h : GInv s g b W) (x : En) (hx : 0 ≤ x.dest ∧ x.dest < 16) (found wt : Bool) : GInv (gStep s g x found wt).2.1 (gStep s g x found wt).2.2 b W := by
  unfold gStep
  split
  · exact h
  · split
    · exact h.touch _ _
    · have ht := h.touch x.dest wt
      cases found with
      | true => exact ht
      | false =>
        simp only [Bool.false_eq_true, if_false]
        exact ⟨ht.inv, ht.byt, putC_le _ _ ht.len, ht.w0, ht.w1, ht.r0, ht.r1, fun y hy => by
          rcases putC_mem _ _ y hy with hy | rfl
          · exact ht.en y hy
          · exact hx⟩
theorem GInv.at {s : Pl} {g : Gs} {b : Mp} {W : Int} (h : GInv s g b W) (addr : Int) (wt : Bool) : GInv (gAt s g addr wt).2.1 (gAt s g addr wt).2.2 b (W + 1) := by
  have h' := h.more (show W ≤ W + 1 by omega)
  unfold gAt
  split
  · exact h'
  · split
    · exact h'.touch _ _
    · split
      · next hf =>
        rcases Nat.lt_or_ge (fndI g.c g.root (addr / 16)).toNat g.c.length with hlt | hge
        · exact h'.step _ (h'.en _ (by simp [atE, List.getD_eq_getElem?_getD, List.getElem?_eq_getElem hlt])) _ _
        · exact h'.step _ (by simp [atE, List.getD_eq_getElem?_getD, List.getElem?_eq_none hge, en0]) _ _
      · unfold gWalk
        have ht := h.touch g.root false
        split
        · exact ht.more (by omega)
        · have hw : GInv (gTouch s g g.root false).2.1 { (gTouch s g g.root false).2.2 with walks := g.walks + 1 } b (W + 1) :=
            ⟨ht.inv, ht.byt, ht.len, by have := h.w0; show 0 ≤ g.walks + 1; omega, by have := h.w1; show g.walks + 1 ≤ W + 1; omega, ht.r0, ht.r1, ht.en⟩
          split
          · exact hw
          · exact hw.step _ (by show 0 ≤ _ % 16 ∧ _ % 16 < 16; omega) _ _
theorem idx_or (es : List En) (r p : Int) : (∃ j : Nat, j < es.length ∧ fndI es r p = j) ∨ fndI es r p = -1 := by
  unfold fndI
  cases h : es.findIdx? (isAt r p) with
  | none => exact Or.inr rfl
  | some i =>
    refine Or.inl ⟨i, ?_, rfl⟩
    have := (List.findIdx?_eq_some_iff_getElem.1 h).1
    exact this
theorem gTouch_code (s : Pl) (g : Gs) (n : Int) (wt : Bool) : 0 ≤ (gTouch s g n wt).1.2 := touch_code s g.m n wt
theorem gStep_code (s : Pl) (g : Gs) (x : En) (found wt : Bool) : 0 ≤ (gStep s g x found wt).1.2 := by
  unfold gStep
  split
  · simp
  · split
    · exact gTouch_code _ _ _ _
    · simp
theorem gAt_code (s : Pl) (g : Gs) (addr : Int) (wt : Bool) : 0 ≤ (gAt s g addr wt).1.2 := by
  unfold gAt
  split
  · simp
  · split
    · exact gTouch_code _ _ _ _
    · split
      · exact gStep_code _ _ _ _ _
      · unfold gWalk
        split
        · exact gTouch_code _ _ _ _
        · split
          · simp
          · exact gStep_code _ _ _ _ _
theorem gTouch_frame {s : Pl} {g : Gs} {b : Mp} {W : Int} (h : GInv s g b W) (n : Int) (wt : Bool) (he : (gTouch s g n wt).1.2 = 0) : 0 ≤ (gTouch s g n wt).1.1 ∧ (gTouch s g n wt).1.1 < (gTouch s g n wt).2.1.n := by
  have := touch_frame h.inv n wt he
  exact ⟨this.1, this.2.1⟩
theorem gStep_frame {s : Pl} {g : Gs} {b : Mp} {W : Int} (h : GInv s g b W) (x : En) (found wt : Bool) (he : (gStep s g x found wt).1.2 = 0) : 0 ≤ (gStep s g x found wt).1.1 ∧ (gStep s g x found wt).1.1 < (gStep s g x found wt).2.1.n := by
  have hc := gTouch_code s g x.dest wt
  unfold gStep at he ⊢
  split
  · simp_all
  · next h1 =>
    rw [if_neg h1] at he
    split
    · next h2 => rw [if_pos h2] at he; simp only at he; omega
    · next h2 => exact gTouch_frame h x.dest wt (by omega)
theorem gAt_frame {s : Pl} {g : Gs} {b : Mp} {W : Int} (h : GInv s g b W) (addr : Int) (wt : Bool) (he : (gAt s g addr wt).1.2 = 0) : (0 ≤ addr ∧ addr ≤ 255) ∧ 0 ≤ (gAt s g addr wt).1.1 ∧ (gAt s g addr wt).1.1 < (gAt s g addr wt).2.1.n := by
  unfold gAt at he ⊢
  split
  · simp_all
  · next h0 =>
    rw [if_neg h0] at he
    refine ⟨by omega, ?_⟩
    split
    · next h1 => rw [if_pos h1] at he; exact gTouch_frame h _ _ he
    · next h1 =>
      rw [if_neg h1] at he
      split
      · next h2 => rw [if_pos h2] at he; exact gStep_frame h _ _ _ he
      · next h2 =>
        rw [if_neg h2] at he
        unfold gWalk at he ⊢
        have hc := gTouch_code s g g.root false
        have ht := h.touch g.root false
        split
        · next h3 => rw [if_pos h3] at he; simp only at he; omega
        · next h3 =>
          rw [if_neg h3] at he
          have hw : GInv (gTouch s g g.root false).2.1 { (gTouch s g g.root false).2.2 with walks := g.walks + 1 } b (W + 1) :=
            ⟨ht.inv, ht.byt, ht.len, by have := h.w0; show 0 ≤ g.walks + 1; omega, by have := h.w1; show g.walks + 1 ≤ W + 1; omega, ht.r0, ht.r1, ht.en⟩
          split
          · next h4 => rw [if_pos h4] at he; simp at he
          · next h4 => rw [if_neg h4] at he; exact gStep_frame hw _ _ _ he
end Go.Proofs.YtadpibcgjgcjhaaGreat
/- Package cache: a cache in memory; the predicates; live. -/
namespace Go.Proofs.YtadpibcgjgcjhaaGreat
open Go.ChangeShapes Go.WideShapes Go.ChangeAt Go.RowKit
set_option maxRecDepth 100000
attribute [local go_sem ↓] Go.wp_at_zero Go.wp_at_succ

/-- A cache in memory: four places, and how many of them have an entry. -/
structure CaAt (w : World) (b : Nat) (cur : Nat → En) (n : Nat) : Prop where
  cells : ∀ i j, i < 4 → j < 7 → w.cell? ⟨b, i * 7 + j, none⟩ = (enCells (cur i))[j]?
  cnt : w.cell? ⟨b, 28, none⟩ = some (.int .i64 n)
  fz : ∀ o, w.frozen? ⟨b, o, none⟩ = false
  le : n ≤ 4
theorem CaAt.lt {w : World} {b : Nat} {cur : Nat → En} {n : Nat} (h : CaAt w b cur n) : b < w.heap.size := World.block_lt_of_cell? w _ h.cnt
theorem enCells_some (e : En) (j : Nat) (hj : j < 7) : ∃ v, (enCells e)[j]? = some v := ⟨_, List.getElem?_eq_getElem (show j < (enCells e).length from hj)⟩
theorem CaAt.upd {S : Nat → Prop} {w w' : World} {b : Nat} {cur : Nat → En} {n : Nat} (h : CaAt w b cur n) (u : Upd S w w') (hb : ¬ S b) : CaAt w' b cur n where
  cells := fun i j hi hj => by
    obtain ⟨v, hv⟩ := enCells_some (cur i) j hj
    rw [hv]
    exact u.cell ((h.cells i j hi hj).trans hv) hb
  cnt := u.cell h.cnt hb
  fz := fun o => by rw [World.frozen?_of_block (w := w) (u.block b h.lt hb)]; exact h.fz o
  le := h.le
theorem CaAt.setCnt {w : World} {b : Nat} {cur : Nat → En} {n : Nat} (h : CaAt w b cur n) (m : Nat) (hm : m ≤ 4) : CaAt (w.setCell ⟨b, 28, none⟩ (.int .i64 m)) b cur m where
  cells := fun i j hi hj => by rw [World.cell?_setCell_other _ _ _ _ (addr_ne (Or.inr (by omega)))]; exact h.cells i j hi hj
  cnt := World.cell?_setCell_same _ _ _ h.cnt
  fz := fun o => by rw [World.frozen?_setCell]; exact h.fz o
  le := hm
theorem CaAt.there {w : World} {b : Nat} {cur : Nat → En} {n : Nat} (h : CaAt w b cur n) (o : Nat) (ho : o < 28) : (w.cell? ⟨b, o, none⟩).isSome = true ∧ w.frozen? ⟨b, o, none⟩ = false := by
  refine ⟨?_, h.fz o⟩
  have := h.cells (o / 7) (o % 7) (by omega) (by omega)
  obtain ⟨v, hv⟩ := enCells_some (cur (o / 7)) (o % 7) (by omega)
  rw [hv, show o / 7 * 7 + o % 7 = o by omega] at this
  rw [this]; rfl
theorem CaAt.setRow {w : World} {b : Nat} {cur : Nat → En} {n : Nat} (h : CaAt w b cur n) {i : Nat} (hi : i < 4) (x : En) : CaAt (w.setCells b (i * 7) (enCells x)) b (setAt cur i x) n where
  cells := fun k j hk hj => by
    by_cases e : k = i
    · subst e
      obtain ⟨v, hv⟩ := enCells_some x j hj
      have := World.rangeAt_setCells_same w b (k * 7) (enCells x) (fun o ho => h.there _ (by have : (enCells x).length = 7 := rfl; omega)) j v hv
      rw [this, setAt_same, hv]
    · rw [World.cell?_setCells_out _ _ _ _ _ (fun _ _ => by have : (enCells x).length = 7 := rfl; simp only [this]; omega), h.cells k j hk hj, setAt_other _ _ _ _ e]
  cnt := by rw [World.cell?_setCells_out _ _ _ _ _ (fun _ _ => by have : (enCells x).length = 7 := rfl; simp only [this]; omega)]; exact h.cnt
  fz := fun o => by rw [World.frozen?_setCells]; exact h.fz o
  le := h.le
theorem CaAt.set7 {w : World} {b : Nat} {cur : Nat → En} {n : Nat} (h : CaAt w b cur n) {i : Nat} (hi : i < 4) (x : En) :
    CaAt (((((((w.setCell ⟨b, i * 7, none⟩ (.int .i64 x.root)).setCell ⟨b, i * 7 + 1, none⟩ (.int .i64 x.page)).setCell ⟨b, i * 7 + 2, none⟩ (.int .i64 x.dest)).setCell ⟨b, i * 7 + 3, none⟩ (.bool x.may)).setCell ⟨b, i * 7 + 4, none⟩ (.bool x.lf.there)).setCell ⟨b, i * 7 + 5, none⟩ (.bool x.lf.wr)).setCell ⟨b, i * 7 + 6, none⟩ (.int .i64 x.lf.fr)) b (setAt cur i x) n := h.setRow hi x
theorem Upd.set7 (w : World) (b i : Nat) (x : En) :
    Upd (fun k => k = b) w (((((((w.setCell ⟨b, i * 7, none⟩ (.int .i64 x.root)).setCell ⟨b, i * 7 + 1, none⟩ (.int .i64 x.page)).setCell ⟨b, i * 7 + 2, none⟩ (.int .i64 x.dest)).setCell ⟨b, i * 7 + 3, none⟩ (.bool x.may)).setCell ⟨b, i * 7 + 4, none⟩ (.bool x.lf.there)).setCell ⟨b, i * 7 + 5, none⟩ (.bool x.lf.wr)).setCell ⟨b, i * 7 + 6, none⟩ (.int .i64 x.lf.fr)) := Upd.row w b (i * 7) (enCells x)
/-- What is asked of a predicate that is handed to the library. -/
def PredOn (b : Nat) (w : World) (g : Nat) (lb : Array Value) (p : En → Bool) : Prop :=
  ∀ (W : World) (x : En), Upd (fun k => k = b) w W → Calls Tryz.prog g (#[.agg #[.int .i64 x.root, .int .i64 x.page, .int .i64 x.dest, .bool x.may, .bool x.lf.there, .bool x.lf.wr, .int .i64 x.lf.fr]] ++ lb) W fun e w' => e = .returned (.bool (p x)) ∧ Upd (fun _ => False) W w'
theorem PredOn.trans {b : Nat} {w w' : World} {g : Nat} {lb : Array Value} {p : En → Bool} (h : PredOn b w g lb p) (u : Upd (fun k => k = b) w w') : PredOn b w' g lb p :=
  fun W x hu => h W x (u.trans hu (fun _ _ e => e))

theorem kOf_any (w : World) (r p : Int) :
    Calls Tryz.prog 160 #[.int .i64 r, .int .i64 p] w fun e w' => e = .returned (.func (.func 169) #[] #[.pointer (some ⟨w.heap.size, 0, none⟩), .pointer (some ⟨w.heap.size + 1, 0, none⟩)]) ∧ w' = (w.alloc (.cells #[.int .i64 r] 3)).alloc (.cells #[.int .i64 p] 3) := by
  go_enter Tryz.func160, Tryz.ntmps160
  go_wp2_with fail
  go_ret
  exact ⟨rfl, rfl⟩
theorem kOf1_any (W : World) (B C : Nat) (r p : Int) (x : En) (h1 : W.cell? ⟨B, 0, none⟩ = some (.int .i64 r)) (h2 : W.cell? ⟨C, 0, none⟩ = some (.int .i64 p)) :
    Calls Tryz.prog 169 #[.agg #[.int .i64 x.root, .int .i64 x.page, .int .i64 x.dest, .bool x.may, .bool x.lf.there, .bool x.lf.wr, .int .i64 x.lf.fr], .pointer (some ⟨B, 0, none⟩), .pointer (some ⟨C, 0, none⟩)] W
      fun e w' => e = .returned (.bool (isAt r p x)) ∧ Upd (fun _ => False) W w' := by
  have u := (Upd.refl (fun _ => False) W).alloc (.cells #[.int .i64 x.root, .int .i64 x.page, .int .i64 x.dest, .bool x.may, .bool x.lf.there, .bool x.lf.wr, .int .i64 x.lf.fr] 94)
  have g1 := u.cell h1 (fun f => f)
  have g2 := u.cell h2 (fun f => f)
  have HU : Hid _ := u
  clear u h1 h2
  cases h0 : (x.root == r) with
  | false =>
    go_enter Tryz.func169, Tryz.ntmps169
    go_wp2_with fail
    go_ret
    exact ⟨by simp [isAt, h0], HU.out⟩
  | true =>
    go_enter Tryz.func169, Tryz.ntmps169
    go_wp2_with fail
    go_ret
    exact ⟨by simp [isAt, h0], HU.out⟩
theorem kForget1_any (W : World) (B : Nat) (r : Int) (x : En) (h1 : W.cell? ⟨B, 0, none⟩ = some (.int .i64 r)) :
    Calls Tryz.prog 122 #[.agg #[.int .i64 x.root, .int .i64 x.page, .int .i64 x.dest, .bool x.may, .bool x.lf.there, .bool x.lf.wr, .int .i64 x.lf.fr], .pointer (some ⟨B, 0, none⟩)] W
      fun e w' => e = .returned (.bool (x.root == r)) ∧ Upd (fun _ => False) W w' := by
  have u := (Upd.refl (fun _ => False) W).alloc (.cells #[.int .i64 x.root, .int .i64 x.page, .int .i64 x.dest, .bool x.may, .bool x.lf.there, .bool x.lf.wr, .int .i64 x.lf.fr] 94)
  have g1 := u.cell h1 (fun f => f)
  have HU : Hid _ := u
  clear u h1
  go_enter Tryz.func122, Tryz.ntmps122
  go_wp2_with fail
  go_ret
  exact ⟨rfl, HU.out⟩
theorem kLive_any (w : World) (b : Nat) (cur : Nat → En) (n : Nat) (h : CaAt w b cur n) :
    Calls Tryz.prog 155 #[.pointer (some ⟨b, 0, none⟩)] w fun e w' => e = .returned (.slice (some ⟨b, 0, none⟩) n 4) ∧ ∃ m, w' = w.drewN m := by
  have hc := h.cnt
  have hl := h.le
  have n0 : (0 : Int) ≤ (n : Int) := by omega
  have n4 : (n : Int) ≤ 4 := by omega
  go_enter Tryz.func155, Tryz.ntmps155
  go_wp2_with fail
  go_quiet (fail)
  go_wp2_with fail
  go_ret
  exact ⟨rfl, _, rfl⟩
end Go.Proofs.YtadpibcgjgcjhaaGreat
/- Package cache: what the library's IndexFunc answers over a cache's places. -/
namespace Go.Proofs.YtadpibcgjgcjhaaGreat
open Go.ChangeShapes Go.WideShapes Go.ChangeAt Go.RowKit
set_option maxRecDepth 100000
attribute [local go_sem ↓] Go.wp_at_zero Go.wp_at_succ

/-- The place of the first entry of which p holds. -/
def idxP (p : En → Bool) (es : List En) : Int := match es.findIdx? p with
  | some i => i
  | none => -1
theorem idxP_some {p : En → Bool} {es : List En} {k : Nat} (hk : k < es.length) (h : p (atE es k) = true) (hb : ∀ i, i < k → p (atE es i) = false) : idxP p es = k := by
  have : es.findIdx? p = some k := by
    rw [List.findIdx?_eq_some_iff_getElem]
    refine ⟨hk, ?_, fun j hj => ?_⟩
    · simpa [atE, List.getD_eq_getElem?_getD, List.getElem?_eq_getElem hk] using h
    · have := hb j hj
      simpa [atE, List.getD_eq_getElem?_getD, List.getElem?_eq_getElem (show j < es.length by omega)] using this
  unfold idxP
  rw [this]
theorem idxP_none {p : En → Bool} {es : List En} (hb : ∀ i, i < es.length → p (atE es i) = false) : idxP p es = -1 := by
  have : es.findIdx? p = none := by
    rw [List.findIdx?_eq_none_iff]
    intro x hx
    obtain ⟨i, hi, rfl⟩ := List.getElem_of_mem hx
    have := hb i hi
    simpa [atE, List.getD_eq_getElem?_getD, List.getElem?_eq_getElem hi] using this
  unfold idxP
  rw [this]
/-- It is a place, or there is none. -/
theorem idxP_cases (p : En → Bool) (es : List En) : (∃ k : Nat, k < es.length ∧ idxP p es = k ∧ p (atE es k) = true ∧ ∀ i, i < k → p (atE es i) = false) ∨ (idxP p es = -1 ∧ ∀ i, i < es.length → p (atE es i) = false) := by
  by_cases h : ∃ k, k < es.length ∧ p (atE es k) = true
  · obtain ⟨k, ⟨hk, hp⟩, hmin⟩ := exists_least h
    have hb : ∀ i, i < k → p (atE es i) = false := fun i hi => by
      cases hq : p (atE es i) with
      | false => rfl
      | true => have := hmin i ⟨by omega, hq⟩; omega
    exact Or.inl ⟨k, hk, idxP_some hk hp hb, hp, hb⟩
  · have hb : ∀ i, i < es.length → p (atE es i) = false := fun i hi => by
      cases hq : p (atE es i) with
      | false => rfl
      | true => exact absurd ⟨i, hi, hq⟩ h
    exact Or.inr ⟨idxP_none hb, hb⟩
/-- The entries of a cache. -/
def CaL (w : World) (b : Nat) (es : List En) : Prop := ∃ cur, CaAt w b cur es.length ∧ ∀ i, i < es.length → cur i = atE es i
theorem kIndex_any (w : World) (b : Nat) (cur : Nat → En) (es : List En) (g : Nat) (lb : Array Value) (p : En → Bool) (h : CaAt w b cur es.length) (hes : ∀ i, i < es.length → cur i = atE es i)
    (hp : PredOn b w g lb p) (eg : ∀ args w, (callFunc g args).run Tryz.prog w = .ok (.enter g args) w) :
    Calls Tryz.prog 166 #[.slice (some ⟨b, 0, none⟩) es.length 4, .func (.func g) #[] lb] w fun e w' => e = .returned (.int .i64 (idxP p es)) ∧ Upd (fun _ => False) w w' := by
  have HH : Hid _ := h
  have HE : Hid _ := hes
  have HP : Hid _ := hp
  have hle := h.le
  clear h hes hp
  go_enter Tryz.func166, Tryz.ntmps166
  go_wp2_with fail
  go_loopg [8] es.length (fun gg i wi => ∃ k : Nat, k + gg = es.length ∧ i = .int .i64 k ∧ Hid (∀ i, i < k → p (atE es i) = false) ∧ Hid (Upd (fun _ => False) w wi))
  case atStart => exact ⟨0, by omega, rfl, fun i hi => absurd hi (by omega), Upd.refl _ _⟩
  case round =>
    obtain ⟨k, hk, rfl, HB, HU⟩ := hrel
    have HK : Hid _ := hk
    by_cases hlt : k < es.length
    · clear hk
      have HA : Hid _ := HH.out.upd HU.out (fun f => f)
      have ek := HE.out k hlt
      have c0 : wr.cell? ⟨b, k * 7, none⟩ = some (.int .i64 (atE es k).root) := by have := HA.out.cells k 0 (by omega) (by omega); rw [ek] at this; exact this
      have c1 : wr.cell? ⟨b, k * 7 + 1, none⟩ = some (.int .i64 (atE es k).page) := by have := HA.out.cells k 1 (by omega) (by omega); rw [ek] at this; exact this
      have c2 : wr.cell? ⟨b, k * 7 + 2, none⟩ = some (.int .i64 (atE es k).dest) := by have := HA.out.cells k 2 (by omega) (by omega); rw [ek] at this; exact this
      have c3 : wr.cell? ⟨b, k * 7 + 3, none⟩ = some (.bool (atE es k).may) := by have := HA.out.cells k 3 (by omega) (by omega); rw [ek] at this; exact this
      have c4 : wr.cell? ⟨b, k * 7 + 4, none⟩ = some (.bool (atE es k).lf.there) := by have := HA.out.cells k 4 (by omega) (by omega); rw [ek] at this; exact this
      have c5 : wr.cell? ⟨b, k * 7 + 5, none⟩ = some (.bool (atE es k).lf.wr) := by have := HA.out.cells k 5 (by omega) (by omega); rw [ek] at this; exact this
      have c6 : wr.cell? ⟨b, k * 7 + 6, none⟩ = some (.int .i64 (atE es k).lf.fr) := by have := HA.out.cells k 6 (by omega) (by omega); rw [ek] at this; exact this
      clear ek HA HE
      have k0 : (0 : Int) ≤ (k : Int) := by omega
      have k1 : (k : Int) < es.length := by omega
      generalize hx : atE es k = x at c0 c1 c2 c3 c4 c5 c6
      have HX : Hid _ := hx
      clear hx
      have hcall := HP.out wr x (HU.out.trans (T := fun _ => False) (Upd.refl _ _) (fun _ _ f => f.elim) |> fun u => ⟨u.os, u.tape, u.output, u.size, fun i hi _ => u.block i hi (fun f => f)⟩)
      clear HP
      cases hq : p x with
      | true =>
        rw [hq] at hcall
        go_wp2_with (go_at_fn g; refine hcall.mono ?_; rintro e w' ⟨rfl, hb'⟩)
        go_ret
        exact ⟨by rw [idxP_some hlt (by rw [HX.out]; exact hq) HB.out]; rfl, HU.out.trans hb' (fun _ _ f => f)⟩
      | false =>
        rw [hq] at hcall
        go_wp2_with (go_at_fn g; refine hcall.mono ?_; rintro e w' ⟨rfl, hb'⟩)
        go_roundg (es.length - (k + 1))
        case rel =>
          refine ⟨k + 1, by omega, by go_num, (show Hid _ from fun i hi => ?_), HU.out.trans hb' (fun _ _ f => f)⟩
          by_cases e : i = k
          · subst e; rw [HX.out]; exact hq
          · exact HB.out i (by omega)
        case measure => have := HK.out; omega
    · have HF : Hid _ := idxP_none (p := p) (es := es) (fun i hi => HB.out i (by have := HK.out; omega))
      clear hk HP HE HH
      go_wp2_with fail
      go_ret
      exact ⟨by rw [HF.out]; rfl, HU.out⟩
end Go.Proofs.YtadpibcgjgcjhaaGreat
