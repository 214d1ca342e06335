/- Entries, plainly: no two have the same root and page; the program's ways and the document's are one. -/
import Derived.Test.YtadpibcgjgcjhabGreatDoorPart06
import Derived.Test.YtadpibcgjgcjhabGreatDoorPart05
import Derived.Test.YtadpibcgjgcjhabGreatDoorPart03
import Derived.Test.YtadpibcgjgcjhabGreatDoorPart04
namespace Go.Proofs.YtadpibcgjgcjhabGreatDoor

def KeyNe (a b : En) : Prop := ¬ (a.root = b.root ∧ a.page = b.page)
def Dist (es : List En) : Prop := es.Pairwise KeyNe
theorem isAt_iff (r p : Int) (e : En) : isAt r p e = true ↔ e.root = r ∧ e.page = p := by simp [isAt]
theorem isAt_false (r p : Int) (e : En) : isAt r p e = false ↔ ¬ (e.root = r ∧ e.page = p) := by
  rw [← isAt_iff, Bool.not_eq_true]
theorem atE_mem {es : List En} {i : Nat} (h : i < es.length) : atE es i ∈ es := by
  simp [atE, List.getD_eq_getElem?_getD, h]
theorem atE_get {es : List En} {i : Nat} (h : i < es.length) : atE es i = es[i] := by
  simp [atE, List.getD_eq_getElem?_getD, h]
theorem mem_flt {p : En → Bool} {es : List En} {x : En} : x ∈ flt p es ↔ x ∈ es ∧ p x = false := by
  simp [flt]
theorem dist_nil : Dist [] := List.Pairwise.nil
theorem dist_flt {es : List En} (h : Dist es) (p : En → Bool) : Dist (flt p es) := List.Pairwise.filter _ h
theorem cut1_sub (l : List En) : List.Sublist (cut1 l) l := by
  unfold cut1
  split
  · exact List.filter_sublist
  · exact List.Sublist.refl _
theorem dist_putK {es : List En} (h : Dist es) (x : En) : Dist (putK es x) := by
  unfold Dist putK
  rw [List.pairwise_append]
  refine ⟨List.Pairwise.sublist (cut1_sub _) (dist_flt h _), List.pairwise_singleton _ _, fun a ha b hb => ?_⟩
  rw [List.mem_singleton] at hb
  subst hb
  have := (mem_flt.1 ((cut1_sub _).subset ha)).2
  exact (isAt_false _ _ _).1 this
theorem fndI_idx (es : List En) (r p : Int) : fndI es r p = idxP (isAt r p) es := rfl
/-- Of the first k, by a test of the place that is a test of the entry. -/
theorem keepTo_flt (P : Nat → Bool) (p : En → Bool) (es : List En) (h : ∀ i, i < es.length → P i = !p (atE es i)) : ∀ k, k ≤ es.length → keepTo P es k = fltTo p es k
  | 0, _ => by simp [keepTo, fltTo]
  | k + 1, hk => by
    rw [fltTo_succ p es k (by omega)]
    unfold keepTo
    rw [keepTo_flt P p es h k (by omega), h k (by omega)]
    cases p (atE es k) <;> simp
theorem keep_drop {es : List En} (h : Dist es) (r p : Int) : keepTo (fun i => (i : Int) != fndI es r p) es es.length = flt (isAt r p) es := by
  rw [← fltTo_all, keepTo_flt _ (isAt r p) es (fun i hi => ?_) es.length (Nat.le_refl _)]
  rw [fndI_idx]
  rcases idxP_cases (isAt r p) es with ⟨k, hk, ek, hp, hb⟩ | ⟨ek, hb⟩
  · rw [ek]
    by_cases e : i = k
    · subst e; rw [hp]; simp
    · have hq : isAt r p (atE es i) = false := by
        refine (isAt_false _ _ _).2 (fun hh => ?_)
        have hpk := (isAt_iff _ _ _).1 hp
        rcases Nat.lt_or_ge i k with hlt | hge
        · have := List.pairwise_iff_getElem.1 h i k hi hk hlt
          rw [← atE_get hi, ← atE_get hk] at this
          exact this ⟨hh.1.trans hpk.1.symm, hh.2.trans hpk.2.symm⟩
        · have := List.pairwise_iff_getElem.1 h k i hk hi (by omega)
          rw [← atE_get hi, ← atE_get hk] at this
          exact this ⟨hpk.1.trans hh.1.symm, hpk.2.trans hh.2.symm⟩
      rw [hq]
      simp; omega
  · rw [ek, hb i hi]
    simp
theorem keep_forget (es : List En) (r : Int) : keepTo (fun i => (atE es i).root != r) es es.length = flt (fun x => x.root == r) es := by
  rw [← fltTo_all, keepTo_flt (fun i => (atE es i).root != r) (fun x => x.root == r) es (fun i hi => rfl) es.length (Nat.le_refl _)]
theorem cut1_tail {l : List En} (h : Dist l) (h4 : l.length = 4) (x : En) : keepTo (fun i => (i : Int) != 0) (l ++ [x]) (l ++ [x]).length = cut1 l ++ [x] := by
  rcases l with _ | ⟨a, l⟩
  · simp at h4
  · have h2 : cut1 (a :: l) = l := by
      unfold cut1
      rw [if_pos h4]
      have ha : atE (a :: l) 0 = a := rfl
      rw [ha]
      unfold flt
      rw [List.filter_cons_of_neg (by rw [(isAt_iff a.root a.page a).2 ⟨rfl, rfl⟩]; simp), List.filter_eq_self]
      intro y hy
      have := (List.pairwise_cons.1 h).1 y hy
      rw [(isAt_false _ _ _).2 (fun e => this ⟨e.1.symm, e.2.symm⟩)]; rfl
    rw [h2]
    have aux : ∀ (m : List En) (k : Nat), k ≤ m.length → keepTo (fun i => (i : Int) != 0) (a :: m) (k + 1) = m.take k := by
      intro m k
      induction k with
      | zero => intro _; simp [keepTo]
      | succ k ih =>
        intro hk
        unfold keepTo
        rw [ih (by omega), List.take_add_one, List.getElem?_eq_getElem (by omega)]
        have : (((k + 1 : Nat) : Int) != 0) = true := by simp; omega
        rw [this]
        have e2 : atE (a :: m) (k + 1) = m[k] := by simp [atE, List.getD_eq_getElem?_getD, List.getElem?_eq_getElem (show k < m.length by omega)]
        simp [e2]
    have := aux (l ++ [x]) (l ++ [x]).length (Nat.le_refl _)
    rw [List.take_length] at this
    exact this
theorem put_same {es : List En} (h : Dist es) (h4 : es.length ≤ 4) (x : En) : putC es x = putK es x := by
  unfold putC putK
  simp only
  rw [keep_drop h]
  have hd := dist_flt h (isAt x.root x.page)
  have hl := flt_length (isAt x.root x.page) es
  generalize flt (isAt x.root x.page) es = l at *
  by_cases e : l.length = 4
  · rw [if_pos (by simp; omega)]
    exact cut1_tail hd e x
  · rw [if_neg (by simp; omega)]
    unfold cut1
    rw [if_neg e]
theorem pntTo_map (d : Int) (l : Lf) (es : List En) : ∀ k, k ≤ es.length → pntTo d l es k = (es.take k).map (pnt d l)
  | 0, _ => by simp [pntTo]
  | k + 1, h => by
    unfold pntTo
    rw [pntTo_map d l es k (by omega), take_succ_atE es k (by omega)]
    simp
end Go.Proofs.YtadpibcgjgcjhabGreatDoor
/- Entries as they are told, plainly: each leaf its page's; what turns a page turns those that lead to it. -/
namespace Go.Proofs.YtadpibcgjgcjhabGreatDoor

def shows (m : Mp) (es : List En) : List En := es.map (gShow m)
theorem shows_length (m : Mp) (es : List En) : (shows m es).length = es.length := by simp [shows]
theorem shows_at (m : Mp) (es : List En) {k : Nat} (h : k < es.length) : atE (shows m es) k = gShow m (atE es k) := by
  simp [atE, shows, List.getD_eq_getElem?_getD, List.getElem?_map, List.getElem?_eq_getElem h]
theorem shows_idx (m : Mp) (es : List En) (r p : Int) : idxP (isAt r p) (shows m es) = idxP (isAt r p) es := by
  unfold idxP shows
  rw [List.findIdx?_map]
  rfl
theorem shows_flt (m : Mp) (es : List En) (q : En → Bool) (hq : ∀ e, q (gShow m e) = q e) : flt q (shows m es) = shows m (flt q es) := by
  unfold flt shows
  rw [List.filter_map]
  congr 1
  apply List.filter_congr
  intro x _
  simp [Function.comp, hq]
theorem shows_cut (m : Mp) (es : List En) : cut1 (shows m es) = shows m (cut1 es) := by
  unfold cut1
  rw [shows_length]
  split
  · next h =>
    rw [shows_at m es (by omega)]
    exact shows_flt m es _ (fun e => rfl)
  · rfl
theorem shows_put (m : Mp) (es : List En) (x : En) : putK (shows m es) (gShow m x) = shows m (putK es x) := by
  unfold putK
  have h1 : flt (isAt (gShow m x).root (gShow m x).page) (shows m es) = shows m (flt (isAt x.root x.page) es) := shows_flt m es _ (fun e => rfl)
  rw [h1, shows_cut]
  simp [shows]
/-- A page turns: all that lead to it are pointed to where it is. -/
theorem shows_point (m m' : Mp) (es : List En) (n : Nat) (hm : ∀ k, k ≠ n → m'.lf k = m.lf k) (hen : ∀ x ∈ es, 0 ≤ x.dest) : pntTo (n : Int) (m'.lf n) (shows m es) (shows m es).length = shows m' es := by
  rw [pntTo_map _ _ _ _ (Nat.le_refl _), List.take_length]
  unfold shows
  rw [List.map_map]
  apply List.map_congr_left
  intro x hx
  have h0 := hen x hx
  unfold Function.comp pnt gShow
  by_cases e : x.dest = (n : Int)
  · simp [e]
  · have : x.dest.toNat ≠ n := by omega
    simp [e, hm _ this]
/-- What Touch turns: one page's leaf. -/
theorem touch_lf (s : Pl) (m : Mp) (n : Int) (wt : Bool) : ∀ k, k ≠ n.toNat → (touchR s m n wt).2.2.lf k = m.lf k := by
  intro k hk
  unfold touchR
  repeat' split
  all_goals first | rfl | (simp [setAt, hk])
theorem touch_no (s : Pl) (m : Mp) (n : Int) (wt : Bool) (he : (touchR s m n wt).1.2.2 ≠ 0) : (touchR s m n wt).2 = (s, m) := by
  revert he
  unfold touchR
  repeat' split
  all_goals first | (intro _; rfl) | (intro h; exact absurd rfl h)
theorem turnM_lf (m : Mp) (n : Nat) (z : Int) : ∀ k, k ≠ n → (turnM m n z).lf k = m.lf k := by
  intro k hk
  unfold turnM
  split
  · simp [setAt, hk]
  · rfl
theorem plug_lf (s : Pl) (m : Mp) (n : Int) : ∀ k, k ≠ n.toNat → (plugR s m n).2.2.lf k = m.lf k := by
  intro k hk
  unfold plugR
  repeat' split
  all_goals first | rfl | exact turnM_lf m _ _ k hk
theorem unplug_lf (s : Pl) (m : Mp) (n : Int) : ∀ k, k ≠ n.toNat → (unplugR s m n).2.2.lf k = m.lf k := by
  intro k hk
  unfold unplugR
  repeat' split
  all_goals first | rfl | exact turnM_lf m _ _ k hk
theorem give_lf (s : Pl) (m : Mp) (n : Int) (b : Bool) : ∀ k, k ≠ n.toNat → (giveR s m n b).2.2.lf k = m.lf k := by
  intro k hk
  unfold giveR
  repeat' split
  all_goals first | rfl | exact turnM_lf m _ _ k hk
theorem seal_lf (m : Mp) (n : Int) : ∀ k, k ≠ n.toNat → (sealR m n).2.lf k = m.lf k := by
  intro k hk
  unfold sealR
  repeat' split
  all_goals first | rfl | (simp [setAt, hk])
theorem join_lf (s : Pl) (m : Mp) (n f : Int) : ∀ k, k ≠ n.toNat → (joinR s m n f).2.2.lf k = m.lf k := by
  intro k hk
  unfold joinR
  repeat' split
  all_goals first | rfl | (simp [setAt, hk])
theorem step_dist {s : Pl} {g : Gs} (h : Dist g.c) (hl : g.c.length ≤ 4) (x : En) (found wt : Bool) : Dist (gStep s g x found wt).2.2.c := by
  unfold gStep
  split
  · exact h
  · split
    · exact h
    · cases found with
      | true => exact h
      | false =>
        show Dist (putC g.c x)
        rw [put_same h hl]
        exact dist_putK h x
theorem at_dist {s : Pl} {g : Gs} (h : Dist g.c) (hl : g.c.length ≤ 4) (addr : Int) (wt : Bool) : Dist (gAt s g addr wt).2.2.c := by
  unfold gAt
  repeat' split
  · exact h
  · exact h
  · exact step_dist h hl _ _ _
  · unfold gWalk
    repeat' split
    · exact h
    · exact h
    · exact step_dist (g := { (gTouch s g g.root false).2.2 with walks := g.walks + 1 }) h hl _ _ _
theorem store_dist {s : Pl} {g : Gs} (h : Dist g.c) (hl : g.c.length ≤ 4) (addr v : Int) : Dist (gStore s g addr v).2.2.c := by
  unfold gStore
  split <;> exact at_dist h hl _ _
theorem forget_dist {g : Gs} (h : Dist g.c) (addr : Int) : Dist (gForget g addr).2.c := by
  unfold gForget
  split
  · exact h
  · show Dist (keepTo _ _ _)
    rw [keep_drop h]
    exact dist_flt h _
theorem forgetAll_dist {g : Gs} (h : Dist g.c) (n : Int) : Dist (gForgetAll g n).2.c := by
  unfold gForgetAll
  split
  · show Dist (keepTo _ _ _)
    rw [keep_forget]
    exact dist_flt h _
  · exact h
theorem BytOk.set {s : Pl} (h : BytOk s) (f i v : Int) (h0 : 0 ≤ v) (h1 : v ≤ 255) : BytOk (s.set f i v).2 := by
  unfold Pl.set
  repeat' split
  all_goals first | exact h | skip
  intro a c
  show 0 ≤ setAt s.byt f.toNat (setAt (s.byt f.toNat) i.toNat v) a c ∧ setAt s.byt f.toNat (setAt (s.byt f.toNat) i.toNat v) a c ≤ 255
  by_cases ea : a = f.toNat
  · subst ea
    rw [setAt_same]
    by_cases ec : c = i.toNat
    · subst ec; rw [setAt_same]; exact ⟨h0, h1⟩
    · rw [setAt_other _ _ _ _ ec]; exact h _ _
  · rw [setAt_other _ _ _ _ ea]; exact h _ _
theorem GInv.store {s : Pl} {g : Gs} {b : Mp} {W : Int} (h : GInv s g b W) (addr v : Int) (h0 : 0 ≤ v) (h1 : v ≤ 255) : GInv (gStore s g addr v).2.1 (gStore s g addr v).2.2 b (W + 1) := by
  unfold gStore
  split
  · exact h.at _ _
  · have ha := h.at addr true
    exact { ha with inv := ha.inv.set _ _ _, byt := ha.byt.set _ _ _ h0 h1 }
theorem GInv.root {s : Pl} {g : Gs} {b : Mp} {W : Int} (h : GInv s g b W) (n : Int) : GInv s (gRoot g n).2 b W := by
  unfold gRoot
  split
  · exact h
  · exact { h with r0 := by show -1 ≤ n; omega, r1 := by show n ≤ 15; omega }
theorem GInv.keep {s : Pl} {g : Gs} {b : Mp} {W : Int} (h : GInv s g b W) (P : Nat → Bool) : GInv s { g with c := keepTo P g.c g.c.length } b W :=
  { h with len := by have := keepTo_length P g.c g.c.length; have := h.len; show (keepTo P g.c g.c.length).length ≤ 4; omega, en := fun x hx => h.en x (keepTo_mem P g.c _ (Nat.le_refl _) x hx) }
theorem GInv.forget {s : Pl} {g : Gs} {b : Mp} {W : Int} (h : GInv s g b W) (addr : Int) : GInv s (gForget g addr).2 b W := by
  unfold gForget
  split
  · exact h
  · exact h.keep _
theorem GInv.forgetAll {s : Pl} {g : Gs} {b : Mp} {W : Int} (h : GInv s g b W) (n : Int) : GInv s (gForgetAll g n).2 b W := by
  unfold gForgetAll
  split
  · exact h.keep _
  · exact h
end Go.Proofs.YtadpibcgjgcjhabGreatDoor
/- Package leaves: how a map lies in memory, and what its inner functions answer and turn. -/
namespace Go.Proofs.YtadpibcgjgcjhabGreatDoor
open Go.ChangeShapes Go.WideShapes Go.ChangeAt Go.RowKit
set_option maxRecDepth 100000

/-- A map of package leaves in memory: its block bl, its pool's header bp. -/
structure LvAt (w : World) (bl bp : Nat) (m : Mp) : Prop where
  pool : w.cell? ⟨bl, 0, none⟩ = some (.pointer (some ⟨bp, 0, none⟩))
  st : ∀ n, n < 16 → w.cell? ⟨bl, 1 + n * 4, none⟩ = some (.int .i64 (m.st n))
  th : ∀ n, n < 16 → w.cell? ⟨bl, 1 + n * 4 + 1, none⟩ = some (.bool (m.lf n).there)
  wr : ∀ n, n < 16 → w.cell? ⟨bl, 1 + n * 4 + 1 + 1, none⟩ = some (.bool (m.lf n).wr)
  fr : ∀ n, n < 16 → w.cell? ⟨bl, 1 + n * 4 + 1 + 2, none⟩ = some (.int .i64 (m.lf n).fr)
  fz : ∀ o, w.frozen? ⟨bl, o, none⟩ = false
theorem LvAt.lt {w : World} {bl bp : Nat} {m : Mp} (h : LvAt w bl bp m) : bl < w.heap.size := World.block_lt_of_cell? w _ h.pool
theorem LvAt.upd {S : Nat → Prop} {w w' : World} {bl bp : Nat} {m : Mp} (h : LvAt w bl bp m) (u : Upd S w w') (hx : ¬ S bl) : LvAt w' bl bp m where
  pool := u.cell h.pool hx
  st := fun n hn => u.cell (h.st n hn) hx
  th := fun n hn => u.cell (h.th n hn) hx
  wr := fun n hn => u.cell (h.wr n hn) hx
  fr := fun n hn => u.cell (h.fr n hn) hx
  fz := fun o => by rw [World.frozen?_of_block (w := w) (u.block bl h.lt hx)]; exact h.fz o
theorem LvAt.drew {w : World} {bl bp : Nat} {m : Mp} (h : LvAt w bl bp m) : LvAt w.drew bl bp m := ⟨h.pool, h.st, h.th, h.wr, h.fr, h.fz⟩
theorem LvAt.drewN {w : World} {bl bp : Nat} {m : Mp} (h : LvAt w bl bp m) (n : Nat) : LvAt (w.drewN n) bl bp m := ⟨h.pool, h.st, h.th, h.wr, h.fr, h.fz⟩

theorem LvAt.setSt {w : World} {bl bp : Nat} {m : Mp} (h : LvAt w bl bp m) {n : Nat} (hn : n < 16) (v : Int) : LvAt (w.setCell ⟨bl, 1 + n * 4, none⟩ (.int .i64 v)) bl bp { m with st := setAt m.st n v } where
  pool := by rw [World.cell?_setCell_other _ _ _ _ (addr_ne (Or.inr (by omega)))]; exact h.pool
  st := fun k hk => by
    by_cases e : k = n
    · subst e; rw [World.cell?_setCell_same _ _ _ (h.st k hk)]; simp [setAt]
    · rw [World.cell?_setCell_other _ _ _ _ (addr_ne (Or.inr (by omega))), h.st k hk]; simp [setAt, e]
  th := fun k hk => by rw [World.cell?_setCell_other _ _ _ _ (addr_ne (Or.inr (by omega)))]; exact h.th k hk
  wr := fun k hk => by rw [World.cell?_setCell_other _ _ _ _ (addr_ne (Or.inr (by omega)))]; exact h.wr k hk
  fr := fun k hk => by rw [World.cell?_setCell_other _ _ _ _ (addr_ne (Or.inr (by omega)))]; exact h.fr k hk
  fz := fun o => by rw [World.frozen?_setCell]; exact h.fz o
theorem LvAt.setWr {w : World} {bl bp : Nat} {m : Mp} (h : LvAt w bl bp m) {n : Nat} (hn : n < 16) (v : Bool) : LvAt (w.setCell ⟨bl, 1 + n * 4 + 1 + 1, none⟩ (.bool v)) bl bp { m with lf := setAt m.lf n { m.lf n with wr := v } } where
  pool := by rw [World.cell?_setCell_other _ _ _ _ (addr_ne (Or.inr (by omega)))]; exact h.pool
  st := fun k hk => by rw [World.cell?_setCell_other _ _ _ _ (addr_ne (Or.inr (by omega)))]; exact h.st k hk
  th := fun k hk => by
    rw [World.cell?_setCell_other _ _ _ _ (addr_ne (Or.inr (by omega))), h.th k hk]
    by_cases e : k = n
    · subst e; simp [setAt]
    · simp [setAt, e]
  wr := fun k hk => by
    by_cases e : k = n
    · subst e; rw [World.cell?_setCell_same _ _ _ (h.wr k hk)]; simp [setAt]
    · rw [World.cell?_setCell_other _ _ _ _ (addr_ne (Or.inr (by omega))), h.wr k hk]; simp [setAt, e]
  fr := fun k hk => by
    rw [World.cell?_setCell_other _ _ _ _ (addr_ne (Or.inr (by omega))), h.fr k hk]
    by_cases e : k = n
    · subst e; simp [setAt]
    · simp [setAt, e]
  fz := fun o => by rw [World.frozen?_setCell]; exact h.fz o
theorem LvAt.setLf {w : World} {bl bp : Nat} {m : Mp} (h : LvAt w bl bp m) {n : Nat} (hn : n < 16) (l : Lf) :
    LvAt (((w.setCell ⟨bl, 1 + n * 4 + 1, none⟩ (.bool l.there)).setCell ⟨bl, 1 + n * 4 + 1 + 1, none⟩ (.bool l.wr)).setCell ⟨bl, 1 + n * 4 + 1 + 2, none⟩ (.int .i64 l.fr)) bl bp { m with lf := setAt m.lf n l } := by
  have hne : ∀ (o : Nat), o ≠ 1 + n * 4 + 1 → o ≠ 1 + n * 4 + 1 + 1 → o ≠ 1 + n * 4 + 1 + 2 →
      (((w.setCell ⟨bl, 1 + n * 4 + 1, none⟩ (.bool l.there)).setCell ⟨bl, 1 + n * 4 + 1 + 1, none⟩ (.bool l.wr)).setCell ⟨bl, 1 + n * 4 + 1 + 2, none⟩ (.int .i64 l.fr)).cell? ⟨bl, o, none⟩ = w.cell? ⟨bl, o, none⟩ := by
    intro o h1 h2 h3
    rw [World.cell?_setCell_other _ _ _ _ (addr_ne (Or.inr (Ne.symm h3))), World.cell?_setCell_other _ _ _ _ (addr_ne (Or.inr (Ne.symm h2))), World.cell?_setCell_other _ _ _ _ (addr_ne (Or.inr (Ne.symm h1)))]
  have e1 : (w.setCell ⟨bl, 1 + n * 4 + 1, none⟩ (.bool l.there)).cell? ⟨bl, 1 + n * 4 + 1 + 1, none⟩ = some (.bool (m.lf n).wr) := by
    rw [World.cell?_setCell_other _ _ _ _ (addr_ne (Or.inr (by omega)))]; exact h.wr n hn
  have e2 : ((w.setCell ⟨bl, 1 + n * 4 + 1, none⟩ (.bool l.there)).setCell ⟨bl, 1 + n * 4 + 1 + 1, none⟩ (.bool l.wr)).cell? ⟨bl, 1 + n * 4 + 1 + 2, none⟩ = some (.int .i64 (m.lf n).fr) := by
    rw [World.cell?_setCell_other _ _ _ _ (addr_ne (Or.inr (by omega))), World.cell?_setCell_other _ _ _ _ (addr_ne (Or.inr (by omega)))]; exact h.fr n hn
  refine ⟨by rw [hne 0 (by omega) (by omega) (by omega)]; exact h.pool, fun k hk => by rw [hne _ (by omega) (by omega) (by omega)]; exact h.st k hk, ?_, ?_, ?_, fun o => by simp only [World.frozen?_setCell]; exact h.fz o⟩
  · intro k hk
    by_cases e : k = n
    · subst e
      rw [World.cell?_setCell_other _ _ _ _ (addr_ne (Or.inr (by omega))), World.cell?_setCell_other _ _ _ _ (addr_ne (Or.inr (by omega))), World.cell?_setCell_same _ _ _ (h.th k hk)]
      simp [setAt]
    · rw [hne _ (by omega) (by omega) (by omega), h.th k hk]; simp [setAt, e]
  · intro k hk
    by_cases e : k = n
    · subst e
      rw [World.cell?_setCell_other _ _ _ _ (addr_ne (Or.inr (by omega))), World.cell?_setCell_same _ _ _ e1]
      simp [setAt]
    · rw [hne _ (by omega) (by omega) (by omega), h.wr k hk]; simp [setAt, e]
  · intro k hk
    by_cases e : k = n
    · subst e
      rw [World.cell?_setCell_same _ _ _ e2]
      simp [setAt]
    · rw [hne _ (by omega) (by omega) (by omega), h.fr k hk]; simp [setAt, e]

attribute [local go_sem ↓] Go.wp_at_zero Go.wp_at_succ

theorem page_yes (w : World) (bl k : Nat) (hk : k < 16) :
    Calls Tryz.prog 147 #[.pointer (some ⟨bl, 0, none⟩), .int .i64 k] w fun e w' => e = .returned (.tuple #[.pointer (some ⟨bl, 1 + k * 4, none⟩), .nilIface]) ∧ w' = w := by
  have k0 : (0 : Int) ≤ (k : Int) := by omega
  have k1 : (k : Int) < 16 := by omega
  have d0 : decide ((k : Int) < 0) = false := by simp
  have d1 : decide ((16 : Int) ≤ (k : Int)) = false := by simp; omega
  go_enter Tryz.func147, Tryz.ntmps147
  go_wp2
  go_ret2
  exact ⟨rfl, rfl⟩
theorem page_no (w : World) (bl : Nat) (n : Int) (ho : onB n = false) :
    Calls Tryz.prog 147 #[.pointer (some ⟨bl, 0, none⟩), .int .i64 n] w fun e w' => e = .returned (.tuple #[.pointer none, .iface 37 (.int .i64 1)]) ∧ w' = w := by
  rcases (onB_no n).1 ho with h0 | h0
  · have d0 : decide (n < 0) = true := by simp; omega
    clear ho
    go_enter Tryz.func147, Tryz.ntmps147
    go_wp2
    go_ret2
    exact ⟨rfl, rfl⟩
  · have d0 : decide (n < 0) = false := by simp; omega
    have d1 : decide (16 ≤ n) = true := by simp; omega
    clear ho
    go_enter Tryz.func147, Tryz.ntmps147
    go_wp2
    go_ret2
    exact ⟨rfl, rfl⟩

/-- The page is in its frame no more: the pool. -/
def leaveP (s : Pl) (m : Mp) (k : Nat) : Pl := if (m.lf k).there then (s.share (m.lf k).fr (-1)).2 else s
def leaveM (m : Mp) (k : Nat) : Mp := { m with lf := setAt m.lf k lf0 }
theorem leave_any (w : World) (bl bp bf k : Nat) (m : Mp) (s : Pl) (h : LvAt w bl bp m) (hp : PoolAt w bp bf s) (h1 : bl ≠ bp) (h2 : bl ≠ bf) (hk : k < 16) (hlt : bf < w.heap.size) (hm : ∀ k, k < s.n → s.refs k ≤ 1000000) :
    Calls Tryz.prog 149 #[.pointer (some ⟨bl, 0, none⟩), .pointer (some ⟨bl, 1 + k * 4, none⟩)] w fun e w' => e = .returned (.tuple #[]) ∧ PoolAt w' bp bf (leaveP s m k) ∧ LvAt w' bl bp (leaveM m k) ∧ Upd (fun k => k = bf ∨ k = bl) w w' := by
  have c0 := h.pool
  have c1 := h.th k hk
  have c2 := h.fr k hk
  have H1 : Hid _ := h1
  have H2 : Hid _ := h2
  cases ht : (m.lf k).there with
  | false =>
    have c3 := h.wr k hk
    rw [ht] at c1
    simp only [leaveP, ht, Bool.false_eq_true, if_false]
    have d4 := h.fz (1 + k * 4 + 1)
    have d5 := h.fz (1 + k * 4 + 1 + 1)
    have d6 := h.fz (1 + k * 4 + 1 + 2)
    have h3 := h.setLf hk lf0
    have hu3 := Upd.three w bl (1 + k * 4 + 1) (1 + k * 4 + 1 + 1) (1 + k * 4 + 1 + 2) (.bool lf0.there) (.bool lf0.wr) (.int .i64 lf0.fr)
    have hp3 := hp.upd hu3 (Ne.symm h1) (Ne.symm h2) hlt
    have H3 : Hid _ := h3
    have HU3 : Hid _ := hu3
    have HP3 : Hid _ := hp3
    clear ht h3 hu3 hp3 h1 h2
    go_enter Tryz.func149, Tryz.ntmps149
    go_wp2_with fail
    go_end0
    exact ⟨rfl, HP3.out, H3.out, HU3.out.wide (fun _ e => Or.inr e)⟩
  | true =>
    rw [ht] at c1
    simp only [leaveP, ht, if_true]
    clear ht h1 h2
    go_enter Tryz.func149, Tryz.ntmps149
    go_wp2_with fail
    go_region_held3 (fun w' => w'.cell? ⟨bl, 0, none⟩ = some (.pointer (some ⟨bp, 0, none⟩)) ∧ w'.cell? ⟨bl, 1 + k * 4 + 1 + 2, none⟩ = some (.int .i64 (m.lf k).fr)) (first | exact ⟨c0, c2⟩ | exact h1c)
      ((go_at_call 178; refine (drop_any _ _ _ _ s (by first | exact hp | exact hp.drew) hm).mono ?_; rintro e w1 ⟨rfl, hp1, hu1⟩; have h1c : w1.cell? ⟨bl, 0, none⟩ = some (.pointer (some ⟨bp, 0, none⟩)) ∧ w1.cell? ⟨bl, 1 + k * 4 + 1 + 2, none⟩ = some (.int .i64 (m.lf k).fr) := ⟨hu1.cell (by exact c0) H2.out, hu1.cell (by exact c2) H2.out⟩))
    have hu1' : Upd (fun k => k = bf) w w1 := (Upd.refl (fun k => k = bf) w).drew.trans hu1 (fun _ _ e => e)
    have hl1 := h.upd hu1' H2.out
    have d1 := hl1.th k hk
    have d2 := hl1.wr k hk
    have d3 := hl1.fr k hk
    have d4 := hl1.fz (1 + k * 4 + 1)
    have d5 := hl1.fz (1 + k * 4 + 1 + 1)
    have d6 := hl1.fz (1 + k * 4 + 1 + 2)
    have h3 := hl1.setLf hk lf0
    have hu3 := Upd.three w1 bl (1 + k * 4 + 1) (1 + k * 4 + 1 + 1) (1 + k * 4 + 1 + 2) (.bool lf0.there) (.bool lf0.wr) (.int .i64 lf0.fr)
    have hp3 := hp1.upd hu3 (Ne.symm H1.out) (Ne.symm H2.out) (Nat.lt_of_lt_of_le hlt hu1'.size)
    have hu4 := (hu1'.wide (T := fun k => k = bf ∨ k = bl) (fun _ e => Or.inl e)).trans hu3 (fun _ _ e => Or.inr e)
    have H3 : Hid _ := h3
    have HU4 : Hid _ := hu4
    have HP3 : Hid _ := hp3
    clear h3 hu3 hp3 hu4 hl1 hu1 hu1' hp1 h1c c0 c1 c2
    go_wp2_with fail
    go_end0
    exact ⟨rfl, HP3.out, H3.out, HU4.out⟩
theorem alone_any (w : World) (bl bp bf : Nat) (f : Int) (m : Mp) (s : Pl) (h : LvAt w bl bp m) (hp : PoolAt w bp bf s) (f0 : 0 ≤ f) (f1 : f < s.n) :
    Calls Tryz.prog 191 #[.pointer (some ⟨bl, 0, none⟩), .int .i64 f] w fun e w' => e = .returned (.bool (s.refs f.toNat == 1)) ∧ Upd (fun _ => False) w w' := by
  obtain ⟨k, rfl⟩ := Int.eq_ofNat_of_zero_le f0
  rw [Int.toNat_natCast]
  have c0 := h.pool
  have hb : (classOf (s.refs k) == 1) = (s.refs k == 1) := by
    unfold classOf
    split
    · rename_i e; rw [e]
    · split
      · rename_i e; rw [e]
      · rename_i e0 e1
        simp [e1]
  rw [← hb]
  clear hb
  go_enter Tryz.func191, Tryz.ntmps191
  go_wp2_with fail
  refine (of_yes _ _ _ _ s hp (by omega)).mono ?_
  rintro e w1 ⟨rfl, hu1⟩
  go_wp2_with fail
  have d1 : (w1.alloc (.cells #[.int .i64 (classOf (s.refs k)), .int .i64 (s.refs k)] 67)).cell? ⟨w1.heap.size, 0, none⟩ = some (.int .i64 (classOf (s.refs k))) := by rw [World.cell?_alloc_new]; rfl
  have hu2 := hu1.alloc (.cells #[.int .i64 (classOf (s.refs k)), .int .i64 (s.refs k)] 67)
  go_ret
  exact ⟨rfl, hu2⟩
end Go.Proofs.YtadpibcgjgcjhabGreatDoor
/- Package leaves: what New, State, Leaf, Plug, Unplug, Give, Back, Seal and Copy answer and turn. -/
namespace Go.Proofs.YtadpibcgjgcjhabGreatDoor
open Go.ChangeShapes Go.WideShapes Go.ChangeAt Go.RowKit
set_option maxRecDepth 100000
attribute [local go_sem ↓] Go.wp_at_zero Go.wp_at_succ

def stR (m : Mp) (n : Int) : Int × Int := if onB n then (m.st n.toNat, 0) else (0, 1)
def lfR (m : Mp) (n : Int) : Lf × Int := if onB n then (m.lf n.toNat, 0) else (lf0, 1)
theorem errV6 : errV 6 = .iface 37 (.int .i64 6) := by simp [errV]
theorem errV8 : errV 8 = .iface 37 (.int .i64 8) := by simp [errV]
theorem setAt_self {α : Type} (g : Nat → α) (k : Nat) (v : α) (h : g k = v) : setAt g k v = g := by
  funext i
  unfold setAt
  split
  · rename_i e; rw [e, h]
  · rfl
theorem setAt_twice {α : Type} (g : Nat → α) (k : Nat) (v u : α) : setAt (setAt g k v) k u = setAt g k u := by
  funext i
  unfold setAt
  split <;> rfl
/-- To turn a page is to leave its frame, and then its state. -/
theorem turn_eq {s : Pl} {m : Mp} {k : Nat} {z : Int} (h : Pgs m) (hk : k < 16) (hz : z = 1 → m.lf k = lf0) : turnP s m k z = leaveP s m k ∧ turnM m k z = { m with st := setAt m.st k z, lf := setAt m.lf k lf0 } := by
  unfold turnP turnM leaveP
  cases ht : (m.lf k).there with
  | false =>
    simp only [Bool.false_and, Bool.false_eq_true, if_false, true_and]
    rw [setAt_self _ _ _ (h.out hk ht)]
  | true =>
    by_cases e : z = 1
    · have := hz e
      rw [this] at ht
      simp [lf0] at ht
    · simp [e]

theorem turn_wrong (w : World) (bl bp k : Nat) (z y c : Int) (m : Mp) (h : LvAt w bl bp m) (hk : k < 16) (hs : m.st k ≠ z) :
    Calls Tryz.prog 179 #[.pointer (some ⟨bl, 0, none⟩), .int .i64 k, .int .i64 z, .int .i64 y, .int .i64 c] w fun e w' => e = .returned (.iface 37 (.int .i64 c)) ∧ w' = w := by
  have c1 := h.st k hk
  have b1 : (m.st k != z) = true := by simp [hs]
  clear hs
  go_enter Tryz.func179, Tryz.ntmps179
  go_wp2_with (go_at_call 147; refine (page_yes _ _ _ hk).mono ?_; rintro e w' ⟨rfl, rfl⟩)
  go_ret
  exact ⟨rfl, rfl⟩
theorem turn_out (w : World) (bl : Nat) (n z y c : Int) (ho : onB n = false) :
    Calls Tryz.prog 179 #[.pointer (some ⟨bl, 0, none⟩), .int .i64 n, .int .i64 z, .int .i64 y, .int .i64 c] w fun e w' => e = .returned (.iface 37 (.int .i64 1)) ∧ w' = w := by
  go_enter Tryz.func179, Tryz.ntmps179
  go_wp2_with (go_at_call 147; refine (page_no _ _ _ ho).mono ?_; rintro e w' ⟨rfl, rfl⟩)
  go_ret
  exact ⟨rfl, rfl⟩
theorem turn_right (w : World) (bl bp bf k : Nat) (z y c : Int) (m : Mp) (s : Pl) (h : LvAt w bl bp m) (hp : PoolAt w bp bf s) (h1 : bl ≠ bp) (h2 : bl ≠ bf) (hk : k < 16) (hlt : bf < w.heap.size) (hm : ∀ k, k < s.n → s.refs k ≤ 1000000) (hs : m.st k = z) :
    Calls Tryz.prog 179 #[.pointer (some ⟨bl, 0, none⟩), .int .i64 k, .int .i64 z, .int .i64 y, .int .i64 c] w fun e w' => e = .returned .nilIface ∧ PoolAt w' bp bf (leaveP s m k) ∧ LvAt w' bl bp { m with st := setAt m.st k y, lf := setAt m.lf k lf0 } ∧ Upd (fun k => k = bf ∨ k = bl) w w' := by
  have c1 := h.st k hk
  have b1 : (m.st k != z) = false := by simp [hs]
  clear hs
  go_enter Tryz.func179, Tryz.ntmps179
  go_wp2_with (go_at_call 147; refine (page_yes _ _ _ hk).mono ?_; rintro e w' ⟨rfl, rfl⟩)
  refine (leave_any _ _ _ _ k m s h hp h1 h2 hk hlt hm).mono ?_
  rintro e w1 ⟨rfl, hp1, hl1, hu1⟩
  have d1 := hl1.st k hk
  have d2 := hl1.fz (1 + k * 4)
  have h3 := hl1.setSt hk y
  have hu3 := Upd.one w1 bl (1 + k * 4) (.int .i64 y)
  have hp3 := hp1.upd hu3 (Ne.symm h1) (Ne.symm h2) (Nat.lt_of_lt_of_le hlt hu1.size)
  have hu4 := hu1.trans hu3 (fun _ _ e => Or.inr e)
  have H3 : Hid _ := h3
  have HU4 : Hid _ := hu4
  have HP3 : Hid _ := hp3
  clear h3 hu3 hp3 hu4 hl1 hu1 hp1
  go_wp2_with fail
  go_ret
  exact ⟨rfl, HP3.out, H3.out, HU4.out⟩
/-- A page turns, or not. -/
theorem turn_lv (w : World) (bl bp bf : Nat) (n z y c : Int) (m m' : Mp) (s : Pl) (h : LvAt w bl bp m) (hp : PoolAt w bp bf s) (h1 : bl ≠ bp) (h2 : bl ≠ bf) (hn : 0 < s.n) (hi : Inv s m m') (hc : errV c = .iface 37 (.int .i64 c)) (hy : y = 1 → z ≠ 1) :
    Calls Tryz.prog 179 #[.pointer (some ⟨bl, 0, none⟩), .int .i64 n, .int .i64 z, .int .i64 y, .int .i64 c] w fun e w' =>
      e = .returned (errV (if onB n then (if m.st n.toNat = z then (0 : Int) else c) else 1)) ∧ PoolAt w' bp bf (if onB n then (if m.st n.toNat = z then turnP s m n.toNat y else s) else s) ∧ LvAt w' bl bp (if onB n then (if m.st n.toNat = z then turnM m n.toNat y else m) else m) ∧ Upd (fun k => k = bf ∨ k = bl) w w' := by
  have hlt : bf < w.heap.size := World.block_lt_of_cell? w _ (hp.refs 0 hn)
  have hm : ∀ k, k < s.n → s.refs k ≤ 1000000 := fun k hk => by have := hi.le k hk; omega
  cases ho : onB n with
  | false =>
    simp only [Bool.false_eq_true, if_false, errV1]
    refine (turn_out w bl n z y c ho).mono ?_
    rintro e w' ⟨rfl, rfl⟩
    exact ⟨rfl, hp, h, Upd.refl _ _⟩
  | true =>
    obtain ⟨h0, h1'⟩ := (onB_iff n).1 ho
    obtain ⟨k, rfl⟩ := Int.eq_ofNat_of_zero_le h0
    have hk : k < 16 := by omega
    simp only [if_true, Int.toNat_natCast]
    by_cases hs : m.st k = z
    · simp only [hs, if_true, errV_zero]
      obtain ⟨e1, e2⟩ := turn_eq (s := s) hi.pa hk (z := y) (fun e => hi.pa.zero hk (by rw [hs]; exact hy e))
      rw [e1, e2]
      exact turn_right w bl bp bf k z y c m s h hp h1 h2 hk hlt hm hs
    · simp only [hs, if_false]
      refine (turn_wrong w bl bp k z y c m h hk hs).mono ?_
      rintro e w' ⟨rfl, rfl⟩
      exact ⟨by rw [hc], hp, h, Upd.refl _ _⟩
theorem plug_wrap (w : World) (bl : Nat) (n : Int) (v : Value) (R : World → Prop) (h : Calls Tryz.prog 179 #[.pointer (some ⟨bl, 0, none⟩), .int .i64 n, .int .i64 0, .int .i64 1, .int .i64 4] w fun e w' => e = .returned v ∧ R w') :
    Calls Tryz.prog 154 #[.pointer (some ⟨bl, 0, none⟩), .int .i64 n] w fun e w' => e = .returned v ∧ R w' := by
  go_enter Tryz.func154, Tryz.ntmps154
  go_wp2_with fail
  refine Calls.mono h ?_
  rintro e w1 ⟨rfl, hR⟩
  go_wp2_with fail
  go_ret
  exact ⟨rfl, hR⟩
theorem lvPlug (w : World) (bl bp bf : Nat) (n : Int) (m m' : Mp) (s : Pl) (h : LvAt w bl bp m) (hp : PoolAt w bp bf s) (h1 : bl ≠ bp) (h2 : bl ≠ bf) (hn : 0 < s.n) (hi : Inv s m m') :
    Calls Tryz.prog 154 #[.pointer (some ⟨bl, 0, none⟩), .int .i64 n] w fun e w' => e = .returned (errV (plugR s m n).1) ∧ PoolAt w' bp bf (plugR s m n).2.1 ∧ LvAt w' bl bp (plugR s m n).2.2 ∧ Upd (fun k => k = bf ∨ k = bl) w w' := by
  have e1 : (plugR s m n).1 = if onB n then (if m.st n.toNat = 0 then (0 : Int) else 4) else 1 := by unfold plugR; split <;> (try split) <;> rfl
  have e2 : (plugR s m n).2.1 = if onB n then (if m.st n.toNat = 0 then turnP s m n.toNat 1 else s) else s := by unfold plugR; split <;> (try split) <;> rfl
  have e3 : (plugR s m n).2.2 = if onB n then (if m.st n.toNat = 0 then turnM m n.toNat 1 else m) else m := by unfold plugR; split <;> (try split) <;> rfl
  rw [e1, e2, e3]
  exact plug_wrap w bl n _ _ (turn_lv w bl bp bf n 0 1 4 m m' s h hp h1 h2 hn hi errV4 (fun e => by omega))
theorem give_wrap (w : World) (bl : Nat) (n : Int) (v : Value) (R : World → Prop) (h : Calls Tryz.prog 179 #[.pointer (some ⟨bl, 0, none⟩), .int .i64 n, .int .i64 1, .int .i64 2, .int .i64 8] w fun e w' => e = .returned v ∧ R w') :
    Calls Tryz.prog 155 #[.pointer (some ⟨bl, 0, none⟩), .int .i64 n] w fun e w' => e = .returned v ∧ R w' := by
  go_enter Tryz.func155, Tryz.ntmps155
  go_wp2_with fail
  refine Calls.mono h ?_
  rintro e w1 ⟨rfl, hR⟩
  go_wp2_with fail
  go_ret
  exact ⟨rfl, hR⟩
theorem lvGive (w : World) (bl bp bf : Nat) (n : Int) (m m' : Mp) (s : Pl) (h : LvAt w bl bp m) (hp : PoolAt w bp bf s) (h1 : bl ≠ bp) (h2 : bl ≠ bf) (hn : 0 < s.n) (hi : Inv s m m') :
    Calls Tryz.prog 155 #[.pointer (some ⟨bl, 0, none⟩), .int .i64 n] w fun e w' => e = .returned (errV (giveR s m n false).1) ∧ PoolAt w' bp bf (giveR s m n false).2.1 ∧ LvAt w' bl bp (giveR s m n false).2.2 ∧ Upd (fun k => k = bf ∨ k = bl) w w' := by
  have e1 : (giveR s m n false).1 = if onB n then (if m.st n.toNat = 1 then (0 : Int) else 8) else 1 := by unfold giveR; simp only [Bool.false_eq_true, if_false]; split <;> (try split) <;> rfl
  have e2 : (giveR s m n false).2.1 = if onB n then (if m.st n.toNat = 1 then turnP s m n.toNat 2 else s) else s := by unfold giveR; simp only [Bool.false_eq_true, if_false]; split <;> (try split) <;> rfl
  have e3 : (giveR s m n false).2.2 = if onB n then (if m.st n.toNat = 1 then turnM m n.toNat 2 else m) else m := by unfold giveR; simp only [Bool.false_eq_true, if_false]; split <;> (try split) <;> rfl
  rw [e1, e2, e3]
  exact give_wrap w bl n _ _ (turn_lv w bl bp bf n 1 2 8 m m' s h hp h1 h2 hn hi errV8 (fun e => by omega))
theorem back_wrap (w : World) (bl : Nat) (n : Int) (v : Value) (R : World → Prop) (h : Calls Tryz.prog 179 #[.pointer (some ⟨bl, 0, none⟩), .int .i64 n, .int .i64 2, .int .i64 1, .int .i64 8] w fun e w' => e = .returned v ∧ R w') :
    Calls Tryz.prog 156 #[.pointer (some ⟨bl, 0, none⟩), .int .i64 n] w fun e w' => e = .returned v ∧ R w' := by
  go_enter Tryz.func156, Tryz.ntmps156
  go_wp2_with fail
  refine Calls.mono h ?_
  rintro e w1 ⟨rfl, hR⟩
  go_wp2_with fail
  go_ret
  exact ⟨rfl, hR⟩
theorem lvBack (w : World) (bl bp bf : Nat) (n : Int) (m m' : Mp) (s : Pl) (h : LvAt w bl bp m) (hp : PoolAt w bp bf s) (h1 : bl ≠ bp) (h2 : bl ≠ bf) (hn : 0 < s.n) (hi : Inv s m m') :
    Calls Tryz.prog 156 #[.pointer (some ⟨bl, 0, none⟩), .int .i64 n] w fun e w' => e = .returned (errV (giveR s m n true).1) ∧ PoolAt w' bp bf (giveR s m n true).2.1 ∧ LvAt w' bl bp (giveR s m n true).2.2 ∧ Upd (fun k => k = bf ∨ k = bl) w w' := by
  have e1 : (giveR s m n true).1 = if onB n then (if m.st n.toNat = 2 then (0 : Int) else 8) else 1 := by unfold giveR; simp only [if_true]; split <;> (try split) <;> rfl
  have e2 : (giveR s m n true).2.1 = if onB n then (if m.st n.toNat = 2 then turnP s m n.toNat 1 else s) else s := by unfold giveR; simp only [if_true]; split <;> (try split) <;> rfl
  have e3 : (giveR s m n true).2.2 = if onB n then (if m.st n.toNat = 2 then turnM m n.toNat 1 else m) else m := by unfold giveR; simp only [if_true]; split <;> (try split) <;> rfl
  rw [e1, e2, e3]
  exact back_wrap w bl n _ _ (turn_lv w bl bp bf n 2 1 8 m m' s h hp h1 h2 hn hi errV8 (fun e => by omega))
theorem lvUnplug (w : World) (bl bp bf : Nat) (n : Int) (m m' : Mp) (s : Pl) (h : LvAt w bl bp m) (hp : PoolAt w bp bf s) (h1 : bl ≠ bp) (h2 : bl ≠ bf) (hn : 0 < s.n) (hi : Inv s m m') :
    Calls Tryz.prog 152 #[.pointer (some ⟨bl, 0, none⟩), .int .i64 n] w fun e w' => e = .returned (errV (unplugR s m n).1) ∧ PoolAt w' bp bf (unplugR s m n).2.1 ∧ LvAt w' bl bp (unplugR s m n).2.2 ∧ Upd (fun k => k = bf ∨ k = bl) w w' := by
  have hlt : bf < w.heap.size := World.block_lt_of_cell? w _ (hp.refs 0 hn)
  have hm : ∀ k, k < s.n → s.refs k ≤ 1000000 := fun k hk => by have := hi.le k hk; omega
  cases ho : onB n with
  | false =>
    simp only [unplugR, ho, Bool.false_eq_true, if_false, errV1]
    go_enter Tryz.func152, Tryz.ntmps152
    go_wp2_with (go_at_call 147; refine (page_no _ _ _ ho).mono ?_; rintro e w' ⟨rfl, rfl⟩)
    go_ret
    exact ⟨rfl, hp, h, Upd.refl _ _⟩
  | true =>
    obtain ⟨h0, h1'⟩ := (onB_iff n).1 ho
    obtain ⟨k, rfl⟩ := Int.eq_ofNat_of_zero_le h0
    have hk : k < 16 := by omega
    have c1 := h.st k hk
    by_cases hs : m.st k = 0
    · simp only [unplugR, ho, if_true, Int.toNat_natCast, hs, errV2]
      have b1 : (m.st k == 0) = true := by simp [hs]
      clear hs
      go_enter Tryz.func152, Tryz.ntmps152
      go_wp2_with (go_at_call 147; refine (page_yes _ _ _ hk).mono ?_; rintro e w' ⟨rfl, rfl⟩)
      go_ret
      exact ⟨rfl, hp, h, Upd.refl _ _⟩
    · simp only [unplugR, ho, if_true, Int.toNat_natCast, hs, if_false, errV_zero]
      have b1 : (m.st k == 0) = false := by simp [hs]
      obtain ⟨e1, e2⟩ := turn_eq (s := s) hi.pa hk (z := 0) (fun e => by omega)
      rw [e1, e2]
      clear hs e1 e2
      go_enter Tryz.func152, Tryz.ntmps152
      go_wp2_with (go_at_call 147; refine (page_yes _ _ _ hk).mono ?_; rintro e w' ⟨rfl, rfl⟩)
      refine (leave_any _ _ _ _ k m s h hp h1 h2 hk hlt hm).mono ?_
      rintro e w1 ⟨rfl, hp1, hl1, hu1⟩
      have d1 := hl1.st k hk
      have d2 := hl1.fz (1 + k * 4)
      have h3 := hl1.setSt hk 0
      have hu3 := Upd.one w1 bl (1 + k * 4) (.int .i64 0)
      have hp3 := hp1.upd hu3 (Ne.symm h1) (Ne.symm h2) (Nat.lt_of_lt_of_le hlt hu1.size)
      have hu4 := hu1.trans hu3 (fun _ _ e => Or.inr e)
      have H3 : Hid _ := h3
      have HU4 : Hid _ := hu4
      have HP3 : Hid _ := hp3
      clear h3 hu3 hp3 hu4 hl1 hu1 hp1
      go_wp2_with fail
      go_ret
      exact ⟨rfl, HP3.out, H3.out, HU4.out⟩
theorem lvState (w : World) (bl bp : Nat) (n : Int) (m : Mp) (h : LvAt w bl bp m) :
    Calls Tryz.prog 143 #[.pointer (some ⟨bl, 0, none⟩), .int .i64 n] w fun e w' => e = .returned (.tuple #[.int .i64 (stR m n).1, errV (stR m n).2]) ∧ Upd (fun _ => False) w w' := by
  cases ho : onB n with
  | false =>
    simp only [stR, ho, Bool.false_eq_true, if_false, errV1]
    go_enter Tryz.func143, Tryz.ntmps143
    go_wp2_with (go_at_call 147; refine (page_no _ _ _ ho).mono ?_; rintro e w' ⟨rfl, rfl⟩)
    go_ret2
    exact ⟨rfl, Upd.refl _ _⟩
  | true =>
    obtain ⟨h0, h1'⟩ := (onB_iff n).1 ho
    obtain ⟨k, rfl⟩ := Int.eq_ofNat_of_zero_le h0
    have hk : k < 16 := by omega
    have c1 := h.st k hk
    simp only [stR, ho, if_true, Int.toNat_natCast, errV_zero]
    go_enter Tryz.func143, Tryz.ntmps143
    go_wp2_with (go_at_call 147; refine (page_yes _ _ _ hk).mono ?_; rintro e w' ⟨rfl, rfl⟩)
    go_ret2
    exact ⟨rfl, Upd.refl _ _⟩
theorem lvLeaf (w : World) (bl bp : Nat) (n : Int) (m : Mp) (h : LvAt w bl bp m) :
    Calls Tryz.prog 144 #[.pointer (some ⟨bl, 0, none⟩), .int .i64 n] w fun e w' => e = .returned (.tuple #[.agg #[.bool (lfR m n).1.there, .bool (lfR m n).1.wr, .int .i64 (lfR m n).1.fr], errV (lfR m n).2]) ∧ Upd (fun _ => False) w w' := by
  cases ho : onB n with
  | false =>
    simp only [lfR, ho, Bool.false_eq_true, if_false, errV1, lf0]
    go_enter Tryz.func144, Tryz.ntmps144
    go_wp2_with (go_at_call 147; refine (page_no _ _ _ ho).mono ?_; rintro e w' ⟨rfl, rfl⟩)
    exact bodyPost_ret (v := .tuple #[.agg #[.bool false, .bool false, .int .i64 0], .iface 37 (.int .i64 1)]) (by simp [results, Tryz.results144, go_sem]) rfl ⟨rfl, (Upd.refl _ _).alloc _⟩
  | true =>
    obtain ⟨h0, h1'⟩ := (onB_iff n).1 ho
    obtain ⟨k, rfl⟩ := Int.eq_ofNat_of_zero_le h0
    have hk : k < 16 := by omega
    have u1 := (Upd.refl (fun _ => False) w).alloc (.cells #[.bool false, .bool false, .int .i64 0] 92)
    have h' := h.upd u1 (fun f => f)
    have c1 := h'.th k hk
    have c2 := h'.wr k hk
    have c3 := h'.fr k hk
    simp only [lfR, ho, if_true, Int.toNat_natCast, errV_zero]
    go_enter Tryz.func144, Tryz.ntmps144
    go_wp2_with (go_at_call 147; refine (page_yes _ _ _ hk).mono ?_; rintro e w' ⟨rfl, rfl⟩)
    exact bodyPost_ret (v := .tuple #[.agg #[.bool (m.lf k).there, .bool (m.lf k).wr, .int .i64 (m.lf k).fr], .nilIface]) (by simp [results, Tryz.results144, go_sem]) rfl ⟨rfl, (Upd.refl _ _).alloc _⟩
theorem lvSeal (w : World) (bl bp bf : Nat) (n : Int) (m m' : Mp) (s : Pl) (h : LvAt w bl bp m) (hp : PoolAt w bp bf s) (h1 : bl ≠ bp) (h2 : bl ≠ bf) (hn : 0 < s.n) (_hi : Inv s m m') :
    Calls Tryz.prog 145 #[.pointer (some ⟨bl, 0, none⟩), .int .i64 n] w fun e w' => e = .returned (errV (sealR m n).1) ∧ PoolAt w' bp bf s ∧ LvAt w' bl bp (sealR m n).2 ∧ Upd (fun k => k = bf ∨ k = bl) w w' := by
  have hlt : bf < w.heap.size := World.block_lt_of_cell? w _ (hp.refs 0 hn)
  cases ho : onB n with
  | false =>
    simp only [sealR, ho, Bool.false_eq_true, if_false, errV1]
    go_enter Tryz.func145, Tryz.ntmps145
    go_wp2_with (go_at_call 147; refine (page_no _ _ _ ho).mono ?_; rintro e w' ⟨rfl, rfl⟩)
    go_ret
    exact ⟨rfl, hp, h, Upd.refl _ _⟩
  | true =>
    obtain ⟨h0, h1'⟩ := (onB_iff n).1 ho
    obtain ⟨k, rfl⟩ := Int.eq_ofNat_of_zero_le h0
    have hk : k < 16 := by omega
    have c1 := h.th k hk
    have c2 := h.wr k hk
    have c3 := h.fz (1 + k * 4 + 1 + 1)
    cases ht : (m.lf k).there with
    | false =>
      simp only [sealR, ho, if_true, Int.toNat_natCast, ht, Bool.false_eq_true, if_false, errV8]
      rw [ht] at c1
      clear ht
      go_enter Tryz.func145, Tryz.ntmps145
      go_wp2_with (go_at_call 147; refine (page_yes _ _ _ hk).mono ?_; rintro e w' ⟨rfl, rfl⟩)
      go_ret
      exact ⟨rfl, hp, h, Upd.refl _ _⟩
    | true =>
      simp only [sealR, ho, if_true, Int.toNat_natCast, ht, errV_zero]
      rw [ht] at c1
      have h3 := h.setWr hk false
      simp only [ht] at h3
      have hu3 := Upd.one w bl (1 + k * 4 + 1 + 1) (.bool false)
      have hp3 := hp.upd hu3 (Ne.symm h1) (Ne.symm h2) hlt
      have H3 : Hid _ := h3
      have HU3 : Hid _ := hu3
      have HP3 : Hid _ := hp3
      clear ht h3 hu3 hp3
      go_enter Tryz.func145, Tryz.ntmps145
      go_wp2_with (go_at_call 147; refine (page_yes _ _ _ hk).mono ?_; rintro e w' ⟨rfl, rfl⟩)
      go_ret
      exact ⟨rfl, HP3.out, H3.out, HU3.out.wide (fun _ e => Or.inr e)⟩
end Go.Proofs.YtadpibcgjgcjhabGreatDoor
/- The pages of all guests in one row of 64, and the bytes that they have, plainly: what is done to one page keeps. -/
namespace Go.Proofs.YtadpibcgjgcjhabGreatDoor
open Go.RowKit

theorem cntTo_congr {l l' : Nat → Lf} (f : Int) : ∀ k, (∀ i, i < k → l i = l' i) → cntTo l f k = cntTo l' f k
  | 0, _ => rfl
  | k + 1, h => by rw [cntTo_succ, cntTo_succ, cntTo_congr f k (fun i hi => h i (by omega)), h k (by omega)]
theorem cntTo_two (L : Nat → Lf) (p q : Nat) (f : Int) : ∀ k, p < k → q < p → (L p).there = true → (L q).there = true → (L p).fr = f → (L q).fr = f → 2 ≤ cntTo L f k
  | 0, h, _, _, _, _, _ => absurd h (by omega)
  | k + 1, h, hq, tp, tq, ep, eq => by
    rw [cntTo_succ]
    by_cases e : k = p
    · subst e
      have := cntTo_pos L q k (by omega) tq
      rw [eq] at this
      have : inIn (L k) f = 1 := by simp [inIn, tp, ep]
      omega
    · have := cntTo_two L p q f k (by omega) hq tp tq ep eq
      omega
/-- The frames' numbers are the pages that are in them. -/
structure Cn (s : Pl) (L : Nat → Lf) : Prop where
  cnt : ∀ f : Nat, f < s.n → s.refs f = cntTo L f 64
  rng : ∀ k, k < 64 → (L k).there = true → 0 ≤ (L k).fr ∧ (L k).fr < s.n
theorem Cn.pos {s : Pl} {L : Nat → Lf} (h : Cn s L) {k : Nat} (hk : k < 64) (ht : (L k).there = true) : 1 ≤ s.refs (L k).fr.toNat := by
  obtain ⟨f0, f1⟩ := h.rng k hk ht
  have h1 := h.cnt (L k).fr.toNat (by omega)
  have h2 := cntTo_pos L k 64 hk ht
  rw [Int.toNat_of_nonneg f0] at h1
  omega
theorem Cn.used {s : Pl} {L : Nat → Lf} (h : Cn s L) {k : Nat} (hk : k < 64) (ht : (L k).there = true) : s.used (L k).fr = true := by
  obtain ⟨f0, f1⟩ := h.rng k hk ht
  have := h.pos hk ht
  exact (s.used_iff _).2 ⟨f0, f1, by omega⟩
/-- One that is alone in its frame. -/
theorem Cn.lone {s : Pl} {L : Nat → Lf} (h : Cn s L) {p q : Nat} (hp : p < 64) (hq : q < 64) (tp : (L p).there = true) (tq : (L q).there = true) (hr : s.refs (L p).fr.toNat = 1) (he : (L q).fr.toNat = (L p).fr.toNat) : q = p := by
  obtain ⟨f0, f1⟩ := h.rng p hp tp
  obtain ⟨g0, g1⟩ := h.rng q hq tq
  have ef : (L q).fr = (L p).fr := by omega
  have h1 := h.cnt (L p).fr.toNat (by omega)
  rw [Int.toNat_of_nonneg f0, hr] at h1
  by_cases e : q = p
  · exact e
  · exfalso
    rcases Nat.lt_or_gt_of_ne e with g | g
    · have := cntTo_two L p q (L p).fr 64 hp g tp tq rfl ef
      omega
    · have := cntTo_two L q p (L p).fr 64 hq g tq tp ef rfl
      omega
theorem Cn.free {s : Pl} {L : Nat → Lf} (h : Cn s L) {j k : Nat} (h0 : s.refs j = 0) (hk : k < 64) (ht : (L k).there = true) : (L k).fr.toNat ≠ j := fun e => by
  have := h.pos hk ht
  rw [e] at this
  omega

/-- Each page has its bytes; where it may be written it is alone. -/
structure RInv (s : Pl) (L : Nat → Lf) (t : Nat → Nat → Int) : Prop where
  one : ∀ k, k < 64 → (L k).there = true → (L k).wr = true → s.refs (L k).fr.toNat = 1
  out : ∀ k, k < 64 → (L k).there = false → ∀ i, i < 16 → t k i = 0
  byt : ∀ k, k < 64 → (L k).there = true → ∀ i, i < 16 → s.byt (L k).fr.toNat i = t k i
/-- A leaf alone turns. -/
theorem RInv.leaf {s : Pl} {L : Nat → Lf} {t : Nat → Nat → Int} (h : RInv s L t) {p : Nat} (hp : p < 64) {l : Lf} (ht : l.there = (L p).there) (hf : l.fr = (L p).fr) (hw : l.there = true → l.wr = true → s.refs l.fr.toNat = 1) : RInv s (setAt L p l) t where
  one := fun k hk => by
    by_cases e : k = p
    · subst e; rw [setAt_same]; exact hw
    · rw [setAt_other _ _ _ _ e]; exact h.one k hk
  out := fun k hk => by
    by_cases e : k = p
    · subst e; rw [setAt_same, ht]; exact h.out k hk
    · rw [setAt_other _ _ _ _ e]; exact h.out k hk
  byt := fun k hk => by
    by_cases e : k = p
    · subst e; rw [setAt_same, ht, hf]; exact h.byt k hk
    · rw [setAt_other _ _ _ _ e]; exact h.byt k hk
theorem RInv.own {s : Pl} {L : Nat → Lf} {t : Nat → Nat → Int} (h : RInv s L t) {p : Nat} (hp : p < 64) (hr : s.refs (L p).fr.toNat = 1) : RInv s (setAt L p { L p with wr := true }) t :=
  h.leaf hp rfl rfl (fun _ _ => hr)
/-- A page comes into a frame that was free. -/
theorem RInv.new {s : Pl} {L : Nat → Lf} {t : Nat → Nat → Int} (h : RInv s L t) (c : Cn s L) {p j : Nat} (hp : p < 64) (ht : (L p).there = false) (h0 : s.refs j = 0) :
    RInv { s with refs := setAt s.refs j 1, byt := setAt s.byt j fun _ => 0 } (setAt L p ⟨true, true, j⟩) t where
  one := fun k hk => by
    by_cases e : k = p
    · subst e; rw [setAt_same]; intro _ _; simp only [Int.toNat_natCast, setAt_same]
    · rw [setAt_other _ _ _ _ e]
      intro t1 w1
      have := c.free h0 hk t1
      simp only [setAt_other _ _ _ _ this]
      exact h.one k hk t1 w1
  out := fun k hk => by
    by_cases e : k = p
    · subst e; rw [setAt_same]; intro t1; simp at t1
    · rw [setAt_other _ _ _ _ e]; exact h.out k hk
  byt := fun k hk => by
    by_cases e : k = p
    · subst e; rw [setAt_same]; intro _ i hi; simp only [Int.toNat_natCast, setAt_same]; exact (h.out k hk ht i hi).symm
    · rw [setAt_other _ _ _ _ e]
      intro t1 i hi
      have := c.free h0 hk t1
      simp only [setAt_other _ _ _ _ this]
      exact h.byt k hk t1 i hi
/-- A page moves. -/
theorem RInv.move {s : Pl} {L : Nat → Lf} {t : Nat → Nat → Int} (h : RInv s L t) (c : Cn s L) {p j : Nat} (hp : p < 64) (ht : (L p).there = true) (hr : s.refs (L p).fr.toNat ≠ 1) (h0 : s.refs j = 0) :
    RInv (({ s with refs := setAt s.refs j 1, byt := setAt (setAt s.byt j fun _ => 0) j (setAt s.byt j (fun _ => 0) (L p).fr.toNat) } : Pl).share (L p).fr (-1)).2 (setAt L p ⟨true, true, j⟩) t := by
  have hfj := c.free h0 hp ht
  obtain ⟨f0, f1⟩ := c.rng p hp ht
  have hu := c.pos hp ht
  rw [share_refs (by
    refine (Pl.used_iff _ _).2 ⟨f0, f1, ?_⟩
    show setAt s.refs j 1 (L p).fr.toNat ≠ 0
    rw [setAt_other _ _ _ _ hfj]; omega)]
  constructor
  · intro k hk
    by_cases e : k = p
    · subst e; rw [setAt_same]; intro _ _; simp only [Int.toNat_natCast]
      rw [setAt_other _ _ _ _ (Ne.symm hfj), setAt_same]
    · rw [setAt_other _ _ _ _ e]
      intro t1 w1
      have h1 := h.one k hk t1 w1
      have h2 := c.free h0 hk t1
      have h3 : (L k).fr.toNat ≠ (L p).fr.toNat := fun q => hr (by rw [← q]; exact h1)
      simp only
      rw [setAt_other _ _ _ _ h3, setAt_other _ _ _ _ h2]
      exact h1
  · intro k hk
    by_cases e : k = p
    · subst e; rw [setAt_same]; intro t1; simp at t1
    · rw [setAt_other _ _ _ _ e]; exact h.out k hk
  · intro k hk
    by_cases e : k = p
    · subst e; rw [setAt_same]; intro _ i hi; simp only [Int.toNat_natCast, setAt_same]
      rw [setAt_other _ _ _ _ hfj]
      exact h.byt k hk ht i hi
    · rw [setAt_other _ _ _ _ e]
      intro t1 i hi
      have := c.free h0 hk t1
      simp only [setAt_other _ _ _ _ this]
      exact h.byt k hk t1 i hi
/-- A page joins another frame, in which none may be written. -/
theorem RInv.join {s : Pl} {L : Nat → Lf} {t : Nat → Nat → Int} (h : RInv s L t) (c : Cn s L) {p : Nat} {f : Int} (hp : p < 64) (ht : (L p).there = true) (hne : (L p).fr ≠ f) (hs : s.same (L p).fr f = true)
    (hw : ∀ k, k < 64 → (L k).there = true → (L k).fr = f → (L k).wr = false) : RInv ((s.share f 1).2.share (L p).fr (-1)).2 (setAt L p ⟨true, false, f⟩) t := by
  have hs' := hs
  unfold Pl.same at hs'
  simp only [Bool.and_eq_true, List.all_eq_true, List.mem_range, beq_iff_eq] at hs'
  obtain ⟨⟨u1, u2⟩, hb⟩ := hs'
  obtain ⟨f0, f1, f2⟩ := (s.used_iff _).1 u1
  obtain ⟨g0, g1, g2⟩ := (s.used_iff _).1 u2
  have hnn : (L p).fr.toNat ≠ f.toNat := by omega
  rw [share_refs u2]
  rw [share_refs (by
    refine (Pl.used_iff _ _).2 ⟨f0, f1, ?_⟩
    show setAt s.refs f.toNat _ (L p).fr.toNat ≠ 0
    rw [setAt_other _ _ _ _ hnn]; exact f2)]
  constructor
  · intro k hk
    by_cases e : k = p
    · subst e; rw [setAt_same]; intro _ w1; simp at w1
    · rw [setAt_other _ _ _ _ e]
      intro t1 w1
      have h1 := h.one k hk t1 w1
      obtain ⟨k0, k1⟩ := c.rng k hk t1
      have h2 : (L k).fr.toNat ≠ f.toNat := fun q => by
        have := hw k hk t1 (by omega)
        rw [this] at w1; simp at w1
      have h3 : (L k).fr.toNat ≠ (L p).fr.toNat := fun q => e (c.lone hk hp t1 ht h1 q.symm).symm
      simp only
      rw [setAt_other _ _ _ _ h3, setAt_other _ _ _ _ h2]
      exact h1
  · intro k hk
    by_cases e : k = p
    · subst e; rw [setAt_same]; intro t1; simp at t1
    · rw [setAt_other _ _ _ _ e]; exact h.out k hk
  · intro k hk
    by_cases e : k = p
    · subst e; rw [setAt_same]; intro _ i hi
      rw [← hb i hi]
      exact h.byt k hk ht i hi
    · rw [setAt_other _ _ _ _ e]
      exact h.byt k hk
/-- A byte of a page that may be written. -/
theorem RInv.set {s : Pl} {L : Nat → Lf} {t : Nat → Nat → Int} (h : RInv s L t) (c : Cn s L) {p i : Nat} {v : Int} (hp : p < 64) (ht : (L p).there = true) (hw : (L p).wr = true) :
    RInv { s with byt := setAt s.byt (L p).fr.toNat (setAt (s.byt (L p).fr.toNat) i v) } L (setAt t p (setAt (t p) i v)) where
  one := h.one
  out := fun k hk t1 j hj => by
    by_cases e : k = p
    · subst e; rw [ht] at t1; simp at t1
    · rw [setAt_other _ _ _ _ e]; exact h.out k hk t1 j hj
  byt := fun k hk t1 j hj => by
    by_cases e : k = p
    · subst e
      simp only [setAt_same]
      unfold setAt
      split
      · rfl
      · exact h.byt k hk t1 j hj
    · have : (L k).fr.toNat ≠ (L p).fr.toNat := fun q => e (c.lone hp hk ht t1 (h.one p hp ht hw) q)
      simp only [setAt_other _ _ _ _ this, setAt_other _ _ _ _ e]
      exact h.byt k hk t1 j hj
/-- What Touch does to a page that is plain. -/
theorem touch_keeps {s : Pl} {m : Mp} {L : Nat → Lf} {t : Nat → Nat → Int} (h : RInv s L t) (c : Cn s L) {k p : Nat} (wt : Bool) (hk : k < 16) (hp : p < 64) (hL : L p = m.lf k) (hs : m.st k = 1) :
    ∃ l, (touchR s m k wt).2.2 = { m with st := m.st, lf := setAt m.lf k l } ∧ RInv (touchR s m k wt).2.1 (setAt L p l) t ∧
      ((touchR s m k wt).1.2.2 = 0 → l.there = true ∧ l.fr = (touchR s m k wt).1.1 ∧ (wt = true → l.wr = true)) := by
  have ho : onB (k : Int) = true := (onB_iff _).2 ⟨by omega, by omega⟩
  have same : setAt m.lf k (m.lf k) = m.lf := setAt_self _ _ _ rfl
  have sameL : setAt L p (m.lf k) = L := setAt_self _ _ _ hL
  unfold touchR
  simp only [ho, if_true, Int.toNat_natCast, hs, show ¬ ((1 : Int) = 0) by omega, show ¬ ((1 : Int) = 2) by omega, if_false]
  split
  · rename_i ha
    refine ⟨m.lf k, by rw [same], by rw [sameL]; exact h, fun _ => ?_⟩
    simp only [Bool.and_eq_true, Bool.or_eq_true, Bool.not_eq_true'] at ha
    exact ⟨ha.1, rfl, fun e => by rcases ha.2 with g | g; (· rw [e] at g; simp at g); (· exact g)⟩
  · rename_i ha
    split
    · rename_i hb
      simp only [Bool.and_eq_true, beq_iff_eq] at hb
      refine ⟨{ m.lf k with wr := true }, rfl, ?_, fun _ => ⟨hb.1, rfl, fun _ => rfl⟩⟩
      rw [← hL]
      exact h.own hp (by rw [hL]; exact hb.2)
    · rename_i hb
      cases hff : firstFrom s.refs 0 s.n with
      | none =>
        rw [take_none hff]
        simp only [show ¬ ((3 : Int) = 0) by omega, if_false]
        exact ⟨m.lf k, by rw [same], by rw [sameL]; exact h, fun e => by simp at e⟩
      | some j =>
        rw [take_some hff]
        simp only [if_true]
        have hsp := firstFrom_spec s.refs s.n 0
        rw [hff] at hsp
        obtain ⟨_, j1, j2, _⟩ := hsp
        refine ⟨⟨true, true, (j : Int)⟩, rfl, ?_, fun _ => ⟨rfl, rfl, fun _ => rfl⟩⟩
        cases ht : (m.lf k).there with
        | false =>
          simp only [Bool.false_eq_true, if_false]
          exact h.new c hp (by rw [hL]; exact ht) j2
        | true =>
          simp only [if_true, Int.toNat_natCast]
          rw [ht] at hb
          have hr : s.refs (L p).fr.toNat ≠ 1 := by
            rw [hL]
            intro e
            exact hb (by simp [e])
          have := h.move c hp (by rw [hL]; exact ht) hr j2
          rw [hL] at this
          exact this
end Go.Proofs.YtadpibcgjgcjhabGreatDoor
