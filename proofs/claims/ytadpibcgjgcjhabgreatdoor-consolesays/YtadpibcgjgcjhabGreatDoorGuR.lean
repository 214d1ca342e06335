/- Entries as they are told, plainly: each leaf its page's; what turns a page turns those that lead to it. -/
import Derived.Test.YtadpibcgjgcjhabGreatDoorGuQ
import Derived.Test.YtadpibcgjgcjhabGreatDoorCpA
namespace Go.Proofs.YtadpibcgjgcjhabGreatDoor

def shows (m : Mp) (es : List En) : List En := es.map (gShow m)
theorem shows_length (m : Mp) (es : List En) : (shows m es).length = es.length := by simp [shows]
theorem shows_at (m : Mp) (es : List En) {k : Nat} (h : k < es.length) : atE (shows m es) k = gShow m (atE es k) := by
  simp [atE, shows, List.getD_eq_getElem?_getD, List.getElem?_map, List.getElem?_eq_getElem h]
theorem shows_idx (m : Mp) (es : List En) (r p : Int) : idxP (isAt r p) (shows m es) = idxP (isAt r p) es := by
  unfold idxP shows
  rw [List.findIdx?_map]
  rfl
theorem shows_flt (m : Mp) (es : List En) (q : En → Bool) (hq : ∀ e, q (gShow m e) = q e) : flt q (shows m es) = shows m (flt q es) := by
  unfold flt shows
  rw [List.filter_map]
  congr 1
  apply List.filter_congr
  intro x _
  simp [Function.comp, hq]
theorem shows_cut (m : Mp) (es : List En) : cut1 (shows m es) = shows m (cut1 es) := by
  unfold cut1
  rw [shows_length]
  split
  · next h =>
    rw [shows_at m es (by omega)]
    exact shows_flt m es _ (fun e => rfl)
  · rfl
theorem shows_put (m : Mp) (es : List En) (x : En) : putK (shows m es) (gShow m x) = shows m (putK es x) := by
  unfold putK
  have h1 : flt (isAt (gShow m x).root (gShow m x).page) (shows m es) = shows m (flt (isAt x.root x.page) es) := shows_flt m es _ (fun e => rfl)
  rw [h1, shows_cut]
  simp [shows]
/-- A page turns: all that lead to it are pointed to where it is. -/
theorem shows_point (m m' : Mp) (es : List En) (n : Nat) (hm : ∀ k, k ≠ n → m'.lf k = m.lf k) (hen : ∀ x ∈ es, 0 ≤ x.dest) : pntTo (n : Int) (m'.lf n) (shows m es) (shows m es).length = shows m' es := by
  rw [pntTo_map _ _ _ _ (Nat.le_refl _), List.take_length]
  unfold shows
  rw [List.map_map]
  apply List.map_congr_left
  intro x hx
  have h0 := hen x hx
  unfold Function.comp pnt gShow
  by_cases e : x.dest = (n : Int)
  · simp [e]
  · have : x.dest.toNat ≠ n := by omega
    simp [e, hm _ this]
/-- What Touch turns: one page's leaf. -/
theorem touch_lf (s : Pl) (m : Mp) (n : Int) (wt : Bool) : ∀ k, k ≠ n.toNat → (touchR s m n wt).2.2.lf k = m.lf k := by
  intro k hk
  unfold touchR
  repeat' split
  all_goals first | rfl | (simp [setAt, hk])
theorem touch_no (s : Pl) (m : Mp) (n : Int) (wt : Bool) (he : (touchR s m n wt).1.2.2 ≠ 0) : (touchR s m n wt).2 = (s, m) := by
  revert he
  unfold touchR
  repeat' split
  all_goals first | (intro _; rfl) | (intro h; exact absurd rfl h)
theorem turnM_lf (m : Mp) (n : Nat) (z : Int) : ∀ k, k ≠ n → (turnM m n z).lf k = m.lf k := by
  intro k hk
  unfold turnM
  split
  · simp [setAt, hk]
  · rfl
theorem plug_lf (s : Pl) (m : Mp) (n : Int) : ∀ k, k ≠ n.toNat → (plugR s m n).2.2.lf k = m.lf k := by
  intro k hk
  unfold plugR
  repeat' split
  all_goals first | rfl | exact turnM_lf m _ _ k hk
theorem unplug_lf (s : Pl) (m : Mp) (n : Int) : ∀ k, k ≠ n.toNat → (unplugR s m n).2.2.lf k = m.lf k := by
  intro k hk
  unfold unplugR
  repeat' split
  all_goals first | rfl | exact turnM_lf m _ _ k hk
theorem give_lf (s : Pl) (m : Mp) (n : Int) (b : Bool) : ∀ k, k ≠ n.toNat → (giveR s m n b).2.2.lf k = m.lf k := by
  intro k hk
  unfold giveR
  repeat' split
  all_goals first | rfl | exact turnM_lf m _ _ k hk
theorem seal_lf (m : Mp) (n : Int) : ∀ k, k ≠ n.toNat → (sealR m n).2.lf k = m.lf k := by
  intro k hk
  unfold sealR
  repeat' split
  all_goals first | rfl | (simp [setAt, hk])
theorem join_lf (s : Pl) (m : Mp) (n f : Int) : ∀ k, k ≠ n.toNat → (joinR s m n f).2.2.lf k = m.lf k := by
  intro k hk
  unfold joinR
  repeat' split
  all_goals first | rfl | (simp [setAt, hk])
theorem step_dist {s : Pl} {g : Gs} (h : Dist g.c) (hl : g.c.length ≤ 4) (x : En) (found wt : Bool) : Dist (gStep s g x found wt).2.2.c := by
  unfold gStep
  split
  · exact h
  · split
    · exact h
    · cases found with
      | true => exact h
      | false =>
        show Dist (putC g.c x)
        rw [put_same h hl]
        exact dist_putK h x
theorem at_dist {s : Pl} {g : Gs} (h : Dist g.c) (hl : g.c.length ≤ 4) (addr : Int) (wt : Bool) : Dist (gAt s g addr wt).2.2.c := by
  unfold gAt
  repeat' split
  · exact h
  · exact h
  · exact step_dist h hl _ _ _
  · unfold gWalk
    repeat' split
    · exact h
    · exact h
    · exact step_dist (g := { (gTouch s g g.root false).2.2 with walks := g.walks + 1 }) h hl _ _ _
theorem store_dist {s : Pl} {g : Gs} (h : Dist g.c) (hl : g.c.length ≤ 4) (addr v : Int) : Dist (gStore s g addr v).2.2.c := by
  unfold gStore
  split <;> exact at_dist h hl _ _
theorem forget_dist {g : Gs} (h : Dist g.c) (addr : Int) : Dist (gForget g addr).2.c := by
  unfold gForget
  split
  · exact h
  · show Dist (keepTo _ _ _)
    rw [keep_drop h]
    exact dist_flt h _
theorem forgetAll_dist {g : Gs} (h : Dist g.c) (n : Int) : Dist (gForgetAll g n).2.c := by
  unfold gForgetAll
  split
  · show Dist (keepTo _ _ _)
    rw [keep_forget]
    exact dist_flt h _
  · exact h
theorem BytOk.set {s : Pl} (h : BytOk s) (f i v : Int) (h0 : 0 ≤ v) (h1 : v ≤ 255) : BytOk (s.set f i v).2 := by
  unfold Pl.set
  repeat' split
  all_goals first | exact h | skip
  intro a c
  show 0 ≤ setAt s.byt f.toNat (setAt (s.byt f.toNat) i.toNat v) a c ∧ setAt s.byt f.toNat (setAt (s.byt f.toNat) i.toNat v) a c ≤ 255
  by_cases ea : a = f.toNat
  · subst ea
    rw [setAt_same]
    by_cases ec : c = i.toNat
    · subst ec; rw [setAt_same]; exact ⟨h0, h1⟩
    · rw [setAt_other _ _ _ _ ec]; exact h _ _
  · rw [setAt_other _ _ _ _ ea]; exact h _ _
theorem GInv.store {s : Pl} {g : Gs} {b : Mp} {W : Int} (h : GInv s g b W) (addr v : Int) (h0 : 0 ≤ v) (h1 : v ≤ 255) : GInv (gStore s g addr v).2.1 (gStore s g addr v).2.2 b (W + 1) := by
  unfold gStore
  split
  · exact h.at _ _
  · have ha := h.at addr true
    exact { ha with inv := ha.inv.set _ _ _, byt := ha.byt.set _ _ _ h0 h1 }
theorem GInv.root {s : Pl} {g : Gs} {b : Mp} {W : Int} (h : GInv s g b W) (n : Int) : GInv s (gRoot g n).2 b W := by
  unfold gRoot
  split
  · exact h
  · exact { h with r0 := by show -1 ≤ n; omega, r1 := by show n ≤ 15; omega }
theorem GInv.keep {s : Pl} {g : Gs} {b : Mp} {W : Int} (h : GInv s g b W) (P : Nat → Bool) : GInv s { g with c := keepTo P g.c g.c.length } b W :=
  { h with len := by have := keepTo_length P g.c g.c.length; have := h.len; show (keepTo P g.c g.c.length).length ≤ 4; omega, en := fun x hx => h.en x (keepTo_mem P g.c _ (Nat.le_refl _) x hx) }
theorem GInv.forget {s : Pl} {g : Gs} {b : Mp} {W : Int} (h : GInv s g b W) (addr : Int) : GInv s (gForget g addr).2 b W := by
  unfold gForget
  split
  · exact h
  · exact h.keep _
theorem GInv.forgetAll {s : Pl} {g : Gs} {b : Mp} {W : Int} (h : GInv s g b W) (n : Int) : GInv s (gForgetAll g n).2 b W := by
  unfold gForgetAll
  split
  · exact h.keep _
  · exact h
end Go.Proofs.YtadpibcgjgcjhabGreatDoor
