/- Package host: how a host lies in memory; one guest's act. -/
import Derived.Test.YtadpibcgjgcjhabGreatDoorHrF
import Derived.Test.YtadpibcgjgcjhabGreatDoorGgL
import Derived.Test.YtadpibcgjgcjhabGreatDoorHoP
namespace Go.Proofs.YtadpibcgjgcjhabGreatDoor
open Go.ChangeShapes Go.WideShapes Go.ChangeAt Go.RowKit
set_option maxRecDepth 100000

/-- The blocks of a guest: itself, its pages, its cache. -/
structure G3 where
  g : Nat
  l : Nat
  c : Nat
def G3.has (q : G3) (k : Nat) : Prop := k = q.g ∨ k = q.l ∨ k = q.c
/-- A guest of package guest, without its pool. -/
structure GM1 (w : World) (bp : Nat) (q : G3) (x : Gs) : Prop where
  ce : GCell w q.g bp q.l q.c x.root x.walks
  lv : LvAt w q.l bp x.m
  ca : CaL w q.c (shows x.m x.c)
/-- A host of package host: its block bh, its pool bp with the frames bf, its guests' blocks G. -/
structure HM (w : World) (bh bp bf : Nat) (G : Nat → G3) (h : Hs) : Prop where
  c0 : w.cell? ⟨bh, 0, none⟩ = some (.pointer (some ⟨bp, 0, none⟩))
  cg : ∀ i, i < 4 → w.cell? ⟨bh, 1 + i, none⟩ = some (gPtr (h.g i) (G i).g)
  fz : ∀ o, w.frozen? ⟨bh, o, none⟩ = false
  pool : PoolAt w bp bf h.s
  gu : ∀ i x, h.g i = some x → GM1 w bp (G i) x
  ap : ∀ i x, h.g i = some x → GAp (G i).g bp bf (G i).l (G i).c
  hp : bh ≠ bp ∧ bh ≠ bf
  ne : ∀ i x, h.g i = some x → ¬ (G i).has bh
  nx : ∀ i j x y, h.g i = some x → h.g j = some y → i ≠ j → ∀ k, (G i).has k → ¬ (G j).has k
  hn : 0 < h.s.n
/-- The blocks of a host. -/
def Own (bh bp bf : Nat) (G : Nat → G3) (h : Hs) (k : Nat) : Prop := k = bh ∨ k = bp ∨ k = bf ∨ ∃ i x, h.g i = some x ∧ (G i).has k
variable {w w' : World} {bh bp bf : Nat} {G G' : Nat → G3} {h h' : Hs} {n : Nat} {x : Gs} {s' : Pl} {x' : Gs} {b : Mp} {W : Int}
theorem HM.lt (m : HM w bh bp bf G h) : bh < w.heap.size ∧ bp < w.heap.size ∧ bf < w.heap.size := ⟨World.block_lt_of_cell? w _ m.c0, m.pool.ltp, m.pool.lt m.hn⟩
theorem HM.gLt (m : HM w bh bp bf G h) {i k : Nat} (hx : h.g i = some x) (hk : (G i).has k) : k < w.heap.size := by
  have q := m.gu i x hx
  rcases hk with e | e | e
  · rw [e]; exact q.ce.lt
  · rw [e]; exact q.lv.lt
  · rw [e]; exact q.ca.lt
theorem HM.ownLt (m : HM w bh bp bf G h) {k : Nat} (hk : Own bh bp bf G h k) : k < w.heap.size := by
  have := m.lt
  rcases hk with e | e | e | ⟨i, x, hx, e⟩
  · omega
  · omega
  · omega
  · exact m.gLt hx e
theorem GM1.upd {S : Nat → Prop} {q : G3} (m : GM1 w bp q x) (u : Upd S w w') (hS : ∀ k, q.has k → ¬ S k) : GM1 w' bp q x :=
  ⟨m.ce.upd u (hS _ (Or.inl rfl)), m.lv.upd u (hS _ (Or.inr (Or.inl rfl))), m.ca.upd u (hS _ (Or.inr (Or.inr rfl)))⟩
/-- Elsewhere something turned. -/
theorem HM.upd {S : Nat → Prop} (m : HM w bh bp bf G h) (u : Upd S w w') (hS : ∀ k, Own bh bp bf G h k → ¬ S k) : HM w' bh bp bf G h := by
  have hb := hS bh (Or.inl rfl)
  exact ⟨u.cell m.c0 hb, fun i hi => u.cell (m.cg i hi) hb, fun o => by rw [World.frozen?_of_block (w := w) (u.block bh m.lt.1 hb)]; exact m.fz o, m.pool.upd u (hS bp (Or.inr (Or.inl rfl))) (hS bf (Or.inr (Or.inr (Or.inl rfl)))) m.lt.2.2,
    fun i x hx => (m.gu i x hx).upd u (fun k hk => hS k (Or.inr (Or.inr (Or.inr ⟨i, x, hx, hk⟩)))), m.ap, m.hp, m.ne, m.nx, m.hn⟩
theorem HM.same (m : HM w bh bp bf G h) (u : Upd (fun _ => False) w w') : HM w' bh bp bf G h := m.upd u (fun _ _ f => f)
theorem HM.drew (m : HM w bh bp bf G h) : HM w.drew bh bp bf G h := m.same (Upd.refl _ _).drew
/-- A guest with its pool. -/
theorem HM.gg (m : HM w bh bp bf G h) (hi : HInv h W) (hx : h.g n = some x) : GG w (G n).g bp bf (G n).l (G n).c h.s x (oth h n) W :=
  ⟨(m.gu n x hx).ce, m.pool, (m.gu n x hx).lv, (m.gu n x hx).ca, m.ap n x hx, hi.ginv hx, (hi.gi n x hx).2.di, m.hn⟩
theorem own_put {r : Pl × Gs} {k : Nat} (hx : h.g n = some x) (hk : Own bh bp bf G (h.put n r) k) : Own bh bp bf G h k := by
  rcases hk with e | e | e | ⟨i, y, hy, e⟩
  · exact Or.inl e
  · exact Or.inr (Or.inl e)
  · exact Or.inr (Or.inr (Or.inl e))
  · by_cases ei : i = n
    · subst ei; exact Or.inr (Or.inr (Or.inr ⟨i, x, hx, e⟩))
    · exact Or.inr (Or.inr (Or.inr ⟨i, y, by rw [← hy]; exact (setAt_other _ _ _ _ ei).symm, e⟩))
theorem gft_own (hx : h.g n = some x) {k : Nat} (hk : GFt (G n).g bf (G n).l (G n).c k) : Own bh bp bf G h k := by
  rcases hk with e | e | e | e
  · exact Or.inr (Or.inr (Or.inl e))
  · exact Or.inr (Or.inr (Or.inr ⟨n, x, hx, Or.inr (Or.inl e)⟩))
  · exact Or.inr (Or.inr (Or.inr ⟨n, x, hx, Or.inr (Or.inr e)⟩))
  · exact Or.inr (Or.inr (Or.inr ⟨n, x, hx, Or.inl e⟩))
/-- One guest's act. -/
theorem HM.act (m : HM w bh bp bf G h) (hx : h.g n = some x) (g : GG w' (G n).g bp bf (G n).l (G n).c s' x' b W) (u : Upd (GFt (G n).g bf (G n).l (G n).c) w w') : HM w' bh bp bf G (h.put n (s', x')) := by
  have ha := m.ap n x hx
  have hne : ∀ i y, (h.put n (s', x')).g i = some y → i ≠ n → h.g i = some y := fun i y hy e => by rw [← hy]; exact (setAt_other _ _ _ _ e).symm
  have hany : ∀ i y, (h.put n (s', x')).g i = some y → ∃ z, h.g i = some z := fun i y hy => by
    by_cases e : i = n
    · subst e; exact ⟨x, hx⟩
    · exact ⟨y, hne i y hy e⟩
  have hbh : ¬ GFt (G n).g bf (G n).l (G n).c bh := fun e => by
    have h1 := m.ne n x hx
    have h2 := m.hp
    rcases e with e | e | e | e
    · exact h2.2 e
    · exact h1 (Or.inr (Or.inl e))
    · exact h1 (Or.inr (Or.inr e))
    · exact h1 (Or.inl e)
  refine ⟨u.cell m.c0 hbh, fun i hi => ?_, fun o => ?_, g.pool, fun i y hy => ?_, fun i y hy => ?_, m.hp, fun i y hy => ?_, fun i j y z hy hz e => ?_, g.hn⟩
  · rw [u.cell (m.cg i hi) hbh]
    by_cases e : i = n
    · subst e
      rw [put_at, hx]; rfl
    · rw [show (h.put n (s', x')).g i = h.g i from setAt_other _ _ _ _ e]
  · rw [World.frozen?_of_block (w := w) (u.block bh m.lt.1 hbh)]; exact m.fz o
  · by_cases e : i = n
    · subst e
      rw [put_at] at hy
      cases hy
      exact ⟨g.ce, g.lv, g.ca⟩
    · have hy' := hne i y hy e
      refine (m.gu i y hy').upd u (fun k hk hf => ?_)
      have h1 := m.nx i n y x hy' hx e k hk
      have h2 := m.ap i y hy'
      unfold GAp at h2
      rcases hf with e | e | e | e
      · rcases hk with f | f | f <;> omega
      · exact h1 (Or.inr (Or.inl e))
      · exact h1 (Or.inr (Or.inr e))
      · exact h1 (Or.inl e)
  · obtain ⟨z, hz⟩ := hany i y hy
    exact m.ap i z hz
  · obtain ⟨z, hz⟩ := hany i y hy
    exact m.ne i z hz
  · obtain ⟨y', hy'⟩ := hany i y hy
    obtain ⟨z', hz'⟩ := hany j z hz
    exact m.nx i j y' z' hy' hz' e
/-- How an act of a host ends. -/
def MPost (w : World) (bh bp bf : Nat) (G : Nat → G3) (h : Hs) (r : Int × Hs) (e : Ending) (w' : World) : Prop :=
  e = .returned (errV r.1) ∧ HM w' bh bp bf G r.2 ∧ Upd (Own bh bp bf G h) w w'
/-- What is only read. -/
def MRead (w : World) (v : Value) (e : Ending) (w' : World) : Prop := e = .returned v ∧ Upd (fun _ => False) w w'
theorem HM.cNone (m : HM w bh bp bf G h) {k : Nat} (hk : k < 4) (hx : h.g k = none) : w.cell? ⟨bh, 1 + k, none⟩ = some (.pointer none) := by
  have := m.cg k hk
  rw [hx] at this
  exact this
theorem HM.cSome (m : HM w bh bp bf G h) {k : Nat} (hk : k < 4) {x : Gs} (hx : h.g k = some x) : w.cell? ⟨bh, 1 + k, none⟩ = some (.pointer (some ⟨(G k).g, 0, none⟩)) := by
  have := m.cg k hk
  rw [hx] at this
  exact this
/-- One guest's act, called. -/
theorem HM.go {f : Nat} {av : Array Value} {res : Int × Pl × Gs} {W' : Int} (m : HM w bh bp bf G h) (hi : HInv h W) (hx : h.g n = some x) (hc : GG w (G n).g bp bf (G n).l (G n).c h.s x (oth h n) W → Calls Tryz.prog f av w (GPost w (G n).g bp bf (G n).l (G n).c res (oth h n) W')) :
    Calls Tryz.prog f av w (MPost w bh bp bf G h (res.1, h.put n res.2)) := by
  refine (hc (m.gg hi hx)).mono ?_
  rintro e w' ⟨he, hg, hu⟩
  exact ⟨he, m.act hx hg hu, hu.wide (fun k hk => gft_own hx hk)⟩
end Go.Proofs.YtadpibcgjgcjhabGreatDoor
