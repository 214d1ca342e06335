/- Package guest: Cached, whole; New, Copy. -/
import Derived.Test.YtadpibcgjgcjhabGreatDoorPart14
import Derived.Test.YtadpibcgjgcjhabGreatDoorPart04
import Derived.Test.YtadpibcgjgcjhabGreatDoorPart11
namespace Go.Proofs.YtadpibcgjgcjhabGreatDoor
open Go.ChangeShapes Go.WideShapes Go.ChangeAt Go.RowKit Go.Shelf
set_option maxRecDepth 1000000
attribute [local go_sem ↓] Go.wp_at_zero Go.wp_at_succ
variable {w w' : World} {bg bp bf bl bc : Nat} {s : Pl} {g : Gs} {b : Mp} {W : Int}
theorem GCell.new (w : World) (bp bl bc : Nat) (r k : Int) (t : TypeId) : GCell (w.alloc (.cells #[.pointer (some ⟨bp, 0, none⟩), .pointer (some ⟨bl, 0, none⟩), .pointer (some ⟨bc, 0, none⟩), .int .i64 r, .int .i64 k] t)) w.heap.size bp bl bc r k :=
  ⟨by rw [World.cell?_alloc_new]; rfl, by rw [World.cell?_alloc_new]; rfl, by rw [World.cell?_alloc_new]; rfl, by rw [World.cell?_alloc_new]; rfl, by rw [World.cell?_alloc_new]; rfl, fun _ => World.frozen?_alloc_new _ _ _ _⟩
theorem gNew (w : World) (bp : Nat) : Calls Tryz.prog 76 #[.pointer (some ⟨bp, 0, none⟩)] w fun e w' => ∃ bg bl bc, e = .returned (.tuple #[.pointer (some ⟨bg, 0, none⟩), .nilIface]) ∧ GCell w' bg bp bl bc (-1) 0 ∧ LvAt w' bl bp mp0 ∧ CaL w' bc [] ∧ w.heap.size ≤ bl ∧ w.heap.size ≤ bg ∧ w.heap.size ≤ bc ∧ bg ≠ bl ∧ bg ≠ bc ∧ bl ≠ bc ∧ Upd (fun _ => False) w w' := by
  have HN : Hid _ := lvNew w bp
  go_enter Tryz.func76, Tryz.ntmps76
  go_wp2_with fail
  refine Calls.mono HN.out ?_
  rintro e w1 ⟨bl, rfl, hl, hz, hu⟩
  go_wp2_with fail
  have hcz := zero_at w1 165
  have u1 := (Upd.refl (fun _ => False) w1).alloc (.cells zeroCa 165)
  have hgc := GCell.new (w1.alloc (.cells zeroCa 165)) bp bl w1.heap.size (-1) 0 167
  have u2 := (Upd.refl (fun _ => False) (w1.alloc (.cells zeroCa 165))).alloc (.cells #[.pointer (some ⟨bp, 0, none⟩), .pointer (some ⟨bl, 0, none⟩), .pointer (some ⟨w1.heap.size, 0, none⟩), .int .i64 (-1), .int .i64 0] 167)
  have hbl := hl.lt
  have hs := hu.size
  have hca : CaL (w1.alloc (.cells zeroCa 165)) w1.heap.size [] := ⟨_, hcz, fun i hi => absurd hi (by simp)⟩
  rw [World.size_alloc] at hgc
  have hcu := hca.upd u2 (fun f => f)
  have hlu := (hl.upd u1 (fun f => f)).upd u2 (fun f => f)
  have huu := (hu.trans u1 (fun _ _ f => f)).trans u2 (fun _ _ f => f)
  go_ret2
  exact ⟨w1.heap.size + 1, bl, w1.heap.size, rfl, hgc, hlu, hcu, hz, by omega, by omega, by omega, by omega, by omega, huu⟩
end Go.Proofs.YtadpibcgjgcjhabGreatDoor
/- The box of a leaf. -/
namespace Go.Proofs.YtadpibcgjgcjhabGreatDoor
open Go.ChangeShapes Go.WideShapes Go.ChangeAt Go.RowKit

/-- The box of a leaf, as it is made. -/
theorem box0 (w0 : World) (t : TypeId) : (w0.alloc (.cells #[.bool false, .bool false, .int .i64 0] t)).cell? ⟨w0.heap.size, 0, none⟩ = some (.bool false) ∧ (w0.alloc (.cells #[.bool false, .bool false, .int .i64 0] t)).cell? ⟨w0.heap.size, 1, none⟩ = some (.bool false) ∧
    (w0.alloc (.cells #[.bool false, .bool false, .int .i64 0] t)).cell? ⟨w0.heap.size, 2, none⟩ = some (.int .i64 0) ∧ (w0.alloc (.cells #[.bool false, .bool false, .int .i64 0] t)).frozen? ⟨w0.heap.size, 0, none⟩ = false ∧ (w0.alloc (.cells #[.bool false, .bool false, .int .i64 0] t)).frozen? ⟨w0.heap.size, 1, none⟩ = false ∧ (w0.alloc (.cells #[.bool false, .bool false, .int .i64 0] t)).frozen? ⟨w0.heap.size, 2, none⟩ = false := by
  refine ⟨?_, ?_, ?_, World.frozen?_alloc_new _ _ _ _, World.frozen?_alloc_new _ _ _ _, World.frozen?_alloc_new _ _ _ _⟩
  all_goals rw [World.cell?_alloc_new]; rfl
end Go.Proofs.YtadpibcgjgcjhabGreatDoor
/- Package host: how a host lies in memory; one guest's act. -/
namespace Go.Proofs.YtadpibcgjgcjhabGreatDoor
open Go.ChangeShapes Go.WideShapes Go.ChangeAt Go.RowKit
set_option maxRecDepth 100000

/-- The blocks of a guest: itself, its pages, its cache. -/
structure G3 where
  g : Nat
  l : Nat
  c : Nat
def G3.has (q : G3) (k : Nat) : Prop := k = q.g ∨ k = q.l ∨ k = q.c
/-- A guest of package guest, without its pool. -/
structure GM1 (w : World) (bp : Nat) (q : G3) (x : Gs) : Prop where
  ce : GCell w q.g bp q.l q.c x.root x.walks
  lv : LvAt w q.l bp x.m
  ca : CaL w q.c (shows x.m x.c)
/-- A host of package host: its block bh, its pool bp with the frames bf, its guests' blocks G. -/
structure HM (w : World) (bh bp bf : Nat) (G : Nat → G3) (h : Hs) : Prop where
  c0 : w.cell? ⟨bh, 0, none⟩ = some (.pointer (some ⟨bp, 0, none⟩))
  cg : ∀ i, i < 4 → w.cell? ⟨bh, 1 + i, none⟩ = some (gPtr (h.g i) (G i).g)
  fz : ∀ o, w.frozen? ⟨bh, o, none⟩ = false
  pool : PoolAt w bp bf h.s
  gu : ∀ i x, h.g i = some x → GM1 w bp (G i) x
  ap : ∀ i x, h.g i = some x → GAp (G i).g bp bf (G i).l (G i).c
  hp : bh ≠ bp ∧ bh ≠ bf
  ne : ∀ i x, h.g i = some x → ¬ (G i).has bh
  nx : ∀ i j x y, h.g i = some x → h.g j = some y → i ≠ j → ∀ k, (G i).has k → ¬ (G j).has k
  hn : 0 < h.s.n
/-- The blocks of a host. -/
def Own (bh bp bf : Nat) (G : Nat → G3) (h : Hs) (k : Nat) : Prop := k = bh ∨ k = bp ∨ k = bf ∨ ∃ i x, h.g i = some x ∧ (G i).has k
variable {w w' : World} {bh bp bf : Nat} {G G' : Nat → G3} {h h' : Hs} {n : Nat} {x : Gs} {s' : Pl} {x' : Gs} {b : Mp} {W : Int}
theorem HM.lt (m : HM w bh bp bf G h) : bh < w.heap.size ∧ bp < w.heap.size ∧ bf < w.heap.size := ⟨World.block_lt_of_cell? w _ m.c0, m.pool.ltp, m.pool.lt m.hn⟩
theorem HM.gLt (m : HM w bh bp bf G h) {i k : Nat} (hx : h.g i = some x) (hk : (G i).has k) : k < w.heap.size := by
  have q := m.gu i x hx
  rcases hk with e | e | e
  · rw [e]; exact q.ce.lt
  · rw [e]; exact q.lv.lt
  · rw [e]; exact q.ca.lt
theorem HM.ownLt (m : HM w bh bp bf G h) {k : Nat} (hk : Own bh bp bf G h k) : k < w.heap.size := by
  have := m.lt
  rcases hk with e | e | e | ⟨i, x, hx, e⟩
  · omega
  · omega
  · omega
  · exact m.gLt hx e
theorem GM1.upd {S : Nat → Prop} {q : G3} (m : GM1 w bp q x) (u : Upd S w w') (hS : ∀ k, q.has k → ¬ S k) : GM1 w' bp q x :=
  ⟨m.ce.upd u (hS _ (Or.inl rfl)), m.lv.upd u (hS _ (Or.inr (Or.inl rfl))), m.ca.upd u (hS _ (Or.inr (Or.inr rfl)))⟩
/-- Elsewhere something turned. -/
theorem HM.upd {S : Nat → Prop} (m : HM w bh bp bf G h) (u : Upd S w w') (hS : ∀ k, Own bh bp bf G h k → ¬ S k) : HM w' bh bp bf G h := by
  have hb := hS bh (Or.inl rfl)
  exact ⟨u.cell m.c0 hb, fun i hi => u.cell (m.cg i hi) hb, fun o => by rw [World.frozen?_of_block (w := w) (u.block bh m.lt.1 hb)]; exact m.fz o, m.pool.upd u (hS bp (Or.inr (Or.inl rfl))) (hS bf (Or.inr (Or.inr (Or.inl rfl)))) m.lt.2.2,
    fun i x hx => (m.gu i x hx).upd u (fun k hk => hS k (Or.inr (Or.inr (Or.inr ⟨i, x, hx, hk⟩)))), m.ap, m.hp, m.ne, m.nx, m.hn⟩
theorem HM.same (m : HM w bh bp bf G h) (u : Upd (fun _ => False) w w') : HM w' bh bp bf G h := m.upd u (fun _ _ f => f)
theorem HM.drew (m : HM w bh bp bf G h) : HM w.drew bh bp bf G h := m.same (Upd.refl _ _).drew
/-- A guest with its pool. -/
theorem HM.gg (m : HM w bh bp bf G h) (hi : HInv h W) (hx : h.g n = some x) : GG w (G n).g bp bf (G n).l (G n).c h.s x (oth h n) W :=
  ⟨(m.gu n x hx).ce, m.pool, (m.gu n x hx).lv, (m.gu n x hx).ca, m.ap n x hx, hi.ginv hx, (hi.gi n x hx).2.di, m.hn⟩
theorem own_put {r : Pl × Gs} {k : Nat} (hx : h.g n = some x) (hk : Own bh bp bf G (h.put n r) k) : Own bh bp bf G h k := by
  rcases hk with e | e | e | ⟨i, y, hy, e⟩
  · exact Or.inl e
  · exact Or.inr (Or.inl e)
  · exact Or.inr (Or.inr (Or.inl e))
  · by_cases ei : i = n
    · subst ei; exact Or.inr (Or.inr (Or.inr ⟨i, x, hx, e⟩))
    · exact Or.inr (Or.inr (Or.inr ⟨i, y, by rw [← hy]; exact (setAt_other _ _ _ _ ei).symm, e⟩))
theorem gft_own (hx : h.g n = some x) {k : Nat} (hk : GFt (G n).g bf (G n).l (G n).c k) : Own bh bp bf G h k := by
  rcases hk with e | e | e | e
  · exact Or.inr (Or.inr (Or.inl e))
  · exact Or.inr (Or.inr (Or.inr ⟨n, x, hx, Or.inr (Or.inl e)⟩))
  · exact Or.inr (Or.inr (Or.inr ⟨n, x, hx, Or.inr (Or.inr e)⟩))
  · exact Or.inr (Or.inr (Or.inr ⟨n, x, hx, Or.inl e⟩))
/-- One guest's act. -/
theorem HM.act (m : HM w bh bp bf G h) (hx : h.g n = some x) (g : GG w' (G n).g bp bf (G n).l (G n).c s' x' b W) (u : Upd (GFt (G n).g bf (G n).l (G n).c) w w') : HM w' bh bp bf G (h.put n (s', x')) := by
  have ha := m.ap n x hx
  have hne : ∀ i y, (h.put n (s', x')).g i = some y → i ≠ n → h.g i = some y := fun i y hy e => by rw [← hy]; exact (setAt_other _ _ _ _ e).symm
  have hany : ∀ i y, (h.put n (s', x')).g i = some y → ∃ z, h.g i = some z := fun i y hy => by
    by_cases e : i = n
    · subst e; exact ⟨x, hx⟩
    · exact ⟨y, hne i y hy e⟩
  have hbh : ¬ GFt (G n).g bf (G n).l (G n).c bh := fun e => by
    have h1 := m.ne n x hx
    have h2 := m.hp
    rcases e with e | e | e | e
    · exact h2.2 e
    · exact h1 (Or.inr (Or.inl e))
    · exact h1 (Or.inr (Or.inr e))
    · exact h1 (Or.inl e)
  refine ⟨u.cell m.c0 hbh, fun i hi => ?_, fun o => ?_, g.pool, fun i y hy => ?_, fun i y hy => ?_, m.hp, fun i y hy => ?_, fun i j y z hy hz e => ?_, g.hn⟩
  · rw [u.cell (m.cg i hi) hbh]
    by_cases e : i = n
    · subst e
      rw [put_at, hx]; rfl
    · rw [show (h.put n (s', x')).g i = h.g i from setAt_other _ _ _ _ e]
  · rw [World.frozen?_of_block (w := w) (u.block bh m.lt.1 hbh)]; exact m.fz o
  · by_cases e : i = n
    · subst e
      rw [put_at] at hy
      cases hy
      exact ⟨g.ce, g.lv, g.ca⟩
    · have hy' := hne i y hy e
      refine (m.gu i y hy').upd u (fun k hk hf => ?_)
      have h1 := m.nx i n y x hy' hx e k hk
      have h2 := m.ap i y hy'
      unfold GAp at h2
      rcases hf with e | e | e | e
      · rcases hk with f | f | f <;> omega
      · exact h1 (Or.inr (Or.inl e))
      · exact h1 (Or.inr (Or.inr e))
      · exact h1 (Or.inl e)
  · obtain ⟨z, hz⟩ := hany i y hy
    exact m.ap i z hz
  · obtain ⟨z, hz⟩ := hany i y hy
    exact m.ne i z hz
  · obtain ⟨y', hy'⟩ := hany i y hy
    obtain ⟨z', hz'⟩ := hany j z hz
    exact m.nx i j y' z' hy' hz' e
/-- How an act of a host ends. -/
def MPost (w : World) (bh bp bf : Nat) (G : Nat → G3) (h : Hs) (r : Int × Hs) (e : Ending) (w' : World) : Prop :=
  e = .returned (errV r.1) ∧ HM w' bh bp bf G r.2 ∧ Upd (Own bh bp bf G h) w w'
/-- What is only read. -/
def MRead (w : World) (v : Value) (e : Ending) (w' : World) : Prop := e = .returned v ∧ Upd (fun _ => False) w w'
theorem HM.cNone (m : HM w bh bp bf G h) {k : Nat} (hk : k < 4) (hx : h.g k = none) : w.cell? ⟨bh, 1 + k, none⟩ = some (.pointer none) := by
  have := m.cg k hk
  rw [hx] at this
  exact this
theorem HM.cSome (m : HM w bh bp bf G h) {k : Nat} (hk : k < 4) {x : Gs} (hx : h.g k = some x) : w.cell? ⟨bh, 1 + k, none⟩ = some (.pointer (some ⟨(G k).g, 0, none⟩)) := by
  have := m.cg k hk
  rw [hx] at this
  exact this
/-- One guest's act, called. -/
theorem HM.go {f : Nat} {av : Array Value} {res : Int × Pl × Gs} {W' : Int} (m : HM w bh bp bf G h) (hi : HInv h W) (hx : h.g n = some x) (hc : GG w (G n).g bp bf (G n).l (G n).c h.s x (oth h n) W → Calls Tryz.prog f av w (GPost w (G n).g bp bf (G n).l (G n).c res (oth h n) W')) :
    Calls Tryz.prog f av w (MPost w bh bp bf G h (res.1, h.put n res.2)) := by
  refine (hc (m.gg hi hx)).mono ?_
  rintro e w' ⟨he, hg, hu⟩
  exact ⟨he, m.act hx hg hu, hu.wide (fun k hk => gft_own hx hk)⟩
end Go.Proofs.YtadpibcgjgcjhabGreatDoor
/- Package host: whom a number names; what one guest does. -/
namespace Go.Proofs.YtadpibcgjgcjhabGreatDoor
open Go.ChangeShapes Go.WideShapes Go.ChangeAt Go.RowKit
set_option maxRecDepth 100000
attribute [local go_sem ↓] Go.wp_at_zero Go.wp_at_succ
variable {w w' : World} {bh bp bf : Nat} {G G' : Nat → G3} {h h' : Hs} {x : Gs} {s' : Pl} {x' : Gs} {b : Mp} {W : Int}

theorem guest_no (m : HM w bh bp bf G h) (n : Int) (h0 : 0 < hWho h n) : Calls Tryz.prog 77 #[.pointer (some ⟨bh, 0, none⟩), .int .i64 n] w (MRead w (.tuple #[.pointer none, .iface 37 (.int .i64 (hWho h n))])) := by
  by_cases ho : n < 0 ∨ 3 < n
  · have hw : hWho h n = 1 := by unfold hWho; rw [if_pos ho]
    rw [hw]
    clear hw h0 m
    rcases ho with h0 | h0
    · have d0 : decide (n < 0) = true := by simp; omega
      go_enter Tryz.func77, Tryz.ntmps77
      go_wp2_with fail
      go_ret2
      exact ⟨rfl, Upd.refl _ _⟩
    · have d0 : decide (n < 0) = false := by simp; omega
      have d1 : decide (4 ≤ n) = true := by simp; omega
      go_enter Tryz.func77, Tryz.ntmps77
      go_wp2_with fail
      go_ret2
      exact ⟨rfl, Upd.refl _ _⟩
  · obtain ⟨k, rfl⟩ := Int.eq_ofNat_of_zero_le (show 0 ≤ n by omega)
    have hk : k < 4 := by omega
    have d0 : decide ((k : Int) < 0) = false := by simp
    have d1 : decide ((4 : Int) ≤ (k : Int)) = false := by simp; omega
    have k0 : (0 : Int) ≤ (k : Int) := by omega
    have k1 : (k : Int) < 4 := by omega
    cases hx : h.g k with
    | none =>
      have hw : hWho h k = 2 := by unfold hWho; rw [if_neg ho, Int.toNat_natCast, hx]
      have c := m.cNone hk hx
      rw [hw]
      clear hw m hx ho h0
      go_enter Tryz.func77, Tryz.ntmps77
      go_wp2_with fail
      go_ret2
      exact ⟨rfl, Upd.refl _ _⟩
    | some x =>
      have hw : hWho h k = 0 := (hWho_some hx hk).1
      omega
theorem guest_yes {k : Nat} (m : HM w bh bp bf G h) (hk : k < 4) (hx : h.g k = some x) : Calls Tryz.prog 77 #[.pointer (some ⟨bh, 0, none⟩), .int .i64 (k : Int)] w (MRead w (.tuple #[.pointer (some ⟨(G k).g, 0, none⟩), .nilIface])) := by
  have d0 : decide ((k : Int) < 0) = false := by simp
  have d1 : decide ((4 : Int) ≤ (k : Int)) = false := by simp; omega
  have k0 : (0 : Int) ≤ (k : Int) := by omega
  have k1 : (k : Int) < 4 := by omega
  have c := m.cSome hk hx
  clear m hx
  go_enter Tryz.func77, Tryz.ntmps77
  go_wp2_with fail
  go_ret2
  exact ⟨rfl, Upd.refl _ _⟩
theorem errV_who {n : Int} (h0 : 0 < hWho h n) : errV (hWho h n) = .iface 37 (.int .i64 (hWho h n)) := errV_no (by omega)
theorem MRead.no (S : Nat → Prop) (u : Upd (fun _ => False) w w') : Upd S w w' := u.wide (fun _ f => f.elim)
/-- What State and Leaf of a guest answer. -/
theorem GG.stateAny {bg bl bc : Nat} {s : Pl} (hg : GG w bg bp bf bl bc s x b W) (n : Int) : Calls Tryz.prog 111 #[.pointer (some ⟨bg, 0, none⟩), .int .i64 n] w (MRead w (.tuple #[.int .i64 (stR x.m n).1, errV (stR x.m n).2])) := by
  have c := hg.ce.c1
  have HS : Hid _ := lvState w bl bp n x.m hg.lv
  clear hg
  generalize stR x.m n = r at *
  obtain ⟨r1, r2⟩ := r
  generalize errV (r1, r2).2 = ev at *
  go_enter Tryz.func111, Tryz.ntmps111
  go_wp2_with fail
  refine Calls.mono HS.out ?_
  rintro e w1 ⟨rfl, hu⟩
  go_wp2_with fail
  go_ret2
  exact ⟨rfl, hu⟩
set_option maxHeartbeats 1000000 in
theorem GG.leafAny {bg bl bc : Nat} {s : Pl} (hg : GG w bg bp bf bl bc s x b W) (n : Int) : Calls Tryz.prog 112 #[.pointer (some ⟨bg, 0, none⟩), .int .i64 n] w (MRead w (.tuple #[.agg #[.bool (lfR x.m n).1.there, .bool (lfR x.m n).1.wr, .int .i64 (lfR x.m n).1.fr], errV (lfR x.m n).2])) := by
  have u1 := (Upd.refl (fun _ => False) w).alloc (.cells #[.bool false, .bool false, .int .i64 0] 92)
  have c := (hg.same u1).ce.c1
  have HL : Hid _ := lvLeaf _ bl bp n x.m (hg.same u1).lv
  have hla := LfAt.new w 92 lf0
  have hlz : ∀ o, (w.alloc (.cells #[.bool false, .bool false, .int .i64 0] 92)).frozen? ⟨w.heap.size, o, none⟩ = false := fun o => World.frozen?_alloc_new _ _ _ _
  have HLA : Hid (LfAt (w.alloc (.cells #[.bool false, .bool false, .int .i64 0] 92)) w.heap.size lf0) := hla
  have HLZ : Hid _ := hlz
  have HU1 : Hid _ := u1
  have HSZ : Hid (w.heap.size < (w.alloc (.cells #[.bool false, .bool false, .int .i64 0] 92)).heap.size) := show _ < _ by simp
  clear hg u1 hla hlz
  generalize lfR x.m n = r at *
  obtain ⟨l, r2⟩ := r
  generalize errV (l, r2).2 = ev at *
  go_enter Tryz.func112, Tryz.ntmps112
  go_wp2_with fail
  refine Calls.mono HL.out ?_
  rintro e w1 ⟨rfl, hu⟩
  obtain ⟨y0, y1, y2⟩ := HLA.out.upd hu (fun f => f)
  have z0 : ∀ o, w1.frozen? ⟨w.heap.size, o, none⟩ = false := fun o => by rw [World.frozen?_of_block (hu.block w.heap.size HSZ.out (fun f => f))]; exact HLZ.out o
  have z1 := z0 0
  have z2 := z0 1
  have z3 := z0 2
  have HU : Hid _ := HU1.out.trans hu (fun _ _ f => f)
  have HU2 : Hid (Upd (fun k => k = w.heap.size) w1 (((w1.setCell ⟨w.heap.size, 0, none⟩ (.bool l.there)).setCell ⟨w.heap.size, 1, none⟩ (.bool l.wr)).setCell ⟨w.heap.size, 2, none⟩ (.int .i64 l.fr))) := Upd.three w1 w.heap.size 0 1 2 _ _ _
  clear z0 hu HU1 HLA HLZ HL
  go_wp2_with fail
  refine bodyPost_ret (v := .tuple #[.agg #[.bool l.there, .bool l.wr, .int .i64 l.fr], ev]) (by simp [results, Tryz.results112, go_sem, y0, y1, y2]) rfl ⟨rfl, HU.out.trans HU2.out (fun i hi e => by omega)⟩
/-- What a host's State and Leaf answer. -/
def hState (h : Hs) (n p : Int) : Int × Int := if 0 < hWho h n then (0, hWho h n) else stR (hAt h n).m p
def hLeaf (h : Hs) (n p : Int) : Lf × Int := if 0 < hWho h n then (lf0, hWho h n) else lfR (hAt h n).m p
theorem hState_any (m : HM w bh bp bf G h) (hi : HInv h W) (n p : Int) : Calls Tryz.prog 81 #[.pointer (some ⟨bh, 0, none⟩), .int .i64 n, .int .i64 p] w (MRead w (.tuple #[.int .i64 (hState h n p).1, errV (hState h n p).2])) := by
  unfold hState
  have HMM : Hid (HM w bh bp bf G h) := m
  by_cases h0 : 0 < hWho h n
  · rw [if_pos h0]
    have HG : Hid _ := guest_no m n h0
    have HE : Hid _ := errV_who h0
    clear m hi h0
    go_enter Tryz.func81, Tryz.ntmps81
    go_wp2_with fail
    refine Calls.mono HG.out ?_
    rintro e w1 ⟨rfl, hu⟩
    go_wp2_with fail
    go_ret2
    exact ⟨by rw [HE.out]; first | done | rfl, hu⟩
  · rw [if_neg h0]
    obtain ⟨k, x, rfl, hk, hx, hat⟩ := hWho_zero (show hWho h n = 0 by have := hWho_le (h := h) n; omega)
    rw [hat]
    have HG : Hid _ := guest_yes m hk hx
    have HS : Hid (∀ w1, Upd (fun _ => False) w w1 → Calls Tryz.prog 111 #[.pointer (some ⟨(G k).g, 0, none⟩), .int .i64 p] w1 (MRead w1 (.tuple #[.int .i64 (stR x.m p).1, errV (stR x.m p).2]))) := fun w1 hu => ((m.same hu).gg hi hx).stateAny p
    clear m hi h0 hx hat
    revert HS
    generalize stR x.m p = r
    obtain ⟨r1, r2⟩ := r
    generalize errV (r1, r2).2 = ev
    intro HS
    go_enter Tryz.func81, Tryz.ntmps81
    go_wp2_with fail
    refine Calls.mono HG.out ?_
    rintro e w1 ⟨rfl, hu⟩
    go_wp2_with fail
    refine Calls.mono (HS.out w1 hu) ?_
    rintro e w2 ⟨rfl, hu2⟩
    go_wp2_with fail
    go_ret2
    exact ⟨rfl, hu.trans hu2 (fun _ _ f => f)⟩
theorem hGive_m (m : HM w bh bp bf G h) (hi : HInv h W) (n : Int) (p : Int) : Calls Tryz.prog 92 #[.pointer (some ⟨bh, 0, none⟩), .int .i64 n, .int .i64 p] w (MPost w bh bp bf G h (hAct h n fun s x => gGive s x p false)) := by
  have HMM : Hid (HM w bh bp bf G h) := m
  unfold hAct
  by_cases h0 : 0 < hWho h n
  · rw [if_pos h0]
    have HG : Hid _ := guest_no m n h0
    have HE : Hid _ := errV_who h0
    clear m hi h0
    go_enter Tryz.func92, Tryz.ntmps92
    go_wp2_with fail
    refine Calls.mono HG.out ?_
    rintro e w1 ⟨rfl, hu⟩
    go_wp2_with fail
    go_ret
    exact ⟨by rw [HE.out]; first | done | rfl, HMM.out.same hu, MRead.no _ hu⟩
  · rw [if_neg h0]
    obtain ⟨k, x, rfl, hk, hx, hat⟩ := hWho_zero (show hWho h n = 0 by have := hWho_le (h := h) n; omega)
    rw [hat, Int.toNat_natCast]
    have HG : Hid _ := guest_yes m hk hx
    have HX : Hid (h.g k = some x) := hx
    have HI : Hid (HInv h W) := hi
    clear m hi h0 hx hat
    go_enter Tryz.func92, Tryz.ntmps92
    go_wp2_with fail
    refine Calls.mono HG.out ?_
    rintro e w1 ⟨rfl, hu⟩
    have HS : Hid _ := (HMM.out.same hu).go HI.out HX.out (fun g => g.give p)
    go_wp2_with fail
    refine Calls.mono HS.out ?_
    rintro e w2 ⟨rfl, hm2, hu2⟩
    have HM2 : Hid _ := hm2
    have HU2 : Hid _ := hu2
    clear hm2 hu2 HS
    go_wp2_with fail
    go_ret
    exact ⟨rfl, HM2.out, (MRead.no _ hu).trans HU2.out (fun _ _ f => f)⟩
theorem hStore_m (m : HM w bh bp bf G h) (hi : HInv h W) (n : Int) (addr v : Int) (v0 : 0 ≤ v) (v1 : v ≤ 255) (hW : W ≤ 1000000) : Calls Tryz.prog 126 #[.pointer (some ⟨bh, 0, none⟩), .int .i64 n, .int .i64 addr, .int .u8 v] w (MPost w bh bp bf G h (hStore h n addr v)) := by
  have HMM : Hid (HM w bh bp bf G h) := m
  unfold hStore hAct
  by_cases h0 : 0 < hWho h n
  · rw [if_pos h0]
    have HG : Hid _ := guest_no m n h0
    have HE : Hid _ := errV_who h0
    clear m hi h0
    go_enter Tryz.func126, Tryz.ntmps126
    go_wp2_with fail
    refine Calls.mono HG.out ?_
    rintro e w1 ⟨rfl, hu⟩
    go_wp2_with fail
    go_ret
    exact ⟨by rw [HE.out]; first | done | rfl, HMM.out.same hu, MRead.no _ hu⟩
  · rw [if_neg h0]
    obtain ⟨k, x, rfl, hk, hx, hat⟩ := hWho_zero (show hWho h n = 0 by have := hWho_le (h := h) n; omega)
    rw [hat, Int.toNat_natCast]
    have HG : Hid _ := guest_yes m hk hx
    have HX : Hid (h.g k = some x) := hx
    have HI : Hid (HInv h W) := hi
    clear m hi h0 hx hat
    go_enter Tryz.func126, Tryz.ntmps126
    go_wp2_with fail
    refine Calls.mono HG.out ?_
    rintro e w1 ⟨rfl, hu⟩
    have HS : Hid _ := (HMM.out.same hu).go HI.out HX.out (fun g => g.store addr v v0 v1 hW)
    go_wp2_with fail
    refine Calls.mono HS.out ?_
    rintro e w2 ⟨rfl, hm2, hu2⟩
    have HM2 : Hid _ := hm2
    have HU2 : Hid _ := hu2
    clear hm2 hu2 HS
    go_wp2_with fail
    go_ret
    exact ⟨rfl, HM2.out, (MRead.no _ hu).trans HU2.out (fun _ _ f => f)⟩
theorem hSetRoot_m (m : HM w bh bp bf G h) (hi : HInv h W) (n : Int) (p : Int) : Calls Tryz.prog 95 #[.pointer (some ⟨bh, 0, none⟩), .int .i64 n, .int .i64 p] w (MPost w bh bp bf G h (hRoot h n p)) := by
  have HMM : Hid (HM w bh bp bf G h) := m
  unfold hRoot hAct
  by_cases h0 : 0 < hWho h n
  · rw [if_pos h0]
    have HG : Hid _ := guest_no m n h0
    have HE : Hid _ := errV_who h0
    clear m hi h0
    go_enter Tryz.func95, Tryz.ntmps95
    go_wp2_with fail
    refine Calls.mono HG.out ?_
    rintro e w1 ⟨rfl, hu⟩
    go_wp2_with fail
    go_ret
    exact ⟨by rw [HE.out]; first | done | rfl, HMM.out.same hu, MRead.no _ hu⟩
  · rw [if_neg h0]
    obtain ⟨k, x, rfl, hk, hx, hat⟩ := hWho_zero (show hWho h n = 0 by have := hWho_le (h := h) n; omega)
    rw [hat, Int.toNat_natCast]
    have HG : Hid _ := guest_yes m hk hx
    have HX : Hid (h.g k = some x) := hx
    have HI : Hid (HInv h W) := hi
    clear m hi h0 hx hat
    go_enter Tryz.func95, Tryz.ntmps95
    go_wp2_with fail
    refine Calls.mono HG.out ?_
    rintro e w1 ⟨rfl, hu⟩
    have HS : Hid _ := (HMM.out.same hu).go HI.out HX.out (fun g => g.setRoot p)
    go_wp2_with fail
    refine Calls.mono HS.out ?_
    rintro e w2 ⟨rfl, hm2, hu2⟩
    have HM2 : Hid _ := hm2
    have HU2 : Hid _ := hu2
    clear hm2 hu2 HS
    go_wp2_with fail
    go_ret
    exact ⟨rfl, HM2.out, (MRead.no _ hu).trans HU2.out (fun _ _ f => f)⟩
theorem hForget_m (m : HM w bh bp bf G h) (hi : HInv h W) (n : Int) (p : Int) : Calls Tryz.prog 96 #[.pointer (some ⟨bh, 0, none⟩), .int .i64 n, .int .i64 p] w (MPost w bh bp bf G h (hForget h n p)) := by
  have HMM : Hid (HM w bh bp bf G h) := m
  unfold hForget hAct
  by_cases h0 : 0 < hWho h n
  · rw [if_pos h0]
    have HG : Hid _ := guest_no m n h0
    have HE : Hid _ := errV_who h0
    clear m hi h0
    go_enter Tryz.func96, Tryz.ntmps96
    go_wp2_with fail
    refine Calls.mono HG.out ?_
    rintro e w1 ⟨rfl, hu⟩
    go_wp2_with fail
    go_ret
    exact ⟨by rw [HE.out]; first | done | rfl, HMM.out.same hu, MRead.no _ hu⟩
  · rw [if_neg h0]
    obtain ⟨k, x, rfl, hk, hx, hat⟩ := hWho_zero (show hWho h n = 0 by have := hWho_le (h := h) n; omega)
    rw [hat, Int.toNat_natCast]
    have HG : Hid _ := guest_yes m hk hx
    have HX : Hid (h.g k = some x) := hx
    have HI : Hid (HInv h W) := hi
    clear m hi h0 hx hat
    go_enter Tryz.func96, Tryz.ntmps96
    go_wp2_with fail
    refine Calls.mono HG.out ?_
    rintro e w1 ⟨rfl, hu⟩
    have HS : Hid _ := (HMM.out.same hu).go HI.out HX.out (fun g => g.forget p)
    go_wp2_with fail
    refine Calls.mono HS.out ?_
    rintro e w2 ⟨rfl, hm2, hu2⟩
    have HM2 : Hid _ := hm2
    have HU2 : Hid _ := hu2
    clear hm2 hu2 HS
    go_wp2_with fail
    go_ret
    exact ⟨rfl, HM2.out, (MRead.no _ hu).trans HU2.out (fun _ _ f => f)⟩
theorem hForgetAll_m (m : HM w bh bp bf G h) (hi : HInv h W) (n : Int) (p : Int) : Calls Tryz.prog 97 #[.pointer (some ⟨bh, 0, none⟩), .int .i64 n, .int .i64 p] w (MPost w bh bp bf G h (hDrop h n p)) := by
  have HMM : Hid (HM w bh bp bf G h) := m
  unfold hDrop hAct
  by_cases h0 : 0 < hWho h n
  · rw [if_pos h0]
    have HG : Hid _ := guest_no m n h0
    have HE : Hid _ := errV_who h0
    clear m hi h0
    go_enter Tryz.func97, Tryz.ntmps97
    go_wp2_with fail
    refine Calls.mono HG.out ?_
    rintro e w1 ⟨rfl, hu⟩
    go_wp2_with fail
    go_ret
    exact ⟨by rw [HE.out]; first | done | rfl, HMM.out.same hu, MRead.no _ hu⟩
  · rw [if_neg h0]
    obtain ⟨k, x, rfl, hk, hx, hat⟩ := hWho_zero (show hWho h n = 0 by have := hWho_le (h := h) n; omega)
    rw [hat, Int.toNat_natCast]
    have HG : Hid _ := guest_yes m hk hx
    have HX : Hid (h.g k = some x) := hx
    have HI : Hid (HInv h W) := hi
    clear m hi h0 hx hat
    go_enter Tryz.func97, Tryz.ntmps97
    go_wp2_with fail
    refine Calls.mono HG.out ?_
    rintro e w1 ⟨rfl, hu⟩
    have HS : Hid _ := (HMM.out.same hu).go HI.out HX.out (fun g => g.forgetAll p)
    go_wp2_with fail
    refine Calls.mono HS.out ?_
    rintro e w2 ⟨rfl, hm2, hu2⟩
    have HM2 : Hid _ := hm2
    have HU2 : Hid _ := hu2
    clear hm2 hu2 HS
    go_wp2_with fail
    go_ret
    exact ⟨rfl, HM2.out, (MRead.no _ hu).trans HU2.out (fun _ _ f => f)⟩
end Go.Proofs.YtadpibcgjgcjhabGreatDoor
/- Package host: Leaf, Load, places, Promised. -/
namespace Go.Proofs.YtadpibcgjgcjhabGreatDoor
open Go.ChangeShapes Go.WideShapes Go.ChangeAt Go.RowKit
set_option maxRecDepth 100000
attribute [local go_sem ↓] Go.wp_at_zero Go.wp_at_succ
variable {w w' : World} {bh bp bf : Nat} {G G' : Nat → G3} {h h' : Hs} {x : Gs} {s' : Pl} {x' : Gs} {b : Mp} {W : Int}

set_option maxHeartbeats 1000000 in
theorem hLeaf_any (m : HM w bh bp bf G h) (hi : HInv h W) (n p : Int) : Calls Tryz.prog 82 #[.pointer (some ⟨bh, 0, none⟩), .int .i64 n, .int .i64 p] w (MRead w (.tuple #[.agg #[.bool (hLeaf h n p).1.there, .bool (hLeaf h n p).1.wr, .int .i64 (hLeaf h n p).1.fr], errV (hLeaf h n p).2])) := by
  have u1 := (Upd.refl (fun _ => False) w).alloc (.cells #[.bool false, .bool false, .int .i64 0] 92)
  have hla := LfAt.new w 92 lf0
  have hlz : ∀ o, (w.alloc (.cells #[.bool false, .bool false, .int .i64 0] 92)).frozen? ⟨w.heap.size, o, none⟩ = false := fun o => World.frozen?_alloc_new _ _ _ _
  have HLA : Hid (LfAt (w.alloc (.cells #[.bool false, .bool false, .int .i64 0] 92)) w.heap.size lf0) := hla
  have HLZ : Hid _ := hlz
  have HU1 : Hid _ := u1
  have HSZ : Hid (w.heap.size < (w.alloc (.cells #[.bool false, .bool false, .int .i64 0] 92)).heap.size) := show _ < _ by simp
  have m1 := m.same u1
  have HMM : Hid (HM (w.alloc (.cells #[.bool false, .bool false, .int .i64 0] 92)) bh bp bf G h) := m1
  clear u1 hla hlz m
  unfold hLeaf
  by_cases h0 : 0 < hWho h n
  · rw [if_pos h0]
    have HG : Hid _ := guest_no m1 n h0
    have HE : Hid _ := errV_who h0
    clear m1 hi h0
    go_enter Tryz.func82, Tryz.ntmps82
    go_wp2_with fail
    refine Calls.mono HG.out ?_
    rintro e w1 ⟨rfl, hu⟩
    obtain ⟨y0, y1, y2⟩ := HLA.out.upd hu (fun f => f)
    have z0 : ∀ o, w1.frozen? ⟨w.heap.size, o, none⟩ = false := fun o => by rw [World.frozen?_of_block (hu.block w.heap.size HSZ.out (fun f => f))]; exact HLZ.out o
    have z1 := z0 0
    have z2 := z0 1
    have z3 := z0 2
    have HU : Hid _ := HU1.out.trans hu (fun _ _ f => f)
    have HU2 : Hid (Upd (fun k => k = w.heap.size) w1 (((w1.setCell ⟨w.heap.size, 0, none⟩ (.bool false)).setCell ⟨w.heap.size, 1, none⟩ (.bool false)).setCell ⟨w.heap.size, 2, none⟩ (.int .i64 0))) := Upd.three w1 w.heap.size 0 1 2 _ _ _
    clear z0 hu HU1 HLA HLZ HG
    go_wp2_with fail
    rw [HE.out]
    first
      | exact bodyPost_ret (v := .tuple #[.agg #[.bool false, .bool false, .int .i64 0], .iface 37 (.int .i64 (hWho h n))]) (by simp [results, Tryz.results82, go_sem, y0, y1, y2]) rfl ⟨rfl, HU.out.trans HU2.out (fun i hi e => by omega)⟩
      | exact bodyPost_ret (v := .tuple #[.agg #[.bool false, .bool false, .int .i64 0], .iface 37 (.int .i64 (hWho h n))]) (by simp [results, Tryz.results82, go_sem, y0, y1, y2]) rfl ⟨rfl, HU.out⟩
  · rw [if_neg h0]
    obtain ⟨k, x, rfl, hk, hx, hat⟩ := hWho_zero (show hWho h n = 0 by have := hWho_le (h := h) n; omega)
    rw [hat]
    have HG : Hid _ := guest_yes m1 hk hx
    have HS : Hid (∀ w0, Upd (fun _ => False) (w.alloc (.cells #[.bool false, .bool false, .int .i64 0] 92)) w0 → Calls Tryz.prog 112 #[.pointer (some ⟨(G k).g, 0, none⟩), .int .i64 p] w0 (MRead w0 (.tuple #[.agg #[.bool (lfR x.m p).1.there, .bool (lfR x.m p).1.wr, .int .i64 (lfR x.m p).1.fr], errV (lfR x.m p).2]))) := fun w0 hu => ((m1.same hu).gg hi hx).leafAny p
    clear m1 hi h0 hx hat
    revert HS
    generalize lfR x.m p = r
    obtain ⟨l, r2⟩ := r
    generalize errV (l, r2).2 = ev
    intro HS
    go_enter Tryz.func82, Tryz.ntmps82
    go_wp2_with fail
    refine Calls.mono HG.out ?_
    rintro e w0 ⟨rfl, hu0⟩
    have HU0 : Hid _ := hu0
    clear hu0
    go_wp2_with fail
    refine Calls.mono (HS.out w0 HU0.out) ?_
    rintro e w1 ⟨rfl, hu2⟩
    have hu := HU0.out.trans hu2 (fun _ _ f => f)
    obtain ⟨y0, y1, y2⟩ := HLA.out.upd hu (fun f => f)
    have z0 : ∀ o, w1.frozen? ⟨w.heap.size, o, none⟩ = false := fun o => by rw [World.frozen?_of_block (hu.block w.heap.size HSZ.out (fun f => f))]; exact HLZ.out o
    have z1 := z0 0
    have z2 := z0 1
    have z3 := z0 2
    have HU : Hid _ := HU1.out.trans hu (fun _ _ f => f)
    have HU2 : Hid (Upd (fun k => k = w.heap.size) w1 (((w1.setCell ⟨w.heap.size, 0, none⟩ (.bool l.there)).setCell ⟨w.heap.size, 1, none⟩ (.bool l.wr)).setCell ⟨w.heap.size, 2, none⟩ (.int .i64 l.fr))) := Upd.three w1 w.heap.size 0 1 2 _ _ _
    clear z0 hu hu2 HU1 HLA HLZ HS HG HU0 HMM
    go_wp2_with fail
    refine bodyPost_ret (v := .tuple #[.agg #[.bool l.there, .bool l.wr, .int .i64 l.fr], ev]) (by simp [results, Tryz.results82, go_sem, y0, y1, y2]) rfl ⟨rfl, HU.out.trans HU2.out (fun i hi e => by omega)⟩
/-- How Load ends. -/
def MLoad (w : World) (bh bp bf : Nat) (G : Nat → G3) (h : Hs) (r : (Int × Int) × Hs) (e : Ending) (w' : World) : Prop :=
  e = .returned (.tuple #[.int .u8 r.1.1, errV r.1.2]) ∧ HM w' bh bp bf G r.2 ∧ Upd (Own bh bp bf G h) w w'
theorem hLoad_m (m : HM w bh bp bf G h) (hi : HInv h W) (n addr : Int) (hW : W ≤ 1000000) : Calls Tryz.prog 55 #[.pointer (some ⟨bh, 0, none⟩), .int .i64 n, .int .i64 addr] w (MLoad w bh bp bf G h (hLoad h n addr)) := by
  have HMM : Hid (HM w bh bp bf G h) := m
  unfold hLoad
  by_cases h0 : 0 < hWho h n
  · rw [if_pos h0]
    have HG : Hid _ := guest_no m n h0
    have HE : Hid _ := errV_who h0
    clear m hi h0
    go_enter Tryz.func55, Tryz.ntmps55
    go_wp2_with fail
    refine Calls.mono HG.out ?_
    rintro e w1 ⟨rfl, hu⟩
    go_wp2_with fail
    go_ret2
    exact ⟨by rw [HE.out]; first | done | rfl, HMM.out.same hu, MRead.no _ hu⟩
  · rw [if_neg h0]
    obtain ⟨k, x, rfl, hk, hx, hat⟩ := hWho_zero (show hWho h n = 0 by have := hWho_le (h := h) n; omega)
    rw [hat, Int.toNat_natCast]
    have HG : Hid _ := guest_yes m hk hx
    have HX : Hid (h.g k = some x) := hx
    have HS : Hid (∀ w1, Upd (fun _ => False) w w1 → Calls Tryz.prog 78 #[.pointer (some ⟨(G k).g, 0, none⟩), .int .i64 addr] w1 (LPost w1 (G k).g bp bf (G k).l (G k).c (gLoad h.s x addr) (oth h k) (W + 1))) := fun w1 hu => ((m.same hu).gg hi hx).load addr hW
    clear m hi h0 hx hat
    revert HS
    unfold LPost MLoad
    generalize gLoad h.s x addr = r
    obtain ⟨⟨r1, r2⟩, s2, x2⟩ := r
    simp only
    generalize errV r2 = ev
    intro HS
    go_enter Tryz.func55, Tryz.ntmps55
    go_wp2_with fail
    refine Calls.mono HG.out ?_
    rintro e w1 ⟨rfl, hu⟩
    have HM1 : Hid (HM w1 bh bp bf G h) := HMM.out.same hu
    go_wp2_with fail
    refine Calls.mono (HS.out w1 hu) ?_
    rintro e w2 ⟨rfl, hg2, hu2⟩
    have HM2 : Hid _ := HM1.out.act HX.out hg2 hu2
    have HU2 : Hid (Upd (Own bh bp bf G h) w w2) := (MRead.no _ hu).trans (hu2.wide (fun k hk => gft_own HX.out hk)) (fun _ _ f => f)
    clear hg2 hu2 HS
    go_wp2_with fail
    go_ret2
    exact ⟨rfl, HM2.out, HU2.out⟩
/-- The guest and the page of a place. -/
theorem at_any (w : World) (k : Nat) (hk : k < 64) : Calls Tryz.prog 79 #[.int .i64 (k : Int)] w fun e w' => e = .returned (.tuple #[.int .i64 ((k / 16 : Nat) : Int), .int .i64 ((k % 16 : Nat) : Int)]) ∧ Upd (fun _ => False) w w' := by
  have w1 : IntKind.i64.wrap ((k : Int) / 16) = (k : Int) / 16 := by rw [IntKind.wrap_i64]; omega
  go_enter Tryz.func79, Tryz.ntmps79
  go_wp2_with fail
  go_ret2
  exact ⟨by go_num, Upd.refl _ _⟩
end Go.Proofs.YtadpibcgjgcjhabGreatDoor
/- Package host: Promised, hasRoom, block. -/
namespace Go.Proofs.YtadpibcgjgcjhabGreatDoor
open Go.ChangeShapes Go.WideShapes Go.ChangeAt Go.RowKit
set_option maxRecDepth 100000
attribute [local go_sem ↓] Go.wp_at_zero Go.wp_at_succ
variable {w w' : World} {bh bp bf : Nat} {G G' : Nat → G3} {h h' : Hs} {x : Gs} {s' : Pl} {x' : Gs} {b : Mp} {W : Int}

theorem hState_row (h : Hs) {k : Nat} (hk : k < 64) : (hState h ((k / 16 : Nat) : Int) ((k % 16 : Nat) : Int)).1 = rowS h k := by
  have hn : k / 16 < 4 := by omega
  unfold hState rowS
  cases hx : h.g (k / 16) with
  | none =>
    have hw : hWho h ((k / 16 : Nat) : Int) = 2 := by unfold hWho; rw [if_neg (by omega), Int.toNat_natCast, hx]
    rw [hw, if_pos (by omega)]; rfl
  | some x =>
    obtain ⟨h1, h2⟩ := hWho_some hx hn
    rw [h1, if_neg (by omega), h2]
    unfold stR
    rw [if_pos ((onB_iff _).2 (by omega)), Int.toNat_natCast]; rfl
theorem hLeaf_row (h : Hs) {k : Nat} (hk : k < 64) : (hLeaf h ((k / 16 : Nat) : Int) ((k % 16 : Nat) : Int)).1 = rowL h k := by
  have hn : k / 16 < 4 := by omega
  unfold hLeaf rowL
  cases hx : h.g (k / 16) with
  | none =>
    have hw : hWho h ((k / 16 : Nat) : Int) = 2 := by unfold hWho; rw [if_neg (by omega), Int.toNat_natCast, hx]
    rw [hw, if_pos (by omega)]; rfl
  | some x =>
    obtain ⟨h1, h2⟩ := hWho_some hx hn
    rw [h1, if_neg (by omega), h2]
    unfold lfR
    rw [if_pos ((onB_iff _).2 (by omega)), Int.toNat_natCast]; rfl
theorem hPromised_any (m : HM w bh bp bf G h) (hi : HInv h W) : Calls Tryz.prog 58 #[.pointer (some ⟨bh, 0, none⟩)] w (MRead w (.int .i64 (pln (rowS h) 64 : Nat))) := by
  have HMM : Hid (HM w bh bp bf G h) := m
  have HI : Hid (HInv h W) := hi
  clear m hi
  go_enter Tryz.func58, Tryz.ntmps58
  go_wp2_with fail
  go_loopg [3, 7] 64 (fun g c i wr => ∃ k : Nat, k + g = 64 ∧ i = .int .i64 k ∧ c = .int .i64 (pln (rowS h) k : Nat) ∧ Hid (Upd (fun _ => False) w wr))
  case atStart => exact ⟨0, by omega, rfl, rfl, Upd.refl _ _⟩
  case round =>
    obtain ⟨k, hk, rfl, rfl, HU⟩ := hrel
    have HK : Hid _ := hk
    clear hk
    by_cases hlt : k < 64
    · have HA : Hid _ := fun wr => at_any wr k hlt
      have HST : Hid (pln (rowS h) (k + 1) = pln (rowS h) k + if rowS h k = 1 then 1 else 0) := rfl
      have hle := pln_le (rowS h) k
      go_wp2_with fail
      refine Calls.mono (HA.out _) ?_
      rintro e w1 ⟨rfl, hu1⟩
      have HU1 : Hid (Upd (fun _ => False) w w1) := HU.out.trans hu1 (fun _ _ f => f)
      have hs := hState_any (HMM.out.same HU1.out) HI.out ((k / 16 : Nat) : Int) ((k % 16 : Nat) : Int)
      have HRW : Hid _ := hState_row h hlt
      revert hs HRW
      generalize hState h ((k / 16 : Nat) : Int) ((k % 16 : Nat) : Int) = r
      obtain ⟨r1, r2⟩ := r
      generalize errV (r1, r2).2 = ev
      intro hs HRW
      have HS : Hid _ := hs
      clear hs hu1 HA
      go_wp2_with fail
      refine Calls.mono HS.out ?_
      rintro e w2 ⟨rfl, hu2⟩
      have HU2 : Hid (Upd (fun _ => False) w w2) := HU1.out.trans hu2 (fun _ _ f => f)
      clear hu2 HS
      by_cases h1 : r1 = 1
      · have d : (r1 == 1) = true := by simp [h1]
        go_wp2_with fail
        go_roundg (64 - (k + 1))
        case rel => exact ⟨k + 1, by omega, by go_num, by rw [HST.out, ← HRW.out, if_pos h1]; go_num, HU2.out⟩
        case measure => have := HK.out; omega
      · have d : (r1 == 1) = false := by simp [h1]
        go_wp2_with fail
        go_roundg (64 - (k + 1))
        case rel => exact ⟨k + 1, by omega, by go_num, by rw [HST.out, ← HRW.out, if_neg h1]; rfl, HU2.out⟩
        case measure => have := HK.out; omega
    · obtain rfl : k = 64 := by have := HK.out; omega
      go_wp2_with fail
      go_ret
      exact ⟨rfl, HU.out⟩
end Go.Proofs.YtadpibcgjgcjhabGreatDoor
/- Package host: each, Plug, Unplug, Back, Remove. -/
namespace Go.Proofs.YtadpibcgjgcjhabGreatDoor
open Go.ChangeShapes Go.WideShapes Go.ChangeAt Go.RowKit
set_option maxRecDepth 100000
attribute [local go_sem ↓] Go.wp_at_zero Go.wp_at_succ
variable {w w' : World} {bh bp bf : Nat} {G G' : Nat → G3} {h h' : Hs} {x : Gs} {s' : Pl} {x' : Gs} {b : Mp} {W : Int}

/-- How a walk over a block's pages ends. -/
def EachP (P : Nat → World → Prop) (Q : Int → World → Prop) (j : Nat) (e : Ending) (w' : World) : Prop :=
  (e = .returned .nilIface ∧ P j w') ∨ ∃ c : Int, c ≠ 0 ∧ e = .returned (.iface 37 (.int .i64 c)) ∧ Q c w'
theorem each_any (w : World) (q f : Nat) (bd : Array Value) (P : Nat → World → Prop) (Q : Int → World → Prop) (hq : q < 100)
    (eg : ∀ args w, (callFunc f args).run Tryz.prog w = .ok (.enter f args) w)
    (hs : ∀ j wr, j < 4 → P j wr → Calls Tryz.prog f (bd.push (.int .i64 ((q : Int) + (j : Int))) ++ #[]) wr (EachP P Q (j + 1)))
    (h0 : P 0 w) : Calls Tryz.prog 122 #[.int .i64 (q : Int), .func (.func f) bd #[]] w (EachP P Q 4) := by
  have HS : Hid _ := hs
  have H0 : Hid _ := h0
  clear hs h0
  go_enter Tryz.func122, Tryz.ntmps122
  go_wp2_with fail
  go_loopg [7] 4 (fun g i wr => ∃ j : Nat, j + g = 4 ∧ i = .int .i64 j ∧ Hid (P j wr))
  case atStart => exact ⟨0, by omega, rfl, H0.out⟩
  case round =>
    obtain ⟨j, hj, rfl, HP⟩ := hrel
    have HJ : Hid _ := hj
    clear hj
    by_cases hlt : j < 4
    · have hw : IntKind.i64.wrap ((q : Int) + (j : Int)) = (q : Int) + (j : Int) := by rw [IntKind.wrap_i64]; omega
      have HC : Hid _ := HS.out j wr hlt HP.out
      go_wp2_with (go_at_fn f; refine Calls.mono HC.out ?_; rintro e w1 (⟨rfl, hp1⟩ | ⟨c, hc, rfl, hq1⟩))
      · go_roundg (4 - (j + 1))
        case rel => exact ⟨j + 1, by omega, by go_num, hp1⟩
        case measure => have := HJ.out; omega
      · go_ret
        exact Or.inr ⟨c, hc, rfl, hq1⟩
    · obtain rfl : j = 4 := by have := HJ.out; omega
      go_wp2_with fail
      go_ret
      exact Or.inl ⟨rfl, HP.out⟩
end Go.Proofs.YtadpibcgjgcjhabGreatDoor
/- Package host: hasRoom, block, Plug, Unplug. -/
namespace Go.Proofs.YtadpibcgjgcjhabGreatDoor
open Go.ChangeShapes Go.WideShapes Go.ChangeAt Go.RowKit
set_option maxRecDepth 100000
attribute [local go_sem ↓] Go.wp_at_zero Go.wp_at_succ
variable {w w' : World} {bh bp bf : Nat} {G G' : Nat → G3} {h h' : Hs} {x : Gs} {s' : Pl} {x' : Gs} {b : Mp} {W : Int}

theorem hasRoom_any (m : HM w bh bp bf G h) (hi : HInv h W) (k : Nat) (hk : k ≤ 4) (r : Bool) (hr : decide (((pln (rowS h) 64 : Nat) : Int) + (k : Int) ≤ (h.s.n : Int)) = r) : Calls Tryz.prog 121 #[.pointer (some ⟨bh, 0, none⟩), .int .i64 (k : Int)] w (MRead w (.bool r)) := by
  have hle := pln_le (rowS h) 64
  have HP : Hid (∀ w1, Upd (fun _ => False) w w1 → Calls Tryz.prog 58 #[.pointer (some ⟨bh, 0, none⟩)] w1 (MRead w1 (.int .i64 (pln (rowS h) 64 : Nat)))) := fun w1 hu => hPromised_any (m.same hu) hi
  have HSZ : Hid (∀ w1, Upd (fun _ => False) w w1 → Calls Tryz.prog 153 #[.pointer (some ⟨bp, 0, none⟩)] w1 fun e w' => e = .returned (.int .i64 h.s.n) ∧ w' = w1) := fun w1 hu => size_any w1 bp bf h.s (m.same hu).pool
  have c0 := m.c0
  revert hle HP hr
  generalize pln (rowS h) 64 = P
  intro hr hle HP
  have wp : IntKind.i64.wrap ((P : Int) + (k : Int)) = (P : Int) + (k : Int) := by rw [IntKind.wrap_i64]; omega
  clear m hi
  go_enter Tryz.func121, Tryz.ntmps121
  go_wp2_with fail
  go_region_held3 (fun w' => w'.cell? ⟨bh, 0, none⟩ = some (.pointer (some ⟨bp, 0, none⟩))) (first | exact c0 | exact h4c)
    (first
      | (go_at_call 58; refine Calls.mono (HP.out _ (by first | exact Upd.refl _ _ | exact (Upd.refl _ _).drew)) ?_; rintro e w4 ⟨rfl, hu4⟩; have h4c : w4.cell? ⟨bh, 0, none⟩ = some (.pointer (some ⟨bp, 0, none⟩)) := hu4.cell (by exact c0) (fun f => f))
      | (go_at_call 153; refine Calls.mono (HSZ.out _ (((Upd.refl (fun _ => False) w).drew).trans hu4 (fun _ _ f => f))) ?_; rintro e w5 ⟨rfl, hw5⟩; subst hw5))
  all_goals
    go_wp2_with fail
    go_ret
    exact ⟨rfl, ((Upd.refl (fun _ => False) w).drew).trans hu4 (fun _ _ f => f)⟩
theorem block_no (m : HM w bh bp bf G h) (n c : Int) (h0 : 0 < hWho h n) : Calls Tryz.prog 120 #[.pointer (some ⟨bh, 0, none⟩), .int .i64 n, .int .i64 c] w (MRead w (.tuple #[.pointer none, .int .i64 0, .iface 37 (.int .i64 (hWho h n))])) := by
  have HG : Hid _ := guest_no m n h0
  clear m h0
  go_enter Tryz.func120, Tryz.ntmps120
  go_wp2_with fail
  refine Calls.mono HG.out ?_
  rintro e w1 ⟨rfl, hu⟩
  go_wp2_with fail
  exact bodyPost_ret (v := .tuple #[.pointer none, .int .i64 0, .iface 37 (.int .i64 (hWho h n))]) (by simp [results, Tryz.results120, go_sem]) rfl ⟨rfl, hu⟩
theorem block_out {k : Nat} (m : HM w bh bp bf G h) (hk : k < 4) (hx : h.g k = some x) (c : Int) (hc : c < 0 ∨ 3 < c) : Calls Tryz.prog 120 #[.pointer (some ⟨bh, 0, none⟩), .int .i64 (k : Int), .int .i64 c] w (MRead w (.tuple #[.pointer none, .int .i64 0, .iface 37 (.int .i64 1)])) := by
  have HG : Hid _ := guest_yes m hk hx
  clear m hx
  rcases hc with hc | hc
  · have d0 : decide (c < 0) = true := by simp; omega
    go_enter Tryz.func120, Tryz.ntmps120
    go_wp2_with fail
    refine Calls.mono HG.out ?_
    rintro e w1 ⟨rfl, hu⟩
    go_wp2_with fail
    exact bodyPost_ret (v := .tuple #[.pointer none, .int .i64 0, .iface 37 (.int .i64 1)]) (by simp [results, Tryz.results120, go_sem]) rfl ⟨rfl, hu⟩
  · have d0 : decide (c < 0) = false := by simp; omega
    have d1 : decide (4 ≤ c) = true := by simp; omega
    go_enter Tryz.func120, Tryz.ntmps120
    go_wp2_with fail
    refine Calls.mono HG.out ?_
    rintro e w1 ⟨rfl, hu⟩
    go_wp2_with fail
    exact bodyPost_ret (v := .tuple #[.pointer none, .int .i64 0, .iface 37 (.int .i64 1)]) (by simp [results, Tryz.results120, go_sem]) rfl ⟨rfl, hu⟩
theorem block_yes {k q : Nat} (m : HM w bh bp bf G h) (hk : k < 4) (hx : h.g k = some x) (hq : q < 4) : Calls Tryz.prog 120 #[.pointer (some ⟨bh, 0, none⟩), .int .i64 (k : Int), .int .i64 (q : Int)] w (MRead w (.tuple #[.pointer (some ⟨(G k).g, 0, none⟩), .int .i64 ((4 * q : Nat) : Int), .nilIface])) := by
  have HG : Hid _ := guest_yes m hk hx
  have d0 : decide ((q : Int) < 0) = false := by simp
  have d1 : decide ((4 : Int) ≤ (q : Int)) = false := by simp; omega
  have wq : IntKind.i64.wrap ((q : Int) * 4) = (q : Int) * 4 := by rw [IntKind.wrap_i64]; omega
  have e4 : ((4 * q : Nat) : Int) = (q : Int) * 4 := by omega
  rw [e4]
  clear m hx e4
  go_enter Tryz.func120, Tryz.ntmps120
  go_wp2_with fail
  refine Calls.mono HG.out ?_
  rintro e w1 ⟨rfl, hu⟩
  go_wp2_with fail
  exact bodyPost_ret (v := .tuple #[.pointer (some ⟨(G k).g, 0, none⟩), .int .i64 ((q : Int) * 4), .nilIface]) (by simp [results, Tryz.results120, go_sem]) rfl ⟨rfl, hu⟩
theorem enters_gUnplug : ∀ args w, (callFunc 119 args).run Tryz.prog w = .ok (.enter 119 args) w := enters_of Tryz.func119 (by kernel_rfl) rfl
theorem enters_gPlug : ∀ args w, (callFunc 123 args).run Tryz.prog w = .ok (.enter 123 args) w := enters_of Tryz.func123 (by kernel_rfl) rfl
theorem gUnplug_err (s : Pl) (x : Gs) (n : Int) : (gUnplug s x n).1 ≠ 0 → 0 < (gUnplug s x n).1 := by
  unfold gUnplug gMap unplugR
  repeat' split
  all_goals simp
/-- A block's pages are unplugged. -/
theorem each_unplug {k q : Nat} (m : HM w bh bp bf G h) (hi : HInv h W) (hx : h.g k = some x) (hq : q < 4) : Calls Tryz.prog 122 #[.int .i64 ((4 * q : Nat) : Int), .func (.func 119) #[.pointer (some ⟨(G k).g, 0, none⟩)] #[]] w (MPost w bh bp bf G h ((gUnplugs h.s x q 4).1, h.put k (gUnplugs h.s x q 4).2)) := by
  have key := each_any w (4 * q) 119 #[.pointer (some ⟨(G k).g, 0, none⟩)]
    (fun j wr => (gUnplugs h.s x q j).1 = 0 ∧ HM wr bh bp bf G (h.put k (gUnplugs h.s x q j).2) ∧ Upd (Own bh bp bf G h) w wr)
    (fun c wr => (gUnplugs h.s x q 4).1 = c ∧ HM wr bh bp bf G (h.put k (gUnplugs h.s x q 4).2) ∧ Upd (Own bh bp bf G h) w wr) (by omega) enters_gUnplug (fun j wr hj hP => ?_) ⟨rfl, by rw [show h.put k (gUnplugs h.s x q 0).2 = h from Hs.put_self hx]; exact m, Upd.refl _ _⟩
  · refine key.mono ?_
    rintro e w' (⟨rfl, h1, h2, h3⟩ | ⟨c, hc, rfl, h1, h2, h3⟩)
    · exact ⟨by rw [h1, errV_zero], h2, h3⟩
    · exact ⟨by rw [h1, errV_no hc], h2, h3⟩
  · obtain ⟨h1, h2, h3⟩ := hP
    have hst : gUnplugs h.s x q (j + 1) = gUnplug (gUnplugs h.s x q j).2.1 (gUnplugs h.s x q j).2.2 ((4 * q + j : Nat) : Int) := by
      show (if 0 < (gUnplugs h.s x q j).1 then gUnplugs h.s x q j else gUnplug (gUnplugs h.s x q j).2.1 (gUnplugs h.s x q j).2.2 ((4 * q + j : Nat) : Int)) = _
      rw [h1, if_neg (by omega)]
    have hend : ∀ i, (gUnplugs h.s x q (j + 1)).1 ≠ 0 → gUnplugs h.s x q (j + 1 + i) = gUnplugs h.s x q (j + 1) := by
      intro i hne
      induction i with
      | zero => rfl
      | succ i ih =>
        show (if 0 < (gUnplugs h.s x q (j + 1 + i)).1 then gUnplugs h.s x q (j + 1 + i) else _) = _
        rw [ih, if_pos (by rw [hst] at hne ⊢; exact gUnplug_err _ _ _ hne)]
    have hc := h2.go (hi.unplugs hx q j) (put_at _ _ _) (fun g => g.unplug ((4 * q + j : Nat) : Int))
    have e1 : (((4 * q : Nat) : Int) + (j : Int)) = ((4 * q + j : Nat) : Int) := by omega
    rw [show ((#[.pointer (some ⟨(G k).g, 0, none⟩)] : Array Value).push (.int .i64 (((4 * q : Nat) : Int) + (j : Int))) ++ #[]) = #[.pointer (some ⟨(G k).g, 0, none⟩), .int .i64 ((4 * q + j : Nat) : Int)] by rw [e1]; rfl]
    refine hc.mono ?_
    rintro e w' ⟨rfl, hm', hu'⟩
    rw [put_put] at hm'
    have hu2 : Upd (Own bh bp bf G h) w w' := h3.trans hu' (fun i _ e => own_put hx e)
    have hm2 : HM w' bh bp bf G (h.put k (gUnplugs h.s x q (j + 1)).2) := by rw [hst]; exact hm'
    have hcd : (gUnplug (gUnplugs h.s x q j).2.1 (gUnplugs h.s x q j).2.2 ((4 * q + j : Nat) : Int)).1 = (gUnplugs h.s x q (j + 1)).1 := by rw [hst]
    show EachP _ _ _ (Ending.returned (errV (gUnplug (gUnplugs h.s x q j).2.1 (gUnplugs h.s x q j).2.2 ((4 * q + j : Nat) : Int)).1)) _
    rw [hcd]
    by_cases h0 : (gUnplugs h.s x q (j + 1)).1 = 0
    · left
      exact ⟨by rw [h0, errV_zero], h0, hm2, hu2⟩
    · right
      have e4 := hend (4 - (j + 1)) h0
      rw [show j + 1 + (4 - (j + 1)) = 4 by omega] at e4
      refine ⟨_, h0, by rw [errV_no h0], ?_⟩
      rw [e4]
      exact ⟨rfl, hm2, hu2⟩
/-- A block's pages are plugged: none is held. -/
theorem each_plug {k q : Nat} (m : HM w bh bp bf G h) (hi : HInv h W) (hx : h.g k = some x) (hq : q < 4) (hz : ∀ j, j < 4 → x.m.st (4 * q + j) = 0) : Calls Tryz.prog 122 #[.int .i64 ((4 * q : Nat) : Int), .func (.func 123) #[.pointer (some ⟨(G k).g, 0, none⟩)] #[]] w (MPost w bh bp bf G h (0, h.put k (gPlugs h.s x q 4))) := by
  have key := each_any w (4 * q) 123 #[.pointer (some ⟨(G k).g, 0, none⟩)]
    (fun j wr => HM wr bh bp bf G (h.put k (gPlugs h.s x q j)) ∧ Upd (Own bh bp bf G h) w wr)
    (fun _ _ => False) (by omega) enters_gPlug (fun j wr hj hP => ?_) ⟨by rw [show h.put k (gPlugs h.s x q 0) = h from Hs.put_self hx]; exact m, Upd.refl _ _⟩
  · refine key.mono ?_
    rintro e w' (⟨rfl, h2, h3⟩ | ⟨c, hc, rfl, h1⟩)
    · exact ⟨by rw [errV_zero], h2, h3⟩
    · exact h1.elim
  · obtain ⟨h2, h3⟩ := hP
    have hc := h2.go (hi.plugs hx q j) (put_at _ _ _) (fun g => g.plug ((4 * q + j : Nat) : Int))
    have e1 : (((4 * q : Nat) : Int) + (j : Int)) = ((4 * q + j : Nat) : Int) := by omega
    rw [show ((#[.pointer (some ⟨(G k).g, 0, none⟩)] : Array Value).push (.int .i64 (((4 * q : Nat) : Int) + (j : Int))) ++ #[]) = #[.pointer (some ⟨(G k).g, 0, none⟩), .int .i64 ((4 * q + j : Nat) : Int)] by rw [e1]; rfl]
    have hst := turnTo_st h.s x q 1 (4 * q + j) j
    rw [if_neg (by omega), hz j hj, ← gPlugs_is h.s x hq hz j (by omega)] at hst
    have h0 : (gPlug (gPlugs h.s x q j).1 (gPlugs h.s x q j).2 ((4 * q + j : Nat) : Int)).1 = 0 := by rw [gPlug_yes _ _ (by omega) hst]
    refine hc.mono ?_
    rintro e w' ⟨rfl, hm', hu'⟩
    rw [put_put] at hm'
    left
    exact ⟨by show Ending.returned (errV (gPlug (gPlugs h.s x q j).1 (gPlugs h.s x q j).2 ((4 * q + j : Nat) : Int)).1) = _; rw [h0, errV_zero], hm', h3.trans hu' (fun i _ e => own_put hx e)⟩
set_option maxHeartbeats 1000000 in
theorem hUnplug_m (m : HM w bh bp bf G h) (hi : HInv h W) (n c : Int) : Calls Tryz.prog 91 #[.pointer (some ⟨bh, 0, none⟩), .int .i64 n, .int .i64 c] w (MPost w bh bp bf G h (hUnplug h n c)) := by
  have HMM : Hid (HM w bh bp bf G h) := m
  unfold hUnplug
  by_cases h0 : 0 < hWho h n
  · rw [if_pos h0]
    have HG : Hid _ := block_no m n c h0
    have HE : Hid _ := errV_who h0
    clear m hi h0
    go_enter Tryz.func91, Tryz.ntmps91
    go_wp2_with fail
    refine Calls.mono HG.out ?_
    rintro e w1 ⟨rfl, hu⟩
    go_wp2_with fail
    go_ret
    exact ⟨by rw [HE.out]; first | done | rfl, HMM.out.same hu, MRead.no _ hu⟩
  · rw [if_neg h0]
    obtain ⟨k, x, rfl, hk, hx, hat⟩ := hWho_zero (show hWho h n = 0 by have := hWho_le (h := h) n; omega)
    rw [hat, Int.toNat_natCast]
    by_cases hc : c < 0 ∨ 3 < c
    · rw [if_pos hc]
      have HG : Hid _ := block_out m hk hx c hc
      clear m hi h0 hx hat hc
      go_enter Tryz.func91, Tryz.ntmps91
      go_wp2_with fail
      refine Calls.mono HG.out ?_
      rintro e w1 ⟨rfl, hu⟩
      go_wp2_with fail
      go_ret
      exact ⟨by rw [errV1]; first | done | rfl, HMM.out.same hu, MRead.no _ hu⟩
    · rw [if_neg hc]
      obtain ⟨q, rfl⟩ := Int.eq_ofNat_of_zero_le (show 0 ≤ c by omega)
      rw [Int.toNat_natCast]
      have hq : q < 4 := by omega
      have HG : Hid _ := block_yes m hk hx hq
      have HS : Hid (∀ w1, Upd (fun _ => False) w w1 → _) := fun w1 hu => each_unplug (m.same hu) hi hx hq
      clear m hi h0 hx hat hc
      go_enter Tryz.func91, Tryz.ntmps91
      go_wp2_with fail
      refine Calls.mono HG.out ?_
      rintro e w1 ⟨rfl, hu⟩
      have HSw : Hid _ := HS.out w1 hu
      go_wp2_with fail
      refine Calls.mono HSw.out ?_
      rintro e w2 ⟨rfl, hm2, hu2⟩
      have HM2 : Hid _ := hm2
      have HU2 : Hid _ := hu2
      clear hm2 hu2 HS HSw
      go_wp2_with fail
      go_ret
      exact ⟨rfl, HM2.out, (MRead.no _ hu).trans HU2.out (fun _ _ f => f)⟩
set_option maxHeartbeats 1000000 in
theorem hPlug_m (m : HM w bh bp bf G h) (hi : HInv h W) (hb : ∀ i x, h.g i = some x → Blk x) (n c : Int) : Calls Tryz.prog 90 #[.pointer (some ⟨bh, 0, none⟩), .int .i64 n, .int .i64 c] w (MPost w bh bp bf G h (hPlug h n c)) := by
  have HMM : Hid (HM w bh bp bf G h) := m
  unfold hPlug
  by_cases h0 : 0 < hWho h n
  · rw [if_pos h0]
    have HG : Hid _ := block_no m n c h0
    have HE : Hid _ := errV_who h0
    clear m hi h0
    go_enter Tryz.func90, Tryz.ntmps90
    go_wp2_with fail
    refine Calls.mono HG.out ?_
    rintro e w1 ⟨rfl, hu⟩
    go_wp2_with fail
    go_ret
    exact ⟨by rw [HE.out]; first | done | rfl, HMM.out.same hu, MRead.no _ hu⟩
  · rw [if_neg h0]
    obtain ⟨k, x, rfl, hk, hx, hat⟩ := hWho_zero (show hWho h n = 0 by have := hWho_le (h := h) n; omega)
    rw [hat, Int.toNat_natCast]
    by_cases hc : c < 0 ∨ 3 < c
    · rw [if_pos hc]
      have HG : Hid _ := block_out m hk hx c hc
      clear m hi h0 hx hat hc
      go_enter Tryz.func90, Tryz.ntmps90
      go_wp2_with fail
      refine Calls.mono HG.out ?_
      rintro e w1 ⟨rfl, hu⟩
      go_wp2_with fail
      go_ret
      exact ⟨by rw [errV1]; first | done | rfl, HMM.out.same hu, MRead.no _ hu⟩
    · rw [if_neg hc]
      obtain ⟨q, rfl⟩ := Int.eq_ofNat_of_zero_le (show 0 ≤ c by omega)
      rw [Int.toNat_natCast]
      have hq : q < 4 := by omega
      have HG : Hid _ := block_yes m hk hx hq
      have HST : Hid (∀ w1, Upd (fun _ => False) w w1 → Calls Tryz.prog 111 #[.pointer (some ⟨(G k).g, 0, none⟩), .int .i64 ((4 * q : Nat) : Int)] w1 fun e w' => e = .returned (.tuple #[.int .i64 (x.m.st (4 * q)), .nilIface]) ∧ Upd (fun _ => False) w1 w') := fun w1 hu => ((m.same hu).gg hi hx).stateOf (4 * q) (by omega)
      by_cases hs : x.m.st (4 * q) ≠ 0
      · rw [if_pos hs]
        have ds : (x.m.st (4 * q) != 0) = true := by simp [hs]
        clear m hi h0 hx hat hc hs
        go_enter Tryz.func90, Tryz.ntmps90
        go_wp2_with fail
        refine Calls.mono HG.out ?_
        rintro e w1 ⟨rfl, hu⟩
        have HSw : Hid _ := HST.out w1 hu
        go_wp2_with fail
        refine Calls.mono HSw.out ?_
        rintro e w2 ⟨rfl, hu2⟩
        have hu3 := hu.trans hu2 (fun _ _ f => f)
        go_wp2_with fail
        go_ret
        exact ⟨by rw [errV4]; first | done | rfl, HMM.out.same hu3, MRead.no _ hu3⟩
      · rw [if_neg hs]
        have hs0 : x.m.st (4 * q) = 0 := by omega
        have ds : (x.m.st (4 * q) != 0) = false := by simp [hs0]
        have HZ : Hid (∀ j, j < 4 → x.m.st (4 * q + j) = 0) := fun j hj => (hb k x hx q j hq hj).1 hs0
        have HX : Hid (h.g k = some x) := hx
        have HI : Hid (HInv h W) := hi
        by_cases hr : h.s.n < pln (rowS h) 64 + 4
        · rw [if_pos hr]
          have HRM : Hid (∀ w1, Upd (fun _ => False) w w1 → _) := fun w1 hu => hasRoom_any (m.same hu) hi 4 (by omega) false (by simp; omega)
          clear m hi h0 hx hat hc hs hs0 hb hr
          go_enter Tryz.func90, Tryz.ntmps90
          go_wp2_with fail
          refine Calls.mono HG.out ?_
          rintro e w1 ⟨rfl, hu⟩
          have HSw : Hid _ := HST.out w1 hu
          go_wp2_with fail
          refine Calls.mono HSw.out ?_
          rintro e w2 ⟨rfl, hu2⟩
          have hu3 := hu.trans hu2 (fun _ _ f => f)
          have HRw : Hid _ := HRM.out w2 hu3
          go_wp2_with fail
          refine Calls.mono HRw.out ?_
          rintro e w3 ⟨rfl, hu4⟩
          have hu5 := hu3.trans hu4 (fun _ _ f => f)
          go_wp2_with fail
          go_ret
          exact ⟨by rw [errV_no (show (7 : Int) ≠ 0 by omega)]; first | done | rfl, HMM.out.same hu5, MRead.no _ hu5⟩
        · rw [if_neg hr]
          have HRM : Hid (∀ w1, Upd (fun _ => False) w w1 → _) := fun w1 hu => hasRoom_any (m.same hu) hi 4 (by omega) true (by simp; omega)
          clear m hi h0 hx hat hc hs hs0 hb hr
          go_enter Tryz.func90, Tryz.ntmps90
          go_wp2_with fail
          refine Calls.mono HG.out ?_
          rintro e w1 ⟨rfl, hu⟩
          have HSw : Hid _ := HST.out w1 hu
          go_wp2_with fail
          refine Calls.mono HSw.out ?_
          rintro e w2 ⟨rfl, hu2⟩
          have hu3 := hu.trans hu2 (fun _ _ f => f)
          have HRw : Hid _ := HRM.out w2 hu3
          go_wp2_with fail
          refine Calls.mono HRw.out ?_
          rintro e w3 ⟨rfl, hu4⟩
          have hu5 := hu3.trans hu4 (fun _ _ f => f)
          have HEw : Hid _ := each_plug (HMM.out.same hu5) HI.out HX.out hq HZ.out
          have HU5 : Hid _ := hu5
          clear hu hu2 hu3 hu4 hu5
          go_wp2_with fail
          refine Calls.mono HEw.out ?_
          rintro e w6 ⟨rfl, hm6, hu6⟩
          have HM6 : Hid _ := hm6
          have HU6 : Hid _ := hu6
          clear hm6 hu6 HEw
          go_wp2_with fail
          go_ret
          exact ⟨rfl, HM6.out, (MRead.no _ HU5.out).trans HU6.out (fun _ _ f => f)⟩
end Go.Proofs.YtadpibcgjgcjhabGreatDoor
