/- Package guest: Cached, whole; New, Copy. -/
import Derived.Test.YtadpibcgjgcjhaaGreatPart15
import Derived.Test.YtadpibcgjgcjhaaGreatPart10
import Derived.Test.YtadpibcgjgcjhaaGreatPart03
namespace Go.Proofs.YtadpibcgjgcjhaaGreat
open Go.ChangeShapes Go.WideShapes Go.ChangeAt Go.RowKit Go.Shelf
set_option maxRecDepth 1000000
attribute [local go_sem ↓] Go.wp_at_zero Go.wp_at_succ
variable {w w' : World} {bg bp bf bl bc : Nat} {s : Pl} {g : Gs} {b : Mp} {W : Int}
theorem GG.cached (h : GG w bg bp bf bl bc s g b W) : Calls Tryz.prog 66 #[.pointer (some ⟨bg, 0, none⟩)] w fun e w' => ∃ v, e = .returned v ∧ SlC w' w.heap.size v (shows g.m g.c) ∧ Upd (fun _ => False) w w' := by
  have hu1 := (Upd.refl (fun _ => False) w).alloc (.cells #[.slice none 0 0] 47)
  have c2 := (h.same hu1).ce.c2
  have HN : Hid _ := box_new w #[.slice none 0 0] 47
  have HK : Hid _ := kAll_any _ bc (shows g.m g.c) (h.same hu1).ca
  have HU1 : Hid _ := hu1
  clear h hu1
  refine (callsIn_wide (n := 8)).1 ?_
  refine callsIn_of_wp_marks Tryz.func66 rfl trivial ?_ rfl
  refine wpIn_wide.2 ?_
  simp only [Tryz.ntmps66, List.size_toArray, List.length_cons, List.length_nil, Nat.reduceAdd, Nat.reduceSub, Array.replicate_succ, Array.replicate_zero, List.push_toArray, List.append_toArray, List.nil_append, List.cons_append]
  go_wp2_with fail
  refine Calls.mono HK.out ?_
  rintro e w4 ⟨B, b', rfl, hB1, hb1, hB2, hC2, hu2⟩
  simp only [World.size_alloc] at hB1 hb1
  have HN2 : Hid (w4.heap[w.heap.size]? = some (.cells #[.slice none 0 0] 47)) := (hu2.block w.heap.size (by simp) (fun f => f)).trans HN.out
  have HB2 : Hid _ := hB2
  have HC2 : Hid (CaL w4 b' (shows g.m g.c)) := hC2
  have HNE : Hid (b' ≠ w.heap.size ∧ B ≠ w.heap.size) := ⟨by omega, by omega⟩
  have HU2 : Hid _ := HU1.out.trans hu2 (fun _ _ f => f)
  clear hB2 hC2 hB1 hb1 hu2 HN HU1 HK
  go_wp2_with fail
  refine cached_rfL _ rfl [] w4 B b' w.heap.size (shows g.m g.c) rfl rfl HB2.out HC2.out HN2.out HNE.out.1 HNE.out.2 ?_
  intro D w5 v5 hD hu5 hb5 hs5 hd5
  have o5 : w5.cell? ⟨w.heap.size, 0, none⟩ = some v5 := box_cell hb5 0
  have HS5 : Hid (SlC w5 w4.heap.size v5 (shows g.m g.c)) := hs5
  have HU5 : Hid (Upd (fun _ => False) w w5) := HU2.out.trans hu5 (fun i hi e => by omega)
  have HM5 : Hid (Marks w4.heap.size w5 [D]) := (Marks.nil w4.heap.size w5).cons hD hd5 (by simp)
  have HD5 : Hid (∀ k, v5.ownBlock = some k → k ≠ D) := fun k hk e => by
    rcases hs5.2 with ⟨rfl, _⟩ | ⟨g', cap, cur, rfl, _, hg, _⟩
    · simp [Value.ownBlock] at hk
    · obtain rfl : g' = k := by simpa [Value.ownBlock] using hk
      subst e
      rw [hd5] at hg
      cases hg
  have HZ : Hid (w.heap.size ≤ w4.heap.size) := HU2.out.size
  clear hu5 hb5 hs5 hd5 hD HN2 HB2 HC2 HNE HU2
  go_wp2_with fail
  exact leaves_marks [D] w5 HM5.out (fun w' ht => ⟨v5, by simp [results, Tryz.results66, go_sem], v5, rfl,
    (HS5.out.weak HZ.out).upd (ht.upd (base := w4.heap.size) (fun E hE => (HM5.out.2 E hE).1)) (fun k hk e => by have h1 := HD5.out k hk; have h2 := e.2; simp at h2; exact h1 h2),
    HU5.out.trans (ht.upd (base := w4.heap.size) (fun E hE => (HM5.out.2 E hE).1)) (fun i hi e => by have h1 := e.1; have h2 := HZ.out; omega)⟩)
theorem GCell.new (w : World) (bp bl bc : Nat) (r k : Int) (t : TypeId) : GCell (w.alloc (.cells #[.pointer (some ⟨bp, 0, none⟩), .pointer (some ⟨bl, 0, none⟩), .pointer (some ⟨bc, 0, none⟩), .int .i64 r, .int .i64 k] t)) w.heap.size bp bl bc r k :=
  ⟨by rw [World.cell?_alloc_new]; rfl, by rw [World.cell?_alloc_new]; rfl, by rw [World.cell?_alloc_new]; rfl, by rw [World.cell?_alloc_new]; rfl, by rw [World.cell?_alloc_new]; rfl, fun _ => World.frozen?_alloc_new _ _ _ _⟩
theorem gNil (w : World) : Calls Tryz.prog 10 #[.pointer none] w fun e w' => e = .returned (.tuple #[.pointer none, errV 2]) ∧ Upd (fun _ => False) w w' := by
  have HN : Hid _ := lvNil w
  rw [errV_no (show (2 : Int) ≠ 0 by omega)]
  have hn := lvNil w
  rw [errV_no (show (2 : Int) ≠ 0 by omega)] at hn
  have HN : Hid _ := hn
  clear hn
  go_enter Tryz.func10, Tryz.ntmps10
  go_wp2_with fail
  refine Calls.mono HN.out ?_
  rintro e w1 ⟨rfl, hu⟩
  go_wp2_with fail
  go_ret2
  exact ⟨rfl, hu⟩
theorem gNew (w : World) (bp : Nat) : Calls Tryz.prog 10 #[.pointer (some ⟨bp, 0, none⟩)] w fun e w' => ∃ bg bl bc, e = .returned (.tuple #[.pointer (some ⟨bg, 0, none⟩), .nilIface]) ∧ GCell w' bg bp bl bc (-1) 0 ∧ LvAt w' bl bp mp0 ∧ CaL w' bc [] ∧ w.heap.size ≤ bl ∧ w.heap.size ≤ bg ∧ w.heap.size ≤ bc ∧ bg ≠ bl ∧ bg ≠ bc ∧ bl ≠ bc ∧ Upd (fun _ => False) w w' := by
  have HN : Hid _ := lvNew w bp
  go_enter Tryz.func10, Tryz.ntmps10
  go_wp2_with fail
  refine Calls.mono HN.out ?_
  rintro e w1 ⟨bl, rfl, hl, hz, hu⟩
  go_wp2_with fail
  have hcz := zero_at w1 97
  have u1 := (Upd.refl (fun _ => False) w1).alloc (.cells zeroCa 97)
  have hgc := GCell.new (w1.alloc (.cells zeroCa 97)) bp bl w1.heap.size (-1) 0 99
  have u2 := (Upd.refl (fun _ => False) (w1.alloc (.cells zeroCa 97))).alloc (.cells #[.pointer (some ⟨bp, 0, none⟩), .pointer (some ⟨bl, 0, none⟩), .pointer (some ⟨w1.heap.size, 0, none⟩), .int .i64 (-1), .int .i64 0] 99)
  have hbl := hl.lt
  have hs := hu.size
  have hca : CaL (w1.alloc (.cells zeroCa 97)) w1.heap.size [] := ⟨_, hcz, fun i hi => absurd hi (by simp)⟩
  rw [World.size_alloc] at hgc
  have hcu := hca.upd u2 (fun f => f)
  have hlu := (hl.upd u1 (fun f => f)).upd u2 (fun f => f)
  have huu := (hu.trans u1 (fun _ _ f => f)).trans u2 (fun _ _ f => f)
  go_ret2
  exact ⟨w1.heap.size + 1, bl, w1.heap.size, rfl, hgc, hlu, hcu, hz, by omega, by omega, by omega, by omega, by omega, huu⟩
theorem GG.copy (h : GG w bg bp bf bl bc s g b W) (cp : Nat) : Calls Tryz.prog 13 #[.pointer (some ⟨bg, 0, none⟩), .pointer (some ⟨cp, 0, none⟩)] w fun e w' => ∃ cg cl cc, e = .returned (.pointer (some ⟨cg, 0, none⟩)) ∧ GCell w' cg cp cl cc g.root g.walks ∧ LvAt w' cl cp g.m ∧ CaL w' cc (shows g.m g.c) ∧ w.heap.size ≤ cl ∧ w.heap.size ≤ cg ∧ w.heap.size ≤ cc ∧ cg ≠ cl ∧ cg ≠ cc ∧ cl ≠ cc ∧ Upd (fun _ => False) w w' := by
  have c1 := h.ce.c1
  have c2 := h.ce.c2
  have c3 := h.ce.c3
  have c4 := h.ce.c4
  have HH : Hid (GG w bg bp bf bl bc s g b W) := h
  have HHd : Hid (GG w.drew bg bp bf bl bc s g b W) := h.same (Upd.refl (fun _ => False) w).drew
  have SAL : Hid (∀ (w5 : World) (o : Obj), w5.cell? ⟨bg, 1, none⟩ = some (.pointer (some ⟨bl, 0, none⟩)) ∧ w5.cell? ⟨bg, 2, none⟩ = some (.pointer (some ⟨bc, 0, none⟩)) ∧ w5.cell? ⟨bg, 3, none⟩ = some (.int .i64 g.root) ∧ w5.cell? ⟨bg, 4, none⟩ = some (.int .i64 g.walks) → (w5.alloc o).cell? ⟨bg, 1, none⟩ = some (.pointer (some ⟨bl, 0, none⟩)) ∧ (w5.alloc o).cell? ⟨bg, 2, none⟩ = some (.pointer (some ⟨bc, 0, none⟩)) ∧ (w5.alloc o).cell? ⟨bg, 3, none⟩ = some (.int .i64 g.root) ∧ (w5.alloc o).cell? ⟨bg, 4, none⟩ = some (.int .i64 g.walks)) := fun w5 o h => ⟨Upd.cell ((Upd.refl (fun _ => False) w5).alloc o) h.1 (fun f => f), Upd.cell ((Upd.refl (fun _ => False) w5).alloc o) h.2.1 (fun f => f), Upd.cell ((Upd.refl (fun _ => False) w5).alloc o) h.2.2.1 (fun f => f), Upd.cell ((Upd.refl (fun _ => False) w5).alloc o) h.2.2.2 (fun f => f)⟩
  have sA : w.cell? ⟨bg, 1, none⟩ = some (.pointer (some ⟨bl, 0, none⟩)) ∧ w.cell? ⟨bg, 2, none⟩ = some (.pointer (some ⟨bc, 0, none⟩)) ∧ w.cell? ⟨bg, 3, none⟩ = some (.int .i64 g.root) ∧ w.cell? ⟨bg, 4, none⟩ = some (.int .i64 g.walks) := ⟨c1, c2, c3, c4⟩
  have sD : w.drew.cell? ⟨bg, 1, none⟩ = some (.pointer (some ⟨bl, 0, none⟩)) ∧ w.drew.cell? ⟨bg, 2, none⟩ = some (.pointer (some ⟨bc, 0, none⟩)) ∧ w.drew.cell? ⟨bg, 3, none⟩ = some (.int .i64 g.root) ∧ w.drew.cell? ⟨bg, 4, none⟩ = some (.int .i64 g.walks) := ⟨c1, c2, c3, c4⟩
  clear h
  go_enter Tryz.func13, Tryz.ntmps13
  go_wp2_with fail
  go_region_held3 (fun w' => w'.cell? ⟨bg, 1, none⟩ = some (.pointer (some ⟨bl, 0, none⟩)) ∧ w'.cell? ⟨bg, 2, none⟩ = some (.pointer (some ⟨bc, 0, none⟩)) ∧ w'.cell? ⟨bg, 3, none⟩ = some (.int .i64 g.root) ∧ w'.cell? ⟨bg, 4, none⟩ = some (.int .i64 g.walks)) (first | with_reducible exact h5c | with_reducible exact h4c | with_reducible exact sA | with_reducible exact sD | with_reducible exact SAL.out _ _ h5c)
    (first
      | (go_at_call 41; refine (lvCopy _ bl bp cp g.m (by exact HHd.out.lv)).mono ?_; rintro e w4 ⟨cl, rfl, hl4, hz4, hu4⟩; have h4c : w4.cell? ⟨bg, 1, none⟩ = some (.pointer (some ⟨bl, 0, none⟩)) ∧ w4.cell? ⟨bg, 2, none⟩ = some (.pointer (some ⟨bc, 0, none⟩)) ∧ w4.cell? ⟨bg, 3, none⟩ = some (.int .i64 g.root) ∧ w4.cell? ⟨bg, 4, none⟩ = some (.int .i64 g.walks) := ⟨hu4.cell c1 (fun f => f), hu4.cell c2 (fun f => f), hu4.cell c3 (fun f => f), hu4.cell c4 (fun f => f)⟩; have hG4 := HHd.out.same hu4)
      | (go_at_call 42; refine (kCopy_any _ bc (shows g.m g.c) hG4.ca).mono ?_; rintro e w5 ⟨cc, rfl, hz5, hc5, hu5⟩; have h5c : w5.cell? ⟨bg, 1, none⟩ = some (.pointer (some ⟨bl, 0, none⟩)) ∧ w5.cell? ⟨bg, 2, none⟩ = some (.pointer (some ⟨bc, 0, none⟩)) ∧ w5.cell? ⟨bg, 3, none⟩ = some (.int .i64 g.root) ∧ w5.cell? ⟨bg, 4, none⟩ = some (.int .i64 g.walks) := ⟨hu5.cell h4c.1 (fun f => f), hu5.cell h4c.2.1 (fun f => f), hu5.cell h4c.2.2.1 (fun f => f), hu5.cell h4c.2.2.2 (fun f => f)⟩))
  have hcg := GCell.new w5 cp cl cc g.root g.walks 99
  have u6 := (Upd.refl (fun _ => False) w5).alloc (.cells #[.pointer (some ⟨cp, 0, none⟩), .pointer (some ⟨cl, 0, none⟩), .pointer (some ⟨cc, 0, none⟩), .int .i64 g.root, .int .i64 g.walks] 99)
  have hl6 := (hl4.upd hu5 (fun f => f)).upd u6 (fun f => f)
  have hc6 : CaL _ cc (shows g.m g.c) := CaL.upd hc5 u6 (fun f => f)
  have hu6 := ((Upd.refl (fun _ => False) w).drew.trans hu4 (fun _ _ f => f)).trans (hu5.trans u6 (fun _ _ f => f)) (fun _ _ f => f)
  have HX : Hid _ := hcg
  have HL6 : Hid _ := hl6
  have HC6 : Hid (CaL _ cc (shows g.m g.c)) := hc6
  have HU6 : Hid _ := hu6
  have hlt4 := hl4.lt
  have hlt5 : cc < w5.heap.size := CaL.lt hc5
  have hs4 := hu4.size
  have hs5 := hu5.size
  have hsz : w.drew.heap.size = w.heap.size := rfl
  have HZ : Hid (w.heap.size ≤ cl ∧ w.heap.size ≤ w5.heap.size ∧ w.heap.size ≤ cc ∧ w5.heap.size ≠ cl ∧ w5.heap.size ≠ cc ∧ cl ≠ cc) := show _ ∧ _ by omega
  clear hcg u6 hl6 hc6 hu6 hl4 hu4 hu5 hc5 h4c h5c hG4 SAL sA sD hlt4 hlt5 hs4 hs5 hsz
  go_wp2_with fail
  go_ret
  exact ⟨w5.heap.size, cl, cc, rfl, HX.out, HL6.out, HC6.out, HZ.out.1, HZ.out.2.1, HZ.out.2.2.1, HZ.out.2.2.2.1, HZ.out.2.2.2.2.1, HZ.out.2.2.2.2.2, HU6.out⟩
end Go.Proofs.YtadpibcgjgcjhaaGreat
/- The errors' numbers that a map tells are none below nought. -/
namespace Go.Proofs.YtadpibcgjgcjhaaGreat
open Go.ChangeShapes Go.WideShapes Go.ChangeAt Go.RowKit

theorem plug_code (s : Pl) (m : Mp) (n : Int) : 0 ≤ (plugR s m n).1 := by
  unfold plugR
  split
  · split <;> simp
  · simp
theorem unplug_code (s : Pl) (m : Mp) (n : Int) : 0 ≤ (unplugR s m n).1 := by
  unfold unplugR
  split
  · split <;> simp
  · simp
theorem give_code (s : Pl) (m : Mp) (n : Int) (b : Bool) : 0 ≤ (giveR s m n b).1 := by
  unfold giveR
  split
  · split
    · split <;> simp
    · split <;> simp
  · simp
theorem seal_code (m : Mp) (n : Int) : 0 ≤ (sealR m n).1 := by
  unfold sealR
  split
  · split <;> simp
  · simp
theorem join_code (s : Pl) (m : Mp) (n f : Int) : 0 ≤ (joinR s m n f).1 := by
  unfold joinR
  split
  · split <;> simp
  · simp
theorem mtouch_code (s : Pl) (m : Mp) (n : Int) (wt : Bool) : 0 ≤ (touchR s m n wt).1.2.2 := by
  unfold touchR
  split
  · split
    · simp
    · split
      · simp
      · split
        · simp
        · split
          · simp
          · split
            · simp
            · exact take_code s
  · simp
end Go.Proofs.YtadpibcgjgcjhaaGreat
/- A guest of the program and the document's guest, in one state. -/
namespace Go.Proofs.YtadpibcgjgcjhaaGreat
open Go.ChangeShapes Go.WideShapes Go.ChangeAt Go.RowKit
set_option maxRecDepth 100000

/-- The document's blocks are apart from the program's. -/
def LAp (bg bp bf bl bc bx bm : Nat) : Prop := (bx ≠ bg ∧ bx ≠ bp ∧ bx ≠ bf ∧ bx ≠ bl ∧ bx ≠ bc) ∧ (bm ≠ bg ∧ bm ≠ bp ∧ bm ≠ bf ∧ bm ≠ bl ∧ bm ≠ bc) ∧ bx ≠ bm
/-- The list that the document's guest keeps is none of the program's blocks. -/
def VAp (v : Value) (bg bp bf bl bc : Nat) : Prop := ∀ k, v.ownBlock = some k → k ≠ bg ∧ k ≠ bp ∧ k ≠ bf ∧ k ≠ bl ∧ k ≠ bc
structure GL (w : World) (bg bp bf bl bc bx bm base : Nat) (s : Pl) (g : Gs) (W : Int) : Prop where
  p : GG w bg bp bf bl bc s g mp0 W
  ref : RefAt w bm s
  rg : ∃ v, RGu w bx bm base v g ∧ VAp v bg bp bf bl bc
  ap : LAp bg bp bf bl bc bx bm
  base : base ≤ w.heap.size
/-- The program has acted, the document not yet. -/
structure GM (w1 : World) (bg bp bf bl bc bx bm base : Nat) (s : Pl) (g : Gs) (s' : Pl) (g' : Gs) (W : Int) : Prop where
  p : GG w1 bg bp bf bl bc s' g' mp0 W
  rp : ∃ v, RPre w1 bx bm base v s g mp0 ∧ VAp v bg bp bf bl bc
  ap : LAp bg bp bf bl bc bx bm
variable {w w1 w' : World} {bg bp bf bl bc bx bm base : Nat} {s s' : Pl} {g g' : Gs} {W W' : Int}
theorem GL.same (h : GL w bg bp bf bl bc bx bm base s g W) (u : Upd (fun _ => False) w w') : GL w' bg bp bf bl bc bx bm base s g W := by
  obtain ⟨v, h1, h2⟩ := h.rg
  exact ⟨h.p.same u, h.ref.upd u (fun f => f), ⟨v, h1.upd u (fun f => f) (fun _ _ f => f), h2⟩, h.ap, Nat.le_trans h.base u.size⟩
theorem GL.drew (h : GL w bg bp bf bl bc bx bm base s g W) : GL w.drew bg bp bf bl bc bx bm base s g W := h.same (Upd.refl _ _).drew
theorem GL.lts (h : GL w bg bp bf bl bc bx bm base s g W) : bg < w.heap.size ∧ bp < w.heap.size ∧ bf < w.heap.size ∧ bl < w.heap.size ∧ bc < w.heap.size ∧ bx < w.heap.size ∧ bm < w.heap.size := by
  obtain ⟨v, h1, _⟩ := h.rg
  refine ⟨h.p.ce.lt, ?_, h.p.pool.lt h.p.hn, h.p.lv.lt, h.p.ca.lt, h1.mp.lt, World.block_lt_of_cell? w _ h.ref.num⟩
  obtain ⟨cap, hc⟩ := h.p.pool.hd
  exact World.block_lt_of_cell? w _ hc
theorem GG.lts {b : Mp} (h : GG w bg bp bf bl bc s g b W) : bg < w.heap.size ∧ bp < w.heap.size ∧ bf < w.heap.size ∧ bl < w.heap.size ∧ bc < w.heap.size := by
  refine ⟨h.ce.lt, ?_, h.pool.lt h.hn, h.lv.lt, h.ca.lt⟩
  obtain ⟨cap, hc⟩ := h.pool.hd
  exact World.block_lt_of_cell? w _ hc
theorem GL.gm (h : GL w bg bp bf bl bc bx bm base s g W) (hW : W ≤ 1000000) (hg : GG w1 bg bp bf bl bc s' g' mp0 W') (u : Upd (GFt bg bf bl bc) w w1) : GM w1 bg bp bf bl bc bx bm base s g s' g' W' := by
  obtain ⟨v, h1, h2⟩ := h.rg
  have ha := h.ap
  unfold LAp at ha
  refine ⟨hg, ⟨v, ⟨h1.upd u (by unfold GFt; omega) (fun k hk e => by have := h2 k hk; unfold GFt at e; omega), h.ref.upd u (by unfold GFt; omega), ha.2.2, h.p.inv.more hW, Nat.le_trans h.base u.size⟩, h2⟩, h.ap⟩
theorem GM.gl {w2 : World} (h : GM w1 bg bp bf bl bc bx bm base s g s' g' W) {v : Value} (hv : VAp v bg bp bf bl bc) (hb : base ≤ w1.heap.size) (hr : RefAt w2 bm s') (hg : ∃ v', RGu w2 bx bm base v' g' ∧ Fr w1 v v') (u : Upd (fun k => k = bm ∨ k = bx) w1 w2) : GL w2 bg bp bf bl bc bx bm base s' g' W := by
  obtain ⟨v', h1, h2⟩ := hg
  have ha := h.ap
  have hl := h.p.lts
  unfold LAp at ha
  refine ⟨h.p.upd u (by omega) (by omega) (by omega) (by omega) (by omega), hr, ⟨v', h1, fun k hk => ?_⟩, h.ap, Nat.le_trans hb u.size⟩
  rcases h2 k hk with h3 | h3
  · exact hv k h3
  · omega
/-- The program's act. -/
theorem GL.mid {r : Int × Pl × Gs} {f : Nat} {av : Array Value} (h : GL w bg bp bf bl bc bx bm base s g W) (hW : W ≤ 1000000) (hc : Calls Tryz.prog f av w (GPost w bg bp bf bl bc r mp0 W')) :
    Calls Tryz.prog f av w fun e w1 => e = .returned (errV r.1) ∧ GM w1 bg bp bf bl bc bx bm base s g r.2.1 r.2.2 W' ∧ Upd (GFt bg bf bl bc) w w1 :=
  hc.mono fun _ _ ⟨he, hg, hu⟩ => ⟨he, h.gm hW hg hu, hu⟩
/-- The document's answer. -/
theorem GM.fin {r : Int × Pl × Gs} {f : Nat} {av : Array Value} (h : GM w1 bg bp bf bl bc bx bm base s g r.2.1 r.2.2 W) (hc : ∀ v, RPre w1 bx bm base v s g mp0 → Calls Tryz.prog f av w1 (RPost w1 bx bm base v r)) :
    Calls Tryz.prog f av w1 fun e w2 => e = .returned (.int .i64 r.1) ∧ GL w2 bg bp bf bl bc bx bm base r.2.1 r.2.2 W ∧ Upd (fun k => k = bm ∨ k = bx) w1 w2 := by
  obtain ⟨v, h1, h2⟩ := h.rp
  refine (hc v h1).mono ?_
  rintro e w2 ⟨he, hr, hg, hu⟩
  exact ⟨he, h.gl h2 h1.base hr hg hu, hu⟩
theorem GL.midLoad (h : GL w bg bp bf bl bc bx bm base s g W) (hW : W ≤ 1000000) (addr : Int) :
    Calls Tryz.prog 37 #[.pointer (some ⟨bg, 0, none⟩), .int .i64 addr] w fun e w1 => e = .returned (.tuple #[.int .u8 (gLoad s g addr).1.1, errV (gLoad s g addr).1.2]) ∧ GM w1 bg bp bf bl bc bx bm base s g (gLoad s g addr).2.1 (gLoad s g addr).2.2 (W + 1) ∧ Upd (GFt bg bf bl bc) w w1 :=
  (h.p.load addr hW).mono fun _ _ ⟨he, hg, hu⟩ => ⟨he, h.gm hW hg hu, hu⟩
theorem GM.finLoad {addr : Int} (h : GM w1 bg bp bf bl bc bx bm base s g (gLoad s g addr).2.1 (gLoad s g addr).2.2 W) :
    Calls Tryz.prog 49 #[.pointer (some ⟨bx, 0, none⟩), .int .i64 addr] w1 fun e w2 => e = .returned (.tuple #[.int .u8 (gLoad s g addr).1.1, .int .i64 (gLoad s g addr).1.2]) ∧ GL w2 bg bp bf bl bc bx bm base (gLoad s g addr).2.1 (gLoad s g addr).2.2 W ∧ Upd (fun k => k = bm ∨ k = bx) w1 w2 := by
  obtain ⟨v, h1, h2⟩ := h.rp
  refine (h1.load addr).mono ?_
  rintro e w2 ⟨he, hr, hg, hu⟩
  exact ⟨he, h.gl h2 h1.base hr hg hu, hu⟩
theorem load_code (s : Pl) (g : Gs) (addr : Int) : 0 ≤ (gLoad s g addr).1.2 := by
  unfold gLoad
  split
  · exact at_code _ _ _ _
  · simp
theorem pset_code (s : Pl) (f i v : Int) : 0 ≤ (s.set f i v).1 := by
  unfold Pl.set
  repeat' split
  all_goals simp
theorem store_code (s : Pl) (g : Gs) (addr v : Int) : 0 ≤ (gStore s g addr v).1 := by
  unfold gStore
  split
  · exact at_code _ _ _ _
  · exact pset_code _ _ _ _
theorem root_code (s : Pl) (g : Gs) (n : Int) : 0 ≤ (onS s (gRoot g n)).1 := by unfold onS gRoot; split <;> simp
theorem forget_code (s : Pl) (g : Gs) (n : Int) : 0 ≤ (onS s (gForget g n)).1 := by unfold onS gForget; split <;> simp
theorem forgetAll_code (s : Pl) (g : Gs) (n : Int) : 0 ≤ (onS s (gForgetAll g n)).1 := by unfold onS gForgetAll; split <;> simp
/-- What an act of both may turn. -/
def LFt (bg bf bl bc bx bm : Nat) : Nat → Prop := fun k => GFt bg bf bl bc k ∨ k = bm ∨ k = bx
theorem GL.more (h : GL w bg bp bf bl bc bx bm base s g W) (hw : W ≤ W') : GL w bg bp bf bl bc bx bm base s g W' := { h with p := h.p.more hw }
end Go.Proofs.YtadpibcgjgcjhaaGreat
/- The law's guested: an act on a guest, held against the document's answer. -/
namespace Go.Proofs.YtadpibcgjgcjhaaGreat
open Go.ChangeShapes Go.WideShapes Go.ChangeAt Go.RowKit
set_option maxRecDepth 100000
attribute [local go_sem ↓] Go.wp_at_zero Go.wp_at_succ

theorem foot_l {w W1 w4 w5 : World} {bg bf bl bc bx bm : Nat} (u0 : Upd (fun _ => False) w W1) (u4 : Upd (GFt bg bf bl bc) W1.drew w4) (u5 : Upd (fun k => k = bm ∨ k = bx) w4 w5) : Upd (LFt bg bf bl bc bx bm) w w5 :=
  ((u0.wide (T := LFt bg bf bl bc bx bm) (fun _ f => f.elim)).drew.trans u4 (fun _ _ e => Or.inl e)).trans u5 (fun _ _ e => Or.inr e)
theorem foot_l' {w W1 w4 w5 : World} {bg bf bl bc bx bm : Nat} (u0 : Upd (fun _ => False) w W1) (u4 : Upd (GFt bg bf bl bc) W1 w4) (u5 : Upd (fun k => k = bm ∨ k = bx) w4 w5) : Upd (LFt bg bf bl bc bx bm) w w5 :=
  foot_l u0 ⟨u4.os, u4.tape, u4.output, u4.size, u4.block⟩ u5
set_option maxHeartbeats 4000000 in
theorem guested_any (w : World) (bg bp bf bl bc bx bm base : Nat) (s : Pl) (g : Gs) (W : Int) (x : Ac) (h : GL w bg bp bf bl bc bx bm base s g W) (hW : W ≤ 1000000) (hv0 : 0 ≤ x.v) (hv1 : x.v ≤ 255) :
    Calls Tryz.prog 18 #[.pointer (some ⟨bg, 0, none⟩), .pointer (some ⟨bx, 0, none⟩), .agg #[.string x.kind, .int .i64 x.n, .int .i64 x.a, .int .i64 x.b, .int .u8 x.v, .bool x.on]] w
      fun e w' => e = .returned (.bool true) ∧ ∃ s2 g2, GL w' bg bp bf bl bc bx bm base s2 g2 (W + 1) ∧ Upd (LFt bg bf bl bc bx bm) w w' := by
  obtain ⟨q1, q2, q3, q4, q5, q6, q7⟩ := h.lts
  go_enter Tryz.func18, Tryz.ntmps18
  go_upto_block 0 with fail
  have hB := BoxAt.new w x
  have u0 := (Upd.refl (fun _ => False) w).alloc (.cells #[.string x.kind, .int .i64 x.n, .int .i64 x.a, .int .i64 x.b, .int .u8 x.v, .bool x.on] 52)
  have hJ := h.same u0
  revert hB u0 hJ q1 q2 q3 q4 q5 q6 q7
  generalize w.alloc (.cells #[.string x.kind, .int .i64 x.n, .int .i64 x.a, .int .i64 x.b, .int .u8 x.v, .bool x.on] 52) = W1
  generalize w.heap.size = q
  intro q1 q2 q3 q4 q5 q6 q7 hB u0 hJ
  have NQ1 : Hid (¬ GFt bg bf bl bc q) := show ¬ _ by unfold GFt; omega
  have NQ2 : Hid (¬ (q = bm ∨ q = bx)) := show ¬ _ by omega
  have HJ : Hid (GL W1 bg bp bf bl bc bx bm base s g W) := hJ
  have HJd : Hid (GL W1.drew bg bp bf bl bc bx bm base s g W) := hJ.drew
  clear h q1 q2 q3 q4 q5 q6 q7 hJ
  by_cases k0 : (x.kind.toList == [108, 111, 97, 100]) = true
  · have c2 := hB.c2
    have te := load_code s g x.a
    have t1 : ((gLoad s g x.a).1.1 == (gLoad s g x.a).1.1) = true := by simp
    go_wp2_with fail
    refine (HJ.out.midLoad hW x.a).mono ?_
    rintro e w4 ⟨rfl, hm4, hu4⟩
    have d2 := hu4.cell c2 NQ1.out
    clear c2
    go_wp2_with fail
    refine (hm4.finLoad).mono ?_
    rintro e w5 ⟨rfl, hL5, hu5⟩
    go_wp2_with fail
    refine (sameE _ _ te).mono ?_
    rintro e w6 ⟨rfl, rfl⟩
    go_wp2_with fail
    go_ret
    exact ⟨rfl, _, _, hL5, foot_l' u0 hu4 hu5⟩
  · have k0' : (x.kind.toList == [108, 111, 97, 100]) = false := by simpa using k0
    clear k0
    by_cases k1 : (x.kind.toList == [115, 116, 111, 114, 101]) = true
    · have c2 := hB.c2
      have c4 := hB.c4
      have te : 0 ≤ (gStore s g x.a x.v).1 := store_code s g x.a x.v
      go_wp2_with fail
      go_region_held3 (fun w' => w'.cell? ⟨q, 2, none⟩ = some (.int .i64 x.a) ∧ w'.cell? ⟨q, 4, none⟩ = some (.int .u8 x.v)) (first | exact ⟨c2, c4⟩ | exact h4c | exact h5c)
        (first
          | (go_at_call 14; refine (GL.mid (r := (gStore s g x.a x.v)) (HJd.out) hW (GG.store HJd.out.p x.a x.v hv0 hv1 hW)).mono ?_; rintro e w4 ⟨rfl, hm4, hu4⟩; have h4c : w4.cell? ⟨q, 2, none⟩ = some (.int .i64 x.a) ∧ w4.cell? ⟨q, 4, none⟩ = some (.int .u8 x.v) := ⟨hu4.cell (by exact c2) NQ1.out, hu4.cell (by exact c4) NQ1.out⟩)
          | (go_at_call 50; refine (GM.fin (r := (gStore s g x.a x.v)) hm4 (fun v h => RPre.store h x.a x.v)).mono ?_; rintro e w5 ⟨rfl, hL5, hu5⟩; have h5c : w5.cell? ⟨q, 2, none⟩ = some (.int .i64 x.a) ∧ w5.cell? ⟨q, 4, none⟩ = some (.int .u8 x.v) := ⟨hu5.cell (h4c.1) NQ2.out, hu5.cell (h4c.2) NQ2.out⟩)
          | (go_at_call 11; refine (sameE _ _ te).mono ?_; rintro e w6 ⟨rfl, rfl⟩))
      go_wp2_with fail
      go_ret
      exact ⟨rfl, _, _, hL5, foot_l u0 hu4 hu5⟩
    · have k1' : (x.kind.toList == [115, 116, 111, 114, 101]) = false := by simpa using k1
      clear k1
      by_cases k2 : (x.kind.toList == [114, 111, 111, 116]) = true
      · have c2 := hB.c2
        have te : 0 ≤ (onS s (gRoot g x.a)).1 := root_code s g x.a
        go_wp2_with fail
        go_region_held3 (fun w' => w'.cell? ⟨q, 2, none⟩ = some (.int .i64 x.a)) (first | exact c2 | exact h4c | exact h5c)
          (first
            | (go_at_call 16; refine (GL.mid (r := (onS s (gRoot g x.a))) (HJd.out) hW (GG.setRoot HJd.out.p x.a)).mono ?_; rintro e w4 ⟨rfl, hm4, hu4⟩; have h4c : w4.cell? ⟨q, 2, none⟩ = some (.int .i64 x.a) := hu4.cell (by exact c2) NQ1.out)
            | (go_at_call 51; refine (GM.fin (r := (onS s (gRoot g x.a))) hm4 (fun v h => RPre.root h x.a)).mono ?_; rintro e w5 ⟨rfl, hL5, hu5⟩; have h5c : w5.cell? ⟨q, 2, none⟩ = some (.int .i64 x.a) := hu5.cell h4c NQ2.out)
            | (go_at_call 11; refine (sameE _ _ te).mono ?_; rintro e w6 ⟨rfl, rfl⟩))
        go_wp2_with fail
        go_ret
        exact ⟨rfl, _, _, hL5.more (by omega), foot_l u0 hu4 hu5⟩
      · have k2' : (x.kind.toList == [114, 111, 111, 116]) = false := by simpa using k2
        clear k2
        by_cases k3 : (x.kind.toList == [102, 111, 114, 103, 101, 116]) = true
        · have c2 := hB.c2
          have te : 0 ≤ (onS s (gForget g x.a)).1 := forget_code s g x.a
          go_wp2_with fail
          go_region_held3 (fun w' => w'.cell? ⟨q, 2, none⟩ = some (.int .i64 x.a)) (first | exact c2 | exact h4c | exact h5c)
            (first
              | (go_at_call 52; refine (GL.mid (r := (onS s (gForget g x.a))) (HJd.out) hW (GG.forget HJd.out.p x.a)).mono ?_; rintro e w4 ⟨rfl, hm4, hu4⟩; have h4c : w4.cell? ⟨q, 2, none⟩ = some (.int .i64 x.a) := hu4.cell (by exact c2) NQ1.out)
              | (go_at_call 53; refine (GM.fin (r := (onS s (gForget g x.a))) hm4 (fun v h => RPre.forget h x.a)).mono ?_; rintro e w5 ⟨rfl, hL5, hu5⟩; have h5c : w5.cell? ⟨q, 2, none⟩ = some (.int .i64 x.a) := hu5.cell h4c NQ2.out)
              | (go_at_call 11; refine (sameE _ _ te).mono ?_; rintro e w6 ⟨rfl, rfl⟩))
          go_wp2_with fail
          go_ret
          exact ⟨rfl, _, _, hL5.more (by omega), foot_l u0 hu4 hu5⟩
        · have k3' : (x.kind.toList == [102, 111, 114, 103, 101, 116]) = false := by simpa using k3
          clear k3
          by_cases k4 : (x.kind.toList == [100, 114, 111, 112]) = true
          · have c2 := hB.c2
            have te : 0 ≤ (onS s (gForgetAll g x.a)).1 := forgetAll_code s g x.a
            go_wp2_with fail
            go_region_held3 (fun w' => w'.cell? ⟨q, 2, none⟩ = some (.int .i64 x.a)) (first | exact c2 | exact h4c | exact h5c)
              (first
                | (go_at_call 17; refine (GL.mid (r := (onS s (gForgetAll g x.a))) (HJd.out) hW (GG.forgetAll HJd.out.p x.a)).mono ?_; rintro e w4 ⟨rfl, hm4, hu4⟩; have h4c : w4.cell? ⟨q, 2, none⟩ = some (.int .i64 x.a) := hu4.cell (by exact c2) NQ1.out)
                | (go_at_call 54; refine (GM.fin (r := (onS s (gForgetAll g x.a))) hm4 (fun v h => RPre.forgetAll h x.a)).mono ?_; rintro e w5 ⟨rfl, hL5, hu5⟩; have h5c : w5.cell? ⟨q, 2, none⟩ = some (.int .i64 x.a) := hu5.cell h4c NQ2.out)
                | (go_at_call 11; refine (sameE _ _ te).mono ?_; rintro e w6 ⟨rfl, rfl⟩))
            go_wp2_with fail
            go_ret
            exact ⟨rfl, _, _, hL5.more (by omega), foot_l u0 hu4 hu5⟩
          · have k4' : (x.kind.toList == [100, 114, 111, 112]) = false := by simpa using k4
            clear k4
            by_cases k5 : (x.kind.toList == [112, 108, 117, 103]) = true
            · have c2 := hB.c2
              have te : 0 ≤ (gPlug s g x.a).1 := plug_code s g.m x.a
              go_wp2_with fail
              go_region_held3 (fun w' => w'.cell? ⟨q, 2, none⟩ = some (.int .i64 x.a)) (first | exact c2 | exact h4c | exact h5c)
                (first
                  | (go_at_call 36; refine (GL.mid (r := (gPlug s g x.a)) (HJd.out) hW (GG.plug HJd.out.p x.a)).mono ?_; rintro e w4 ⟨rfl, hm4, hu4⟩; have h4c : w4.cell? ⟨q, 2, none⟩ = some (.int .i64 x.a) := hu4.cell (by exact c2) NQ1.out)
                  | (go_at_call 55; refine (GM.fin (r := (gPlug s g x.a)) hm4 (fun v h => RPre.plug h x.a)).mono ?_; rintro e w5 ⟨rfl, hL5, hu5⟩; have h5c : w5.cell? ⟨q, 2, none⟩ = some (.int .i64 x.a) := hu5.cell h4c NQ2.out)
                  | (go_at_call 11; refine (sameE _ _ te).mono ?_; rintro e w6 ⟨rfl, rfl⟩))
              go_wp2_with fail
              go_ret
              exact ⟨rfl, _, _, hL5.more (by omega), foot_l u0 hu4 hu5⟩
            · have k5' : (x.kind.toList == [112, 108, 117, 103]) = false := by simpa using k5
              clear k5
              by_cases k6 : (x.kind.toList == [117, 110, 112, 108, 117, 103]) = true
              · have c2 := hB.c2
                have te : 0 ≤ (gUnplug s g x.a).1 := unplug_code s g.m x.a
                go_wp2_with fail
                go_region_held3 (fun w' => w'.cell? ⟨q, 2, none⟩ = some (.int .i64 x.a)) (first | exact c2 | exact h4c | exact h5c)
                  (first
                    | (go_at_call 15; refine (GL.mid (r := (gUnplug s g x.a)) (HJd.out) hW (GG.unplug HJd.out.p x.a)).mono ?_; rintro e w4 ⟨rfl, hm4, hu4⟩; have h4c : w4.cell? ⟨q, 2, none⟩ = some (.int .i64 x.a) := hu4.cell (by exact c2) NQ1.out)
                    | (go_at_call 56; refine (GM.fin (r := (gUnplug s g x.a)) hm4 (fun v h => RPre.unplug h x.a)).mono ?_; rintro e w5 ⟨rfl, hL5, hu5⟩; have h5c : w5.cell? ⟨q, 2, none⟩ = some (.int .i64 x.a) := hu5.cell h4c NQ2.out)
                    | (go_at_call 11; refine (sameE _ _ te).mono ?_; rintro e w6 ⟨rfl, rfl⟩))
                go_wp2_with fail
                go_ret
                exact ⟨rfl, _, _, hL5.more (by omega), foot_l u0 hu4 hu5⟩
              · have k6' : (x.kind.toList == [117, 110, 112, 108, 117, 103]) = false := by simpa using k6
                clear k6
                by_cases k7 : (x.kind.toList == [103, 105, 118, 101]) = true
                · have c2 := hB.c2
                  have te : 0 ≤ (gGive s g x.a false).1 := give_code s g.m x.a false
                  go_wp2_with fail
                  go_region_held3 (fun w' => w'.cell? ⟨q, 2, none⟩ = some (.int .i64 x.a)) (first | exact c2 | exact h4c | exact h5c)
                    (first
                      | (go_at_call 57; refine (GL.mid (r := (gGive s g x.a false)) (HJd.out) hW (GG.give HJd.out.p x.a)).mono ?_; rintro e w4 ⟨rfl, hm4, hu4⟩; have h4c : w4.cell? ⟨q, 2, none⟩ = some (.int .i64 x.a) := hu4.cell (by exact c2) NQ1.out)
                      | (go_at_call 58; refine (GM.fin (r := (gGive s g x.a false)) hm4 (fun v h => RPre.give h x.a false)).mono ?_; rintro e w5 ⟨rfl, hL5, hu5⟩; have h5c : w5.cell? ⟨q, 2, none⟩ = some (.int .i64 x.a) := hu5.cell h4c NQ2.out)
                      | (go_at_call 11; refine (sameE _ _ te).mono ?_; rintro e w6 ⟨rfl, rfl⟩))
                  go_wp2_with fail
                  go_ret
                  exact ⟨rfl, _, _, hL5.more (by omega), foot_l u0 hu4 hu5⟩
                · have k7' : (x.kind.toList == [103, 105, 118, 101]) = false := by simpa using k7
                  clear k7
                  by_cases k8 : (x.kind.toList == [98, 97, 99, 107]) = true
                  · have c2 := hB.c2
                    have te : 0 ≤ (gGive s g x.a true).1 := give_code s g.m x.a true
                    go_wp2_with fail
                    go_region_held3 (fun w' => w'.cell? ⟨q, 2, none⟩ = some (.int .i64 x.a)) (first | exact c2 | exact h4c | exact h5c)
                      (first
                        | (go_at_call 59; refine (GL.mid (r := (gGive s g x.a true)) (HJd.out) hW (GG.back HJd.out.p x.a)).mono ?_; rintro e w4 ⟨rfl, hm4, hu4⟩; have h4c : w4.cell? ⟨q, 2, none⟩ = some (.int .i64 x.a) := hu4.cell (by exact c2) NQ1.out)
                        | (go_at_call 58; refine (GM.fin (r := (gGive s g x.a true)) hm4 (fun v h => RPre.give h x.a true)).mono ?_; rintro e w5 ⟨rfl, hL5, hu5⟩; have h5c : w5.cell? ⟨q, 2, none⟩ = some (.int .i64 x.a) := hu5.cell h4c NQ2.out)
                        | (go_at_call 11; refine (sameE _ _ te).mono ?_; rintro e w6 ⟨rfl, rfl⟩))
                    go_wp2_with fail
                    go_ret
                    exact ⟨rfl, _, _, hL5.more (by omega), foot_l u0 hu4 hu5⟩
                  · have k8' : (x.kind.toList == [98, 97, 99, 107]) = false := by simpa using k8
                    clear k8
                    by_cases k9 : (x.kind.toList == [106, 111, 105, 110]) = true
                    · have c2 := hB.c2
                      have c3 := hB.c3
                      have te : 0 ≤ (gJoin s g x.a x.b).1 := join_code s g.m x.a x.b
                      go_wp2_with fail
                      go_region_held3 (fun w' => w'.cell? ⟨q, 2, none⟩ = some (.int .i64 x.a) ∧ w'.cell? ⟨q, 3, none⟩ = some (.int .i64 x.b)) (first | exact ⟨c2, c3⟩ | exact h4c | exact h5c)
                        (first
                          | (go_at_call 60; refine (GL.mid (r := (gJoin s g x.a x.b)) (HJd.out) hW (GG.join HJd.out.p x.a x.b)).mono ?_; rintro e w4 ⟨rfl, hm4, hu4⟩; have h4c : w4.cell? ⟨q, 2, none⟩ = some (.int .i64 x.a) ∧ w4.cell? ⟨q, 3, none⟩ = some (.int .i64 x.b) := ⟨hu4.cell (by exact c2) NQ1.out, hu4.cell (by exact c3) NQ1.out⟩)
                          | (go_at_call 61; refine (GM.fin (r := (gJoin s g x.a x.b)) hm4 (fun v h => RPre.join h x.a x.b)).mono ?_; rintro e w5 ⟨rfl, hL5, hu5⟩; have h5c : w5.cell? ⟨q, 2, none⟩ = some (.int .i64 x.a) ∧ w5.cell? ⟨q, 3, none⟩ = some (.int .i64 x.b) := ⟨hu5.cell (h4c.1) NQ2.out, hu5.cell (h4c.2) NQ2.out⟩)
                          | (go_at_call 11; refine (sameE _ _ te).mono ?_; rintro e w6 ⟨rfl, rfl⟩))
                      go_wp2_with fail
                      go_ret
                      exact ⟨rfl, _, _, hL5.more (by omega), foot_l u0 hu4 hu5⟩
                    · have k9' : (x.kind.toList == [106, 111, 105, 110]) = false := by simpa using k9
                      clear k9
                      have c2 := hB.c2
                      have te : 0 ≤ (gSeal s g x.a).1 := seal_code g.m x.a
                      go_wp2_with fail
                      go_region_held3 (fun w' => w'.cell? ⟨q, 2, none⟩ = some (.int .i64 x.a)) (first | exact c2 | exact h4c | exact h5c)
                        (first
                          | (go_at_call 62; refine (GL.mid (r := (gSeal s g x.a)) (HJd.out) hW (GG.seal HJd.out.p x.a)).mono ?_; rintro e w4 ⟨rfl, hm4, hu4⟩; have h4c : w4.cell? ⟨q, 2, none⟩ = some (.int .i64 x.a) := hu4.cell (by exact c2) NQ1.out)
                          | (go_at_call 63; refine (GM.fin (r := (gSeal s g x.a)) hm4 (fun v h => RPre.seal h x.a)).mono ?_; rintro e w5 ⟨rfl, hL5, hu5⟩; have h5c : w5.cell? ⟨q, 2, none⟩ = some (.int .i64 x.a) := hu5.cell h4c NQ2.out)
                          | (go_at_call 11; refine (sameE _ _ te).mono ?_; rintro e w6 ⟨rfl, rfl⟩))
                      go_wp2_with fail
                      go_ret
                      exact ⟨rfl, _, _, hL5.more (by omega), foot_l u0 hu4 hu5⟩
end Go.Proofs.YtadpibcgjgcjhaaGreat
/- The law's asGuest: a guest has what its model has. -/
namespace Go.Proofs.YtadpibcgjgcjhaaGreat
open Go.ChangeShapes Go.WideShapes Go.ChangeAt Go.RowKit
set_option maxRecDepth 100000
attribute [local go_sem ↓] Go.wp_at_zero Go.wp_at_succ
variable {w w' : World} {bg bp bf bl bc bx bm base : Nat} {s : Pl} {g : Gs} {W : Int}

set_option maxHeartbeats 1000000 in
theorem asGuest_any (h : GL w bg bp bf bl bc bx bm base s g W) :
    Calls Tryz.prog 19 #[.pointer (some ⟨bg, 0, none⟩), .pointer (some ⟨bx, 0, none⟩)] w fun e w' => e = .returned (.bool true) ∧ Upd (fun _ => False) w w' := by
  obtain ⟨v, hr, hv⟩ := h.rg
  have c66 := hr.c66
  have c67 := hr.c67
  have HG : Hid (GG w bg bp bf bl bc s g mp0 W) := h.p
  have HR : Hid (RGu w bx bm base v g) := hr
  have b1 : (g.root != g.root) = false := by simp
  have b2 : (g.walks != g.walks) = false := by simp
  clear h hr
  go_enter Tryz.func19, Tryz.ntmps19
  go_wp2_with fail
  have sA : w.cell? ⟨bx, 66, none⟩ = some (.int .i64 g.root) ∧ w.cell? ⟨bx, 67, none⟩ = some (.int .i64 g.walks) := ⟨c66, c67⟩
  have sD : w.drew.cell? ⟨bx, 66, none⟩ = some (.int .i64 g.root) ∧ w.drew.cell? ⟨bx, 67, none⟩ = some (.int .i64 g.walks) := ⟨c66, c67⟩
  have HGd : Hid (GG w.drew bg bp bf bl bc s g mp0 W) := HG.out.same (Upd.refl _ _).drew
  have HRd : Hid (RGu w.drew bx bm base v g) := HR.out.upd (Upd.refl (fun _ => False) _).drew (fun f => f) (fun _ _ f => f)
  have HEN : Hid (∀ x ∈ g.c, 0 ≤ x.dest ∧ x.dest < 16) := HG.out.inv.en
  have hl4 := HG.out.inv.len
  have hl5 : (shows g.m g.c).length ≤ 50 := by rw [shows_length]; omega
  go_region_held3 (fun w' => w'.cell? ⟨bx, 66, none⟩ = some (.int .i64 g.root) ∧ w'.cell? ⟨bx, 67, none⟩ = some (.int .i64 g.walks)) (first | with_reducible exact h5c | with_reducible exact h4c | with_reducible exact h6c | with_reducible exact sD | with_reducible exact sA)
    (first
      | (go_at_call 38; refine (GG.rootOf HGd.out).mono ?_; rintro e w1 ⟨rfl, hw1⟩; subst hw1)
      | (go_at_call 64; refine (GG.walksOf HGd.out).mono ?_; rintro e w2 ⟨rfl, hw2⟩; subst hw2)
      | (go_at_call 66; refine (GG.cached HGd.out).mono ?_; rintro e w4 ⟨v4, rfl, hs4, hu4⟩; have h4c : w4.cell? ⟨bx, 66, none⟩ = some (.int .i64 g.root) ∧ w4.cell? ⟨bx, 67, none⟩ = some (.int .i64 g.walks) := ⟨hu4.cell (by exact c66) (fun f => f), hu4.cell (by exact c67) (fun f => f)⟩; have HS4 : Hid (SlC w4 w.drew.heap.size v4 (shows g.m g.c)) := hs4; have HR4 : Hid (RGu w4 bx bm base v g) := HRd.out.upd hu4 (fun f => f) (fun _ _ f => f); clear hs4)
      | (go_at_call 67; refine (gCached_any _ bx bm base v g HR4.out HEN.out hl4).mono ?_; rintro e w5 ⟨v5, rfl, hs5, hu5⟩; have h5c : w5.cell? ⟨bx, 66, none⟩ = some (.int .i64 g.root) ∧ w5.cell? ⟨bx, 67, none⟩ = some (.int .i64 g.walks) := ⟨hu5.cell h4c.1 (fun f => f), hu5.cell h4c.2 (fun f => f)⟩; have HS5 : Hid (SlC w5 w4.heap.size v5 (shows g.m g.c)) := hs5; have HS45 : Hid (SlC w5 w.drew.heap.size v4 (shows g.m g.c)) := HS4.out.upd hu5 (fun _ _ f => f); clear hs5)
      | (go_at_call 65; refine (cSame_any _ _ _ v4 v5 (shows g.m g.c) HS45.out HS5.out hl5).mono ?_; rintro e w6 ⟨rfl, mm, rfl⟩; have h6c : (w5.drewN mm).cell? ⟨bx, 66, none⟩ = some (.int .i64 g.root) ∧ (w5.drewN mm).cell? ⟨bx, 67, none⟩ = some (.int .i64 g.walks) := h5c))
  have HU6 : Hid (Upd (fun _ => False) w (w5.drewN mm)) := (((Upd.refl (fun _ => False) w).drew.trans hu4 (fun _ _ f => f)).trans hu5 (fun _ _ f => f)).drewN mm
  clear h4c h5c h6c HS4 HS5 HS45 HR4 hu4 hu5 sA sD HGd HRd c66 c67
  revert HU6
  generalize w5.drewN mm = w6
  intro HU6
  go_wp2_with fail
  go_loopg [5] 16 (fun gg i wr => ∃ k : Nat, k + gg = 16 ∧ i = .int .i64 k ∧ Upd (fun _ => False) w wr)
  case atStart => exact ⟨0, by omega, rfl, HU6.out⟩
  case round =>
    obtain ⟨k, hk, rfl, hU⟩ := hrel
    have HN : Hid _ := hk
    clear hk HU6
    by_cases hlt : k < 16
    · have hG1 := HG.out.same hU
      have k0 : (0 : Int) ≤ (k : Int) := by omega
      have k1 : (k : Int) < 16 := by omega
      have HG1 : Hid (GG wr bg bp bf bl bc s g mp0 W) := hG1
      have HU1 : Hid _ := hU
      clear hG1 hU
      go_wp2_with fail
      refine (HG1.out.stateOf k hlt).mono ?_
      rintro e w2 ⟨rfl, hu2⟩
      have HU2 : Hid _ := HU1.out.trans hu2 (fun _ _ f => f)
      clear hu2 HU1 HG1
      go_wp2_with fail
      refine ((HG.out.same HU2.out).leafOf k hlt).mono ?_
      rintro e w3 ⟨rfl, hu3⟩
      have HU3 : Hid _ := HU2.out.trans hu3 (fun _ _ f => f)
      clear hu3 HU2
      go_wp2_with fail
      have q3 := LfAt.new w3 43 (g.m.lf k)
      have hU4 := HU3.out.alloc (.cells #[.bool (g.m.lf k).there, .bool (g.m.lf k).wr, .int .i64 (g.m.lf k).fr] 43)
      revert q3 hU4
      generalize w3.alloc (.cells #[.bool (g.m.lf k).there, .bool (g.m.lf k).wr, .int .i64 (g.m.lf k).fr] 43) = w4
      generalize w3.heap.size = q
      intro q3 hU4
      have hX4 := (HR.out.upd hU4 (fun f => f) (fun _ _ f => f)).mp
      have c1 := hX4.st k hlt
      have c2 := hX4.th k hlt
      have c3 := hX4.wr k hlt
      have c4 := hX4.fr k hlt
      obtain ⟨y0, y1, y2⟩ := q3
      have b3 : (g.m.st k != g.m.st k) = false := by simp
      have HU4 : Hid _ := hU4
      clear hX4 hU4 HU3
      go_quiet (fail)
      go_wp2_with fail
      go_roundg (16 - (k + 1))
      case rel => exact ⟨k + 1, by omega, by go_num, HU4.out.drewN nq⟩
      case measure => have := HN.out; omega
    · go_wp2_with fail
      go_ret
      exact ⟨rfl, hU⟩
end Go.Proofs.YtadpibcgjgcjhaaGreat
/- The law's runs: a closed fact: a byte is stored. -/
namespace Go.Proofs.YtadpibcgjgcjhaaGreat
open Go.ChangeShapes Go.WideShapes Go.ChangeAt Go.RowKit
set_option maxRecDepth 100000
attribute [local go_sem ↓] Go.wp_at_zero Go.wp_at_succ

theorem GInv.start (n : Nat) : GInv (pl0 n) gs0 mp0 0 where
  inv := Inv.start n
  byt := fun _ _ => by show 0 ≤ (0 : Int) ∧ (0 : Int) ≤ 255; omega
  len := by show 0 ≤ 4; omega
  w0 := by show (0 : Int) ≤ 0; omega
  w1 := by show (0 : Int) ≤ 0; omega
  r0 := by show (-1 : Int) ≤ -1; omega
  r1 := by show (-1 : Int) ≤ 15; omega
  en := fun x hx => by simp [gs0] at hx
theorem GG.start {w : World} {bg bp bf bl bc n : Nat} (hn : 0 < n) (hp : PoolAt w bp bf (pl0 n)) (hc : GCell w bg bp bl bc (-1) 0) (hl : LvAt w bl bp mp0) (ha : CaL w bc []) (hap : GAp bg bp bf bl bc) : GG w bg bp bf bl bc (pl0 n) gs0 mp0 0 :=
  ⟨hc, hp, hl, ha, hap, GInv.start n, dist_nil, hn⟩
theorem run1 : (gPlug (pl0 3) gs0 1).1 = 0 := rfl
theorem run2 : (gStore (gPlug (pl0 3) gs0 1).2.1 (gPlug (pl0 3) gs0 1).2.2 17 5).1 = 0 := by kernel_rfl
theorem run3 : (gLoad (gStore (gPlug (pl0 3) gs0 1).2.1 (gPlug (pl0 3) gs0 1).2.2 17 5).2.1 (gStore (gPlug (pl0 3) gs0 1).2.1 (gPlug (pl0 3) gs0 1).2.2 17 5).2.2 17).1 = (5, 0) := by kernel_rfl
theorem run4 : (gLoad (gStore (gPlug (pl0 3) gs0 1).2.1 (gPlug (pl0 3) gs0 1).2.2 17 5).2.1 (gStore (gPlug (pl0 3) gs0 1).2.1 (gPlug (pl0 3) gs0 1).2.2 17 5).2.2 17).2.2.root = -1 := by kernel_rfl
theorem runs_any (w : World) : Calls Tryz.prog 7 #[] w fun e w' => e = .returned (.bool true) ∧ Upd (fun _ => False) w w' := by
  go_enter Tryz.func7, Tryz.ntmps7
  go_wp2_with fail
  have HP : Hid _ := new_any w 3 (by omega) (by omega)
  refine Calls.mono HP.out ?_
  rintro e w1 ⟨rfl, hp1, hu1, hz⟩
  go_wp2_with fail
  refine (gNew _ _).mono ?_
  rintro e w2 ⟨bg, bl, bc, rfl, hc, hl, ha, z1, z2, z3, n1, n2, n3, hu2⟩
  have hp2 := hp1.upd hu2 (fun f => f) (fun f => f) (by omega)
  have hg2 := GG.start (show 0 < 3 by omega) hp2 hc hl ha (by unfold GAp; omega)
  have HU2 : Hid _ := hu1.trans hu2 (fun _ _ f => f)
  have HZ : Hid (∀ i, i < w.heap.size → ¬ GFt bg w.heap.size bl bc i) := show ∀ i, _ → _ from fun i hi e => by unfold GFt at e; omega
  have h3 := hg2.plug 1
  unfold GPost at h3
  rw [run1, errV_zero] at h3
  have H3 : Hid _ := h3
  clear hc hl ha z1 z2 z3 n1 n2 n3 hu1 hu2 hp1 hp2 hz h3 hg2 HP
  go_wp2_with fail
  refine Calls.mono H3.out ?_
  rintro e w3 ⟨rfl, hg3, hu3⟩
  have h4 := hg3.store 17 5 (by omega) (by omega) (by omega)
  unfold GPost at h4
  rw [run2, errV_zero] at h4
  have H4 : Hid _ := h4
  have HU3 : Hid _ := HU2.out.trans hu3 (fun i hi e => HZ.out i hi e)
  clear H3 hg3 hu3 h4 HU2
  go_wp2_with fail
  refine Calls.mono H4.out ?_
  rintro e w4 ⟨rfl, hg4, hu4⟩
  have h5 := hg4.load 17 (by omega)
  unfold LPost at h5
  rw [run3, errV_zero] at h5
  have H5 : Hid _ := h5
  have HU4 : Hid _ := HU3.out.trans hu4 (fun i hi e => HZ.out i hi e)
  clear H4 hg4 hu4 h5 HU3
  go_wp2_with fail
  refine Calls.mono H5.out ?_
  rintro e w5 ⟨rfl, hg5, hu5⟩
  have h6 := hg5.rootOf
  rw [run4] at h6
  have H6 : Hid _ := h6
  have HU5 : Hid _ := HU4.out.trans hu5 (fun i hi e => HZ.out i hi e)
  clear H5 hg5 hu5 h6 HU4
  go_wp2_with fail
  refine (same0 _).mono ?_
  rintro e w6 ⟨rfl, hw6⟩
  subst hw6
  go_wp2_with fail
  refine (same0 _).mono ?_
  rintro e w7 ⟨rfl, hw7⟩
  subst hw7
  go_wp2_with fail
  refine Calls.mono H6.out ?_
  rintro e w8 ⟨rfl, hw8⟩
  subst hw8
  go_wp2_with fail
  go_ret
  exact ⟨rfl, HU5.out⟩
end Go.Proofs.YtadpibcgjgcjhaaGreat
