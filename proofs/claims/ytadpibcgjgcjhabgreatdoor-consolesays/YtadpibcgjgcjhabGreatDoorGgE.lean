/- Package guest: what is remembered; the table is read. -/
import Derived.Test.YtadpibcgjgcjhabGreatDoorGgD
namespace Go.Proofs.YtadpibcgjgcjhabGreatDoor
open Go.ChangeShapes Go.WideShapes Go.ChangeAt Go.RowKit
set_option maxRecDepth 100000
attribute [local go_sem ↓] Go.wp_at_zero Go.wp_at_succ
variable {w w' : World} {bg bp bf bl bc : Nat} {s : Pl} {g : Gs} {b : Mp} {W : Int}

/-- An entry's box. -/
def EnAt (w : World) (q : Nat) (x : En) : Prop := ∀ j, j < 7 → w.cell? ⟨q, j, none⟩ = (enCells x)[j]?
theorem EnAt.upd {S : Nat → Prop} {q : Nat} {x : En} (h : EnAt w q x) (u : Upd S w w') (hq : ¬ S q) : EnAt w' q x := fun j hj => by
  obtain ⟨v, hv⟩ := enCells_some x j hj
  rw [hv]
  exact u.cell ((h j hj).trans hv) hq
theorem EnAt.new (w : World) (t : TypeId) (x : En) : EnAt (w.alloc (.cells #[.int .i64 x.root, .int .i64 x.page, .int .i64 x.dest, .bool x.may, .bool x.lf.there, .bool x.lf.wr, .int .i64 x.lf.fr] t)) w.heap.size x := fun j _ => by
  rw [World.cell?_alloc_new]
  show (enCells x).toArray[j]? = _
  simp
theorem EnAt.setLf {q : Nat} {x : En} (h : EnAt w q x) (l : Lf) : EnAt (((w.setCell ⟨q, 4, none⟩ (.bool l.there)).setCell ⟨q, 5, none⟩ (.bool l.wr)).setCell ⟨q, 6, none⟩ (.int .i64 l.fr)) q { x with lf := l } := by
  have e4 : w.cell? ⟨q, 4, none⟩ = some (.bool x.lf.there) := h 4 (by omega)
  have e5 : (w.setCell ⟨q, 4, none⟩ (.bool l.there)).cell? ⟨q, 5, none⟩ = some (.bool x.lf.wr) := by rw [World.cell?_setCell_other _ _ _ _ (addr_ne (Or.inr (by omega)))]; exact h 5 (by omega)
  have e6 : ((w.setCell ⟨q, 4, none⟩ (.bool l.there)).setCell ⟨q, 5, none⟩ (.bool l.wr)).cell? ⟨q, 6, none⟩ = some (.int .i64 x.lf.fr) := by rw [World.cell?_setCell_other _ _ _ _ (addr_ne (Or.inr (by omega))), World.cell?_setCell_other _ _ _ _ (addr_ne (Or.inr (by omega)))]; exact h 6 (by omega)
  intro j hj
  by_cases h6 : j = 6
  · subst h6; rw [World.cell?_setCell_same _ _ _ e6]; rfl
  · rw [World.cell?_setCell_other _ _ _ _ (addr_ne (Or.inr (by omega)))]
    by_cases h5 : j = 5
    · subst h5; rw [World.cell?_setCell_same _ _ _ e5]; rfl
    · rw [World.cell?_setCell_other _ _ _ _ (addr_ne (Or.inr (by omega)))]
      by_cases h4 : j = 4
      · subst h4; rw [World.cell?_setCell_same _ _ _ e4]; rfl
      · rw [World.cell?_setCell_other _ _ _ _ (addr_ne (Or.inr (by omega))), h j hj]
        have : j = 0 ∨ j = 1 ∨ j = 2 ∨ j = 3 := by omega
        rcases this with rfl | rfl | rfl | rfl <;> rfl
set_option maxHeartbeats 1000000 in
theorem remember_any (w : World) (bg bp bl bc k : Nat) (r c : Int) (x : En) (m : Mp) (es : List En) (h : GCell w bg bp bl bc r c) (hl : LvAt w bl bp m) (hc : CaL w bc es) (hx : x.dest = k) (hk : k < 16) (l : Lf) (hml : m.lf k = l) :
    Calls Tryz.prog 176 #[.pointer (some ⟨bg, 0, none⟩), .agg #[.int .i64 x.root, .int .i64 x.page, .int .i64 x.dest, .bool x.may, .bool x.lf.there, .bool x.lf.wr, .int .i64 x.lf.fr]] w fun e w' => e = .returned (.tuple #[]) ∧ CaL w' bc (putK es { x with lf := l }) ∧ Upd (fun k => k = bc) w w' := by
  have u1 := (Upd.refl (fun _ => False) w).alloc (.cells #[.int .i64 x.root, .int .i64 x.page, .int .i64 x.dest, .bool x.may, .bool x.lf.there, .bool x.lf.wr, .int .i64 x.lf.fr] 151)
  have he := EnAt.new w 151 x
  have hz : ∀ o, (w.alloc (.cells #[.int .i64 x.root, .int .i64 x.page, .int .i64 x.dest, .bool x.may, .bool x.lf.there, .bool x.lf.wr, .int .i64 x.lf.fr] 151)).frozen? ⟨w.heap.size, o, none⟩ = false := fun o => World.frozen?_alloc_new _ _ _ _
  have hsz : w.heap.size < (w.alloc (.cells #[.int .i64 x.root, .int .i64 x.page, .int .i64 x.dest, .bool x.may, .bool x.lf.there, .bool x.lf.wr, .int .i64 x.lf.fr] 151)).heap.size := by simp
  have hgl := h.lt
  have hcl := hc.lt
  have h1 := h.upd u1 (fun f => f)
  have hl1 := hl.upd u1 (fun f => f)
  have hc1 : CaL _ bc es := hc.upd u1 (fun f => f)
  obtain ⟨xr, xp, xd, xm, xl⟩ := x
  simp only at hx
  subst hx
  have HX : Hid _ := u1
  go_enter Tryz.func176, Tryz.ntmps176
  go_wp2_with fail
  revert he hz hsz h1 hl1 hc1 HX
  clear u1 h hl hc
  generalize w.alloc (.cells #[.int .i64 xr, .int .i64 xp, .int .i64 (k : Int), .bool xm, .bool xl.there, .bool xl.wr, .int .i64 xl.fr] 151) = w1
  generalize hqq : w.heap.size = q at *
  have HQ : Hid (w.heap.size = q) := hqq
  clear hqq
  intro he hz hsz h1 hl1 hc1 HX
  have g1 := h1.c1
  have x2 : w1.cell? ⟨q, 2, none⟩ = some (.int .i64 k) := he 2 (by omega)
  have hleaf := gLeaf_on w1.drew bl bp k m hl1.drew hk
  rw [hml] at hleaf
  have HL : Hid _ := hleaf
  have HE : Hid (EnAt w1.drew q ⟨xr, xp, k, xm, xl⟩) := he
  have HZ : Hid (∀ o, w1.drew.frozen? ⟨q, o, none⟩ = false) := hz
  have HSZ : Hid (q < w1.drew.heap.size) := hsz
  have H1 : Hid (GCell w1.drew bg bp bl bc r c) := h1.upd ((Upd.refl (fun _ => False) w1).drew) (fun f => f)
  have HC1 : Hid (CaL w1.drew bc es) := hc1.upd ((Upd.refl (fun _ => False) w1).drew) (fun f => f)
  have HX' : Hid (Upd (fun _ => False) w w1.drew) := HX.out.drew
  clear he hz hsz h1 hl1 hc1 HX hleaf hml
  have nq : bg ≠ q := by omega
  have nc : bc ≠ q := by omega
  go_region_with (go_at_call 144; refine Calls.mono HL.out ?_; rintro e w2 ⟨rfl, hu2⟩; have he2 := EnAt.upd HE.out hu2 (fun f => f); have y4 : w2.cell? ⟨q, 4, none⟩ = some (.bool xl.there) := he2 4 (by omega); have y5 : w2.cell? ⟨q, 5, none⟩ = some (.bool xl.wr) := he2 5 (by omega); have y6 : w2.cell? ⟨q, 6, none⟩ = some (.int .i64 xl.fr) := he2 6 (by omega); have z0 : ∀ o, w2.frozen? ⟨q, o, none⟩ = false := fun o => (by rw [World.frozen?_of_block (hu2.block q HSZ.out (fun f => f))]; exact HZ.out o); have z4 := z0 4; have z5 := z0 5; have z6 := z0 6; have HE2 : Hid (EnAt w2 q ⟨xr, xp, k, xm, xl⟩) := he2; have HU2 : Hid _ := hu2; clear he2 z0 hu2)
  all_goals
    have HU3 : Hid (Upd (fun k => k = q) w2 (((w2.setCell ⟨q, 4, none⟩ (.bool l.there)).setCell ⟨q, 5, none⟩ (.bool l.wr)).setCell ⟨q, 6, none⟩ (.int .i64 l.fr))) := Upd.three w2 q 4 5 6 _ _ _
    have HE3 : Hid (EnAt (((w2.setCell ⟨q, 4, none⟩ (.bool l.there)).setCell ⟨q, 5, none⟩ (.bool l.wr)).setCell ⟨q, 6, none⟩ (.int .i64 l.fr)) q ⟨xr, xp, k, xm, l⟩) := EnAt.setLf HE2.out l
    clear y4 y5 y6 z4 z5 z6 g1 x2 HL HE HZ HSZ HE2
    go_wp2_with fail
    revert HU3 HE3
    generalize ((w2.setCell ⟨q, 4, none⟩ (.bool l.there)).setCell ⟨q, 5, none⟩ (.bool l.wr)).setCell ⟨q, 6, none⟩ (.int .i64 l.fr) = w3
    intro HU3 HE3
    have g2 := ((H1.out.upd HU2.out (fun f => f)).upd HU3.out nq).c2
    have HC3 : Hid (CaL w3.drew bc es) := ((HC1.out.upd HU2.out (fun f => f)).upd HU3.out nc).upd ((Upd.refl (fun _ => False) w3).drew) (fun f => f)
    have y0 : w3.cell? ⟨q, 0, none⟩ = some (.int .i64 xr) := HE3.out 0 (by omega)
    have y1 : w3.cell? ⟨q, 1, none⟩ = some (.int .i64 xp) := HE3.out 1 (by omega)
    have y2 : w3.cell? ⟨q, 2, none⟩ = some (.int .i64 k) := HE3.out 2 (by omega)
    have y3 : w3.cell? ⟨q, 3, none⟩ = some (.bool xm) := HE3.out 3 (by omega)
    have y4 : w3.cell? ⟨q, 4, none⟩ = some (.bool l.there) := HE3.out 4 (by omega)
    have y5 : w3.cell? ⟨q, 5, none⟩ = some (.bool l.wr) := HE3.out 5 (by omega)
    have y6 : w3.cell? ⟨q, 6, none⟩ = some (.int .i64 l.fr) := HE3.out 6 (by omega)
    have HU : Hid (Upd (fun _ => False) w w3) := (HX'.out.trans HU2.out (fun _ _ f => f)).trans HU3.out (fun i hi e => by have := HQ.out; omega)
    clear HU2 HU3 HC1 H1 HX' HE3
    go_region_with (go_at_call 194; refine (kPut_any _ bc es ⟨xr, xp, k, xm, l⟩ HC3.out).mono ?_; rintro e w4 ⟨rfl, hc4, hu4⟩; have HC4 : Hid (CaL w4 bc (putK es ⟨xr, xp, k, xm, l⟩)) := hc4; have HU4 : Hid _ := hu4; clear hc4 hu4)
    all_goals
      go_wp2_with fail
      go_end0
      exact ⟨rfl, HC4.out, (HU.out.wide (T := fun k => k = bc) (fun _ f => f.elim)).drew.trans HU4.out (fun _ _ e => e)⟩
end Go.Proofs.YtadpibcgjgcjhabGreatDoor
