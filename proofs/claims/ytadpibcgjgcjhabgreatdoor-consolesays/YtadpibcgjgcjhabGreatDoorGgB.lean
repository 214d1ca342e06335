/- Package guest: a guest and its pool in one state; touch. -/
import Derived.Test.YtadpibcgjgcjhabGreatDoorGgA
import Derived.Test.YtadpibcgjgcjhabGreatDoorGuS
namespace Go.Proofs.YtadpibcgjgcjhabGreatDoor
open Go.ChangeShapes Go.WideShapes Go.ChangeAt Go.RowKit
set_option maxRecDepth 100000
attribute [local go_sem ↓] Go.wp_at_zero Go.wp_at_succ

/-- A guest of package guest, with its pool, in one state. -/
structure GG (w : World) (bg bp bf bl bc : Nat) (s : Pl) (g : Gs) (b : Mp) (W : Int) : Prop where
  ce : GCell w bg bp bl bc g.root g.walks
  pool : PoolAt w bp bf s
  lv : LvAt w bl bp g.m
  ca : CaL w bc (shows g.m g.c)
  ap : GAp bg bp bf bl bc
  inv : GInv s g b W
  di : Dist g.c
  hn : 0 < s.n
/-- What the acts of a guest may turn. -/
def GFt (bg bf bl bc : Nat) : Nat → Prop := fun k => k = bf ∨ k = bl ∨ k = bc ∨ k = bg
def GPost (w : World) (bg bp bf bl bc : Nat) (r : Int × Pl × Gs) (b : Mp) (W : Int) (e : Ending) (w' : World) : Prop :=
  e = .returned (errV r.1) ∧ GG w' bg bp bf bl bc r.2.1 r.2.2 b W ∧ Upd (GFt bg bf bl bc) w w'
variable {w w' : World} {bg bp bf bl bc : Nat} {s : Pl} {g : Gs} {b : Mp} {W : Int}
theorem GG.upd {S : Nat → Prop} (h : GG w bg bp bf bl bc s g b W) (u : Upd S w w') (h1 : ¬ S bg) (h2 : ¬ S bp) (h3 : ¬ S bf) (h4 : ¬ S bl) (h5 : ¬ S bc) : GG w' bg bp bf bl bc s g b W :=
  ⟨h.ce.upd u h1, h.pool.upd u h2 h3 (h.pool.lt h.hn), h.lv.upd u h4, h.ca.upd u h5, h.ap, h.inv, h.di, h.hn⟩
theorem GG.same (h : GG w bg bp bf bl bc s g b W) (u : Upd (fun _ => False) w w') : GG w' bg bp bf bl bc s g b W := h.upd u (fun f => f) (fun f => f) (fun f => f) (fun f => f) (fun f => f)
theorem GG.en (h : GG w bg bp bf bl bc s g b W) : ∀ x ∈ g.c, 0 ≤ x.dest := fun x hx => (h.inv.en x hx).1
theorem GG.more {W' : Int} (h : GG w bg bp bf bl bc s g b W) (hw : W ≤ W') : GG w bg bp bf bl bc s g b W' := { h with inv := h.inv.more hw }
/-- The pages turned, and what is remembered of them. -/
theorem GG.turned {S : Nat → Prop} {s' : Pl} {m' : Mp} (h : GG w bg bp bf bl bc s g b W) (u : Upd S w w') (hS : ¬ S bg) (hp : PoolAt w' bp bf s') (hl : LvAt w' bl bp m') (hc : CaL w' bc (shows m' g.c)) (hi : GInv s' { g with m := m' } b W) (hn : s'.n = s.n) : GG w' bg bp bf bl bc s' { g with m := m' } b W :=
  ⟨h.ce.upd u hS, hp, hl, hc, h.ap, hi, h.di, by rw [hn]; exact h.hn⟩

theorem touch1_any (w : World) (bg bp bf bl bc Bg Bw Bf : Nat) (n r k x : Int) (wt : Bool) (m b : Mp) (s : Pl) (h : GCell w bg bp bl bc r k) (hl : LvAt w bl bp m) (hp : PoolAt w bp bf s) (ha : GAp bg bp bf bl bc) (hn : 0 < s.n) (hi : Inv s m b)
    (cg : w.cell? ⟨Bg, 0, none⟩ = some (.pointer (some ⟨bg, 0, none⟩))) (cw : w.cell? ⟨Bw, 0, none⟩ = some (.bool wt)) (cf : w.cell? ⟨Bf, 0, none⟩ = some (.int .i64 x)) (zf : w.frozen? ⟨Bf, 0, none⟩ = false) (n1 : Bf ≠ bf) (n2 : Bf ≠ bl) (n3 : Bf ≠ bp) :
    ByOk w bp bf bl 172 #[.int .i64 n, .pointer (some ⟨Bg, 0, none⟩), .pointer (some ⟨Bw, 0, none⟩), .pointer (some ⟨Bf, 0, none⟩)] (touchR s m n wt).1.2.2 (touchR s m n wt).2.1 (touchR s m n wt).2.2 (fun k => k = bf ∨ k = bl ∨ k = Bf) (fun w1 => w1.cell? ⟨Bf, 0, none⟩ = some (.int .i64 (touchR s m n wt).1.1)) := by
  unfold ByOk
  have c1 := h.c1
  unfold GAp at ha
  have HT : Hid _ := lvTouch w.drew bl bp bf n wt m b s hl.drew hp.drew (by omega) (by omega) hn hi
  have hln : 0 < (touchR s m n wt).2.1.n := by rw [touch_n]; exact hn
  revert HT hln
  generalize touchR s m n wt = t
  intro HT hln
  obtain ⟨⟨f, mv, code⟩, s', m'⟩ := t
  clear ha h hl hp hi
  go_enter Tryz.func172, Tryz.ntmps172
  generalize hev : errV code = ev at HT
  have HEV : Hid _ := hev
  clear hev
  go_wp2_with fail
  go_region_with (go_at_call 173; refine Calls.mono HT.out ?_; rintro e w1 ⟨rfl, hp1, hl1, hu1⟩; have d0 := hu1.cell (p := ⟨Bf, 0, none⟩) cf (by simp only; omega); have d1 : w1.frozen? ⟨Bf, 0, none⟩ = false := (hu1.frozen (p := ⟨Bf, 0, none⟩) cf (by simp only; omega)).trans zf; have HP1 : Hid _ := hp1; have HL1 : Hid _ := hl1; have HU1 : Hid _ := hu1; clear hp1 hl1 hu1)
  all_goals
    have hlt : bf < w1.heap.size := HP1.out.lt hln
    have hu2 := Upd.one w1 Bf 0 (.int .i64 f)
    have HP : Hid _ := HP1.out.upd hu2 (Ne.symm n3) (Ne.symm n1) hlt
    have HL : Hid _ := HL1.out.upd hu2 (Ne.symm n2)
    have HU : Hid _ := (((Upd.refl (fun k => k = bf ∨ k = bl ∨ k = Bf) w).drew.trans HU1.out (fun _ _ e => by omega))).trans hu2 (fun _ _ e => by omega)
    have HF : Hid _ := World.cell?_setCell_same w1 ⟨Bf, 0, none⟩ (.int .i64 f) d0
    clear hu2 HT
    go_wp2_with fail
    go_ret
    exact ⟨by rw [← HEV.out]; rfl, HP.out, HL.out, HF.out, HU.out⟩
theorem enters_touch1 : ∀ args w, (callFunc 172 args).run Tryz.prog w = .ok (.enter 172 args) w := enters_of Tryz.func172 (by kernel_rfl) rfl
set_option maxHeartbeats 400000 in
theorem GG.touch (h : GG w bg bp bf bl bc s g b W) (n : Int) (wt : Bool) : Calls Tryz.prog 139 #[.pointer (some ⟨bg, 0, none⟩), .int .i64 n, .bool wt] w fun e w' =>
    e = .returned (.tuple #[.int .i64 (gTouch s g n wt).1.1, errV (gTouch s g n wt).1.2]) ∧ GG w' bg bp bf bl bc (gTouch s g n wt).2.1 (gTouch s g n wt).2.2 b W ∧ Upd (GFt bg bf bl bc) w w' := by
  have HH : Hid (GG w bg bp bf bl bc s g b W) := h
  have hz := h.ce.lt
  have hz2 := h.lv.lt
  have hz3 := h.ca.lt
  have hz4 := h.pool.lt h.hn
  have hz5 : bp < w.heap.size := by obtain ⟨cap, hc⟩ := h.pool.hd; exact World.block_lt_of_cell? w _ hc
  clear h
  have hu0 := (((Upd.refl (fun _ => False) w).alloc (.cells #[.pointer (some ⟨bg, 0, none⟩)] 80)).alloc (.cells #[.bool wt] 4)).alloc (.cells #[.int .i64 0] 3)
  have HZ0 : Hid ((((w.alloc (.cells #[.pointer (some ⟨bg, 0, none⟩)] 80)).alloc (.cells #[.bool wt] 4)).alloc (.cells #[.int .i64 0] 3)).frozen? ⟨w.heap.size + 1 + 1, 0, none⟩ = false) := by
    show _ = _
    have := World.frozen?_alloc_new ((w.alloc (.cells #[.pointer (some ⟨bg, 0, none⟩)] 80)).alloc (.cells #[.bool wt] 4)) #[.int .i64 0] 3 0
    simpa only [World.size_alloc] using this
  have HG0 : Hid ((((w.alloc (.cells #[.pointer (some ⟨bg, 0, none⟩)] 80)).alloc (.cells #[.bool wt] 4)).alloc (.cells #[.int .i64 0] 3)).cell? ⟨w.heap.size, 0, none⟩ = some (.pointer (some ⟨bg, 0, none⟩))) := by
    show _ = _
    rw [World.cell?_alloc_old _ _ _ (by simp only [World.size_alloc]; omega), World.cell?_alloc_old _ _ _ (by simp only [World.size_alloc]; omega), World.cell?_alloc_new]; rfl
  have HW0 : Hid ((((w.alloc (.cells #[.pointer (some ⟨bg, 0, none⟩)] 80)).alloc (.cells #[.bool wt] 4)).alloc (.cells #[.int .i64 0] 3)).cell? ⟨w.heap.size + 1, 0, none⟩ = some (.bool wt)) := by
    show _ = _
    rw [World.cell?_alloc_old _ _ _ (by simp only [World.size_alloc]; omega)]
    have := World.cell?_alloc_new (w.alloc (.cells #[.pointer (some ⟨bg, 0, none⟩)] 80)) #[.bool wt] 4 0
    simp only [World.size_alloc] at this
    rw [this]; rfl
  have HF0 : Hid ((((w.alloc (.cells #[.pointer (some ⟨bg, 0, none⟩)] 80)).alloc (.cells #[.bool wt] 4)).alloc (.cells #[.int .i64 0] 3)).cell? ⟨w.heap.size + 1 + 1, 0, none⟩ = some (.int .i64 0)) := by
    show _ = _
    have := World.cell?_alloc_new ((w.alloc (.cells #[.pointer (some ⟨bg, 0, none⟩)] 80)).alloc (.cells #[.bool wt] 4)) #[.int .i64 0] 3 0
    simp only [World.size_alloc] at this
    rw [this]; rfl
  have HG : Hid (GG (((w.alloc (.cells #[.pointer (some ⟨bg, 0, none⟩)] 80)).alloc (.cells #[.bool wt] 4)).alloc (.cells #[.int .i64 0] 3)) bg bp bf bl bc s g b W) := HH.out.same hu0
  have HU0 : Hid _ := hu0
  have HIN : Hid (GInv (gTouch s g n wt).2.1 (gTouch s g n wt).2.2 b W) := HH.out.inv.touch n wt
  unfold gTouch
  have HTN : Hid ((touchR s g.m n wt).2.1.n = s.n) := touch_n s g.m n wt
  clear hu0
  go_enter Tryz.func139, Tryz.ntmps139
  go_wp2_with fail
  revert HU0 HG HF0 HW0 HG0 HZ0
  generalize ((w.alloc (.cells #[.pointer (some ⟨bg, 0, none⟩)] 80)).alloc (.cells #[.bool wt] 4)).alloc (.cells #[.int .i64 0] 3) = w0
  generalize hq : w.heap.size = q at *
  intro HZ0 HG0 HW0 HF0 HG HU0
  have hq1 : ¬ q + 1 + 1 = bc := by omega
  have ha := HG.out.ap
  unfold GAp at ha
  have hby : ByOk w0 bp bf bl 172 ((#[] : Array Value).push (.int .i64 n) ++ #[.pointer (some ⟨q, 0, none⟩), .pointer (some ⟨q + 1, 0, none⟩), .pointer (some ⟨q + 1 + 1, 0, none⟩)]) (touchR s g.m n wt).1.2.2 (touchR s g.m n wt).2.1 (touchR s g.m n wt).2.2 (fun k => k = bf ∨ k = bl ∨ k = q + 1 + 1) (fun w1 => w1.cell? ⟨q + 1 + 1, 0, none⟩ = some (.int .i64 (touchR s g.m n wt).1.1)) := by
    rw [show (#[] : Array Value).push (.int .i64 n) ++ #[.pointer (some ⟨q, 0, none⟩), .pointer (some ⟨q + 1, 0, none⟩), .pointer (some ⟨q + 1 + 1, 0, none⟩)] = #[.int .i64 n, .pointer (some ⟨q, 0, none⟩), .pointer (some ⟨q + 1, 0, none⟩), .pointer (some ⟨q + 1 + 1, 0, none⟩)] from rfl]
    exact touch1_any w0 bg bp bf bl bc q (q + 1) (q + 1 + 1) n g.root g.walks 0 wt g.m b s HG.out.ce HG.out.lv HG.out.pool HG.out.ap HG.out.hn HG.out.inv.inv HG0.out HW0.out HF0.out HZ0.out (by omega) (by omega) (by omega)
  have h1 : ¬ (fun k => k = bf ∨ k = bl ∨ k = q + 1 + 1) bg := by simp only; omega
  have h2 : ¬ (fun k => k = bf ∨ k = bl ∨ k = q + 1 + 1) bc := by simp only; omega
  have h3 : 0 < (touchR s g.m n wt).2.1.n := by rw [HTN.out]; exact HG.out.hn
  have hch := change_any w0 bg bp bf bl bc n g.root g.walks 172 #[] #[.pointer (some ⟨q, 0, none⟩), .pointer (some ⟨q + 1, 0, none⟩), .pointer (some ⟨q + 1 + 1, 0, none⟩)] (touchR s g.m n wt).1.2.2 (touchR s g.m n wt).2.1 g.m (touchR s g.m n wt).2.2 g.c (fun k => k = bf ∨ k = bl ∨ k = q + 1 + 1) (fun w1 => w1.cell? ⟨q + 1 + 1, 0, none⟩ = some (.int .i64 (touchR s g.m n wt).1.1)) HG.out.ce HG.out.ca HG.out.ap enters_touch1 hby h1 h2 (touch_lf s g.m n wt) (fun h => by rw [touch_no s g.m n wt h]) (fun h => (touch_frame HG.out.inv.inv n wt h).2.2.1) HG.out.en h3 (fun w1 w2 h u => u.cell h hq1)
  have HCH : Hid _ := hch
  have H1 : Hid (¬ (fun k => (fun k => k = bf ∨ k = bl ∨ k = q + 1 + 1) k ∨ k = bc) bg) := show ¬ _ by simp only; omega
  clear hby h1 h2 h3 hch ha
  refine Calls.mono HCH.out ?_
  rintro e w2 ⟨rfl, hp2, hl2, hc2, hr2, hu2⟩
  have H2 : Hid _ := HG.out.turned hu2 H1.out hp2 hl2 hc2 HIN.out HTN.out
  have HU2 : Hid (Upd (GFt bg bf bl bc) w w2) := (HU0.out.wide (T := GFt bg bf bl bc) (fun _ f => f.elim)).trans hu2 (fun i hi e => by unfold GFt; omega)
  clear hp2 hl2 hc2 hu2 HIN HTN HG HCH H1
  go_wp2_with fail
  go_ret2
  exact ⟨rfl, H2.out, HU2.out⟩
end Go.Proofs.YtadpibcgjgcjhabGreatDoor
