/- Package guest: a guest and its pool in one state; touch. -/
import Derived.Test.YtadpibcgjgcjhabGreatDoorPart11
import Derived.Test.YtadpibcgjgcjhabGreatDoorPart09
namespace Go.Proofs.YtadpibcgjgcjhabGreatDoor
open Go.ChangeShapes Go.WideShapes Go.ChangeAt Go.RowKit
set_option maxRecDepth 100000
attribute [local go_sem ↓] Go.wp_at_zero Go.wp_at_succ

/-- A guest of package guest, with its pool, in one state. -/
structure GG (w : World) (bg bp bf bl bc : Nat) (s : Pl) (g : Gs) (b : Mp) (W : Int) : Prop where
  ce : GCell w bg bp bl bc g.root g.walks
  pool : PoolAt w bp bf s
  lv : LvAt w bl bp g.m
  ca : CaL w bc (shows g.m g.c)
  ap : GAp bg bp bf bl bc
  inv : GInv s g b W
  di : Dist g.c
  hn : 0 < s.n
/-- What the acts of a guest may turn. -/
def GFt (bg bf bl bc : Nat) : Nat → Prop := fun k => k = bf ∨ k = bl ∨ k = bc ∨ k = bg
def GPost (w : World) (bg bp bf bl bc : Nat) (r : Int × Pl × Gs) (b : Mp) (W : Int) (e : Ending) (w' : World) : Prop :=
  e = .returned (errV r.1) ∧ GG w' bg bp bf bl bc r.2.1 r.2.2 b W ∧ Upd (GFt bg bf bl bc) w w'
variable {w w' : World} {bg bp bf bl bc : Nat} {s : Pl} {g : Gs} {b : Mp} {W : Int}
theorem GG.upd {S : Nat → Prop} (h : GG w bg bp bf bl bc s g b W) (u : Upd S w w') (h1 : ¬ S bg) (h2 : ¬ S bp) (h3 : ¬ S bf) (h4 : ¬ S bl) (h5 : ¬ S bc) : GG w' bg bp bf bl bc s g b W :=
  ⟨h.ce.upd u h1, h.pool.upd u h2 h3 (h.pool.lt h.hn), h.lv.upd u h4, h.ca.upd u h5, h.ap, h.inv, h.di, h.hn⟩
theorem GG.same (h : GG w bg bp bf bl bc s g b W) (u : Upd (fun _ => False) w w') : GG w' bg bp bf bl bc s g b W := h.upd u (fun f => f) (fun f => f) (fun f => f) (fun f => f) (fun f => f)
theorem GG.en (h : GG w bg bp bf bl bc s g b W) : ∀ x ∈ g.c, 0 ≤ x.dest := fun x hx => (h.inv.en x hx).1
theorem GG.more {W' : Int} (h : GG w bg bp bf bl bc s g b W) (hw : W ≤ W') : GG w bg bp bf bl bc s g b W' := { h with inv := h.inv.more hw }
/-- The pages turned, and what is remembered of them. -/
theorem GG.turned {S : Nat → Prop} {s' : Pl} {m' : Mp} (h : GG w bg bp bf bl bc s g b W) (u : Upd S w w') (hS : ¬ S bg) (hp : PoolAt w' bp bf s') (hl : LvAt w' bl bp m') (hc : CaL w' bc (shows m' g.c)) (hi : GInv s' { g with m := m' } b W) (hn : s'.n = s.n) : GG w' bg bp bf bl bc s' { g with m := m' } b W :=
  ⟨h.ce.upd u hS, hp, hl, hc, h.ap, hi, h.di, by rw [hn]; exact h.hn⟩

theorem touch1_any (w : World) (bg bp bf bl bc Bg Bw Bf : Nat) (n r k x : Int) (wt : Bool) (m b : Mp) (s : Pl) (h : GCell w bg bp bl bc r k) (hl : LvAt w bl bp m) (hp : PoolAt w bp bf s) (ha : GAp bg bp bf bl bc) (hn : 0 < s.n) (hi : Inv s m b)
    (cg : w.cell? ⟨Bg, 0, none⟩ = some (.pointer (some ⟨bg, 0, none⟩))) (cw : w.cell? ⟨Bw, 0, none⟩ = some (.bool wt)) (cf : w.cell? ⟨Bf, 0, none⟩ = some (.int .i64 x)) (zf : w.frozen? ⟨Bf, 0, none⟩ = false) (n1 : Bf ≠ bf) (n2 : Bf ≠ bl) (n3 : Bf ≠ bp) :
    ByOk w bp bf bl 172 #[.int .i64 n, .pointer (some ⟨Bg, 0, none⟩), .pointer (some ⟨Bw, 0, none⟩), .pointer (some ⟨Bf, 0, none⟩)] (touchR s m n wt).1.2.2 (touchR s m n wt).2.1 (touchR s m n wt).2.2 (fun k => k = bf ∨ k = bl ∨ k = Bf) (fun w1 => w1.cell? ⟨Bf, 0, none⟩ = some (.int .i64 (touchR s m n wt).1.1)) := by
  unfold ByOk
  have c1 := h.c1
  unfold GAp at ha
  have HT : Hid _ := lvTouch w.drew bl bp bf n wt m b s hl.drew hp.drew (by omega) (by omega) hn hi
  have hln : 0 < (touchR s m n wt).2.1.n := by rw [touch_n]; exact hn
  revert HT hln
  generalize touchR s m n wt = t
  intro HT hln
  obtain ⟨⟨f, mv, code⟩, s', m'⟩ := t
  clear ha h hl hp hi
  go_enter Tryz.func172, Tryz.ntmps172
  generalize hev : errV code = ev at HT
  have HEV : Hid _ := hev
  clear hev
  go_wp2_with fail
  go_region_with (go_at_call 173; refine Calls.mono HT.out ?_; rintro e w1 ⟨rfl, hp1, hl1, hu1⟩; have d0 := hu1.cell (p := ⟨Bf, 0, none⟩) cf (by simp only; omega); have d1 : w1.frozen? ⟨Bf, 0, none⟩ = false := (hu1.frozen (p := ⟨Bf, 0, none⟩) cf (by simp only; omega)).trans zf; have HP1 : Hid _ := hp1; have HL1 : Hid _ := hl1; have HU1 : Hid _ := hu1; clear hp1 hl1 hu1)
  all_goals
    have hlt : bf < w1.heap.size := HP1.out.lt hln
    have hu2 := Upd.one w1 Bf 0 (.int .i64 f)
    have HP : Hid _ := HP1.out.upd hu2 (Ne.symm n3) (Ne.symm n1) hlt
    have HL : Hid _ := HL1.out.upd hu2 (Ne.symm n2)
    have HU : Hid _ := (((Upd.refl (fun k => k = bf ∨ k = bl ∨ k = Bf) w).drew.trans HU1.out (fun _ _ e => by omega))).trans hu2 (fun _ _ e => by omega)
    have HF : Hid _ := World.cell?_setCell_same w1 ⟨Bf, 0, none⟩ (.int .i64 f) d0
    clear hu2 HT
    go_wp2_with fail
    go_ret
    exact ⟨by rw [← HEV.out]; rfl, HP.out, HL.out, HF.out, HU.out⟩
theorem enters_touch1 : ∀ args w, (callFunc 172 args).run Tryz.prog w = .ok (.enter 172 args) w := enters_of Tryz.func172 (by kernel_rfl) rfl
set_option maxHeartbeats 400000 in
theorem GG.touch (h : GG w bg bp bf bl bc s g b W) (n : Int) (wt : Bool) : Calls Tryz.prog 139 #[.pointer (some ⟨bg, 0, none⟩), .int .i64 n, .bool wt] w fun e w' =>
    e = .returned (.tuple #[.int .i64 (gTouch s g n wt).1.1, errV (gTouch s g n wt).1.2]) ∧ GG w' bg bp bf bl bc (gTouch s g n wt).2.1 (gTouch s g n wt).2.2 b W ∧ Upd (GFt bg bf bl bc) w w' := by
  have HH : Hid (GG w bg bp bf bl bc s g b W) := h
  have hz := h.ce.lt
  have hz2 := h.lv.lt
  have hz3 := h.ca.lt
  have hz4 := h.pool.lt h.hn
  have hz5 : bp < w.heap.size := by obtain ⟨cap, hc⟩ := h.pool.hd; exact World.block_lt_of_cell? w _ hc
  clear h
  have hu0 := (((Upd.refl (fun _ => False) w).alloc (.cells #[.pointer (some ⟨bg, 0, none⟩)] 80)).alloc (.cells #[.bool wt] 4)).alloc (.cells #[.int .i64 0] 3)
  have HZ0 : Hid ((((w.alloc (.cells #[.pointer (some ⟨bg, 0, none⟩)] 80)).alloc (.cells #[.bool wt] 4)).alloc (.cells #[.int .i64 0] 3)).frozen? ⟨w.heap.size + 1 + 1, 0, none⟩ = false) := by
    show _ = _
    have := World.frozen?_alloc_new ((w.alloc (.cells #[.pointer (some ⟨bg, 0, none⟩)] 80)).alloc (.cells #[.bool wt] 4)) #[.int .i64 0] 3 0
    simpa only [World.size_alloc] using this
  have HG0 : Hid ((((w.alloc (.cells #[.pointer (some ⟨bg, 0, none⟩)] 80)).alloc (.cells #[.bool wt] 4)).alloc (.cells #[.int .i64 0] 3)).cell? ⟨w.heap.size, 0, none⟩ = some (.pointer (some ⟨bg, 0, none⟩))) := by
    show _ = _
    rw [World.cell?_alloc_old _ _ _ (by simp only [World.size_alloc]; omega), World.cell?_alloc_old _ _ _ (by simp only [World.size_alloc]; omega), World.cell?_alloc_new]; rfl
  have HW0 : Hid ((((w.alloc (.cells #[.pointer (some ⟨bg, 0, none⟩)] 80)).alloc (.cells #[.bool wt] 4)).alloc (.cells #[.int .i64 0] 3)).cell? ⟨w.heap.size + 1, 0, none⟩ = some (.bool wt)) := by
    show _ = _
    rw [World.cell?_alloc_old _ _ _ (by simp only [World.size_alloc]; omega)]
    have := World.cell?_alloc_new (w.alloc (.cells #[.pointer (some ⟨bg, 0, none⟩)] 80)) #[.bool wt] 4 0
    simp only [World.size_alloc] at this
    rw [this]; rfl
  have HF0 : Hid ((((w.alloc (.cells #[.pointer (some ⟨bg, 0, none⟩)] 80)).alloc (.cells #[.bool wt] 4)).alloc (.cells #[.int .i64 0] 3)).cell? ⟨w.heap.size + 1 + 1, 0, none⟩ = some (.int .i64 0)) := by
    show _ = _
    have := World.cell?_alloc_new ((w.alloc (.cells #[.pointer (some ⟨bg, 0, none⟩)] 80)).alloc (.cells #[.bool wt] 4)) #[.int .i64 0] 3 0
    simp only [World.size_alloc] at this
    rw [this]; rfl
  have HG : Hid (GG (((w.alloc (.cells #[.pointer (some ⟨bg, 0, none⟩)] 80)).alloc (.cells #[.bool wt] 4)).alloc (.cells #[.int .i64 0] 3)) bg bp bf bl bc s g b W) := HH.out.same hu0
  have HU0 : Hid _ := hu0
  have HIN : Hid (GInv (gTouch s g n wt).2.1 (gTouch s g n wt).2.2 b W) := HH.out.inv.touch n wt
  unfold gTouch
  have HTN : Hid ((touchR s g.m n wt).2.1.n = s.n) := touch_n s g.m n wt
  clear hu0
  go_enter Tryz.func139, Tryz.ntmps139
  go_wp2_with fail
  revert HU0 HG HF0 HW0 HG0 HZ0
  generalize ((w.alloc (.cells #[.pointer (some ⟨bg, 0, none⟩)] 80)).alloc (.cells #[.bool wt] 4)).alloc (.cells #[.int .i64 0] 3) = w0
  generalize hq : w.heap.size = q at *
  intro HZ0 HG0 HW0 HF0 HG HU0
  have hq1 : ¬ q + 1 + 1 = bc := by omega
  have ha := HG.out.ap
  unfold GAp at ha
  have hby : ByOk w0 bp bf bl 172 ((#[] : Array Value).push (.int .i64 n) ++ #[.pointer (some ⟨q, 0, none⟩), .pointer (some ⟨q + 1, 0, none⟩), .pointer (some ⟨q + 1 + 1, 0, none⟩)]) (touchR s g.m n wt).1.2.2 (touchR s g.m n wt).2.1 (touchR s g.m n wt).2.2 (fun k => k = bf ∨ k = bl ∨ k = q + 1 + 1) (fun w1 => w1.cell? ⟨q + 1 + 1, 0, none⟩ = some (.int .i64 (touchR s g.m n wt).1.1)) := by
    rw [show (#[] : Array Value).push (.int .i64 n) ++ #[.pointer (some ⟨q, 0, none⟩), .pointer (some ⟨q + 1, 0, none⟩), .pointer (some ⟨q + 1 + 1, 0, none⟩)] = #[.int .i64 n, .pointer (some ⟨q, 0, none⟩), .pointer (some ⟨q + 1, 0, none⟩), .pointer (some ⟨q + 1 + 1, 0, none⟩)] from rfl]
    exact touch1_any w0 bg bp bf bl bc q (q + 1) (q + 1 + 1) n g.root g.walks 0 wt g.m b s HG.out.ce HG.out.lv HG.out.pool HG.out.ap HG.out.hn HG.out.inv.inv HG0.out HW0.out HF0.out HZ0.out (by omega) (by omega) (by omega)
  have h1 : ¬ (fun k => k = bf ∨ k = bl ∨ k = q + 1 + 1) bg := by simp only; omega
  have h2 : ¬ (fun k => k = bf ∨ k = bl ∨ k = q + 1 + 1) bc := by simp only; omega
  have h3 : 0 < (touchR s g.m n wt).2.1.n := by rw [HTN.out]; exact HG.out.hn
  have hch := change_any w0 bg bp bf bl bc n g.root g.walks 172 #[] #[.pointer (some ⟨q, 0, none⟩), .pointer (some ⟨q + 1, 0, none⟩), .pointer (some ⟨q + 1 + 1, 0, none⟩)] (touchR s g.m n wt).1.2.2 (touchR s g.m n wt).2.1 g.m (touchR s g.m n wt).2.2 g.c (fun k => k = bf ∨ k = bl ∨ k = q + 1 + 1) (fun w1 => w1.cell? ⟨q + 1 + 1, 0, none⟩ = some (.int .i64 (touchR s g.m n wt).1.1)) HG.out.ce HG.out.ca HG.out.ap enters_touch1 hby h1 h2 (touch_lf s g.m n wt) (fun h => by rw [touch_no s g.m n wt h]) (fun h => (touch_frame HG.out.inv.inv n wt h).2.2.1) HG.out.en h3 (fun w1 w2 h u => u.cell h hq1)
  have HCH : Hid _ := hch
  have H1 : Hid (¬ (fun k => (fun k => k = bf ∨ k = bl ∨ k = q + 1 + 1) k ∨ k = bc) bg) := show ¬ _ by simp only; omega
  clear hby h1 h2 h3 hch ha
  refine Calls.mono HCH.out ?_
  rintro e w2 ⟨rfl, hp2, hl2, hc2, hr2, hu2⟩
  have H2 : Hid _ := HG.out.turned hu2 H1.out hp2 hl2 hc2 HIN.out HTN.out
  have HU2 : Hid (Upd (GFt bg bf bl bc) w w2) := (HU0.out.wide (T := GFt bg bf bl bc) (fun _ f => f.elim)).trans hu2 (fun i hi e => by unfold GFt; omega)
  clear hp2 hl2 hc2 hu2 HIN HTN HG HCH H1
  go_wp2_with fail
  go_ret2
  exact ⟨rfl, H2.out, HU2.out⟩
end Go.Proofs.YtadpibcgjgcjhabGreatDoor
/- Package guest: Plug, Unplug, Give, Back, Seal, Join. -/
namespace Go.Proofs.YtadpibcgjgcjhabGreatDoor
open Go.ChangeShapes Go.WideShapes Go.ChangeAt Go.RowKit
set_option maxRecDepth 100000
attribute [local go_sem ↓] Go.wp_at_zero Go.wp_at_succ
variable {w w' : World} {bg bp bf bl bc : Nat} {s : Pl} {g : Gs} {b : Mp} {W : Int}

theorem enters_Plug : ∀ args w, (callFunc 154 args).run Tryz.prog w = .ok (.enter 154 args) w := enters_of Tryz.func154 (by kernel_rfl) rfl
set_option maxHeartbeats 400000 in
theorem GG.plug (h : GG w bg bp bf bl bc s g b W) (n : Int) : Calls Tryz.prog 123 #[.pointer (some ⟨bg, 0, none⟩), .int .i64 n] w (GPost w bg bp bf bl bc (gPlug s g n) b W) := by
  have ha := h.ap
  unfold GAp at ha
  have hby : ByOk w bp bf bl 154 ((#[.pointer (some ⟨bl, 0, none⟩)] : Array Value).push (.int .i64 n) ++ #[]) (plugR s g.m n).1 (plugR s g.m n).2.1 (plugR s g.m n).2.2 (fun k => k = bf ∨ k = bl) (fun _ => True) := by
    rw [show (#[.pointer (some ⟨bl, 0, none⟩)] : Array Value).push (.int .i64 n) ++ #[] = #[.pointer (some ⟨bl, 0, none⟩), .int .i64 n] from rfl]
    unfold ByOk
    refine (lvPlug w bl bp bf n g.m b s h.lv h.pool (by omega) (by omega) h.hn h.inv.inv).mono ?_
    rintro e w1 ⟨he, h1, h2, h3⟩
    exact ⟨he, h1, h2, trivial, h3⟩
  have hN : (plugR s g.m n).2.1.n = s.n := plug_n s g.m n
  have h1 : ¬ (fun k => k = bf ∨ k = bl) bg := by simp only; omega
  have h2 : ¬ (fun k => k = bf ∨ k = bl) bc := by simp only; omega
  have h3 : 0 < (plugR s g.m n).2.1.n := by rw [hN]; exact h.hn
  have hch := change_any w bg bp bf bl bc n g.root g.walks 154 #[.pointer (some ⟨bl, 0, none⟩)] #[] (plugR s g.m n).1 (plugR s g.m n).2.1 g.m (plugR s g.m n).2.2 g.c (fun k => k = bf ∨ k = bl) (fun _ => True) h.ce h.ca h.ap enters_Plug hby h1 h2 (plug_lf s g.m n) (fun h => by rw [plug_no h]) (fun h => plug_on h) h.en h3 (fun _ _ _ _ => trivial)
  have HCH : Hid _ := hch
  have HI : Hid (GInv (gPlug s g n).2.1 (gPlug s g n).2.2 b W) := h.inv.plug n
  have H1 : Hid (¬ (fun k => (fun k => k = bf ∨ k = bl) k ∨ k = bc) bg) := show ¬ _ by simp only; omega
  have c1 := h.ce.c1
  have HH : Hid (GG w bg bp bf bl bc s g b W) := h
  have HN : Hid _ := hN
  clear hby h1 h2 h3 hch ha h hN
  go_enter Tryz.func123, Tryz.ntmps123
  go_wp2_with fail
  refine Calls.mono HCH.out ?_
  rintro e w2 ⟨rfl, hp2, hl2, hc2, _, hu2⟩
  have H2 : Hid _ := HH.out.turned hu2 H1.out hp2 hl2 hc2 HI.out HN.out
  have HU : Hid (Upd (GFt bg bf bl bc) w w2) := hu2.wide (fun k e => by unfold GFt; simp only at e; omega)
  clear hp2 hl2 hc2 hu2 HCH
  go_wp2_with fail
  go_ret
  exact ⟨rfl, H2.out, HU.out⟩
theorem enters_Unplug : ∀ args w, (callFunc 152 args).run Tryz.prog w = .ok (.enter 152 args) w := enters_of Tryz.func152 (by kernel_rfl) rfl
set_option maxHeartbeats 400000 in
theorem GG.unplug (h : GG w bg bp bf bl bc s g b W) (n : Int) : Calls Tryz.prog 119 #[.pointer (some ⟨bg, 0, none⟩), .int .i64 n] w (GPost w bg bp bf bl bc (gUnplug s g n) b W) := by
  have ha := h.ap
  unfold GAp at ha
  have hby : ByOk w bp bf bl 152 ((#[.pointer (some ⟨bl, 0, none⟩)] : Array Value).push (.int .i64 n) ++ #[]) (unplugR s g.m n).1 (unplugR s g.m n).2.1 (unplugR s g.m n).2.2 (fun k => k = bf ∨ k = bl) (fun _ => True) := by
    rw [show (#[.pointer (some ⟨bl, 0, none⟩)] : Array Value).push (.int .i64 n) ++ #[] = #[.pointer (some ⟨bl, 0, none⟩), .int .i64 n] from rfl]
    unfold ByOk
    refine (lvUnplug w bl bp bf n g.m b s h.lv h.pool (by omega) (by omega) h.hn h.inv.inv).mono ?_
    rintro e w1 ⟨he, h1, h2, h3⟩
    exact ⟨he, h1, h2, trivial, h3⟩
  have hN : (unplugR s g.m n).2.1.n = s.n := unplug_n s g.m n
  have h1 : ¬ (fun k => k = bf ∨ k = bl) bg := by simp only; omega
  have h2 : ¬ (fun k => k = bf ∨ k = bl) bc := by simp only; omega
  have h3 : 0 < (unplugR s g.m n).2.1.n := by rw [hN]; exact h.hn
  have hch := change_any w bg bp bf bl bc n g.root g.walks 152 #[.pointer (some ⟨bl, 0, none⟩)] #[] (unplugR s g.m n).1 (unplugR s g.m n).2.1 g.m (unplugR s g.m n).2.2 g.c (fun k => k = bf ∨ k = bl) (fun _ => True) h.ce h.ca h.ap enters_Unplug hby h1 h2 (unplug_lf s g.m n) (fun h => by rw [unplug_no h]) (fun h => unplug_on h) h.en h3 (fun _ _ _ _ => trivial)
  have HCH : Hid _ := hch
  have HI : Hid (GInv (gUnplug s g n).2.1 (gUnplug s g n).2.2 b W) := h.inv.unplug n
  have H1 : Hid (¬ (fun k => (fun k => k = bf ∨ k = bl) k ∨ k = bc) bg) := show ¬ _ by simp only; omega
  have c1 := h.ce.c1
  have HH : Hid (GG w bg bp bf bl bc s g b W) := h
  have HN : Hid _ := hN
  clear hby h1 h2 h3 hch ha h hN
  go_enter Tryz.func119, Tryz.ntmps119
  go_wp2_with fail
  refine Calls.mono HCH.out ?_
  rintro e w2 ⟨rfl, hp2, hl2, hc2, _, hu2⟩
  have H2 : Hid _ := HH.out.turned hu2 H1.out hp2 hl2 hc2 HI.out HN.out
  have HU : Hid (Upd (GFt bg bf bl bc) w w2) := hu2.wide (fun k e => by unfold GFt; simp only at e; omega)
  clear hp2 hl2 hc2 hu2 HCH
  go_wp2_with fail
  go_ret
  exact ⟨rfl, H2.out, HU.out⟩
theorem enters_Give : ∀ args w, (callFunc 155 args).run Tryz.prog w = .ok (.enter 155 args) w := enters_of Tryz.func155 (by kernel_rfl) rfl
set_option maxHeartbeats 400000 in
theorem GG.give (h : GG w bg bp bf bl bc s g b W) (n : Int) : Calls Tryz.prog 124 #[.pointer (some ⟨bg, 0, none⟩), .int .i64 n] w (GPost w bg bp bf bl bc (gGive s g n false) b W) := by
  have ha := h.ap
  unfold GAp at ha
  have hby : ByOk w bp bf bl 155 ((#[.pointer (some ⟨bl, 0, none⟩)] : Array Value).push (.int .i64 n) ++ #[]) (giveR s g.m n false).1 (giveR s g.m n false).2.1 (giveR s g.m n false).2.2 (fun k => k = bf ∨ k = bl) (fun _ => True) := by
    rw [show (#[.pointer (some ⟨bl, 0, none⟩)] : Array Value).push (.int .i64 n) ++ #[] = #[.pointer (some ⟨bl, 0, none⟩), .int .i64 n] from rfl]
    unfold ByOk
    refine (lvGive w bl bp bf n g.m b s h.lv h.pool (by omega) (by omega) h.hn h.inv.inv).mono ?_
    rintro e w1 ⟨he, h1, h2, h3⟩
    exact ⟨he, h1, h2, trivial, h3⟩
  have hN : (giveR s g.m n false).2.1.n = s.n := give_n s g.m n false
  have h1 : ¬ (fun k => k = bf ∨ k = bl) bg := by simp only; omega
  have h2 : ¬ (fun k => k = bf ∨ k = bl) bc := by simp only; omega
  have h3 : 0 < (giveR s g.m n false).2.1.n := by rw [hN]; exact h.hn
  have hch := change_any w bg bp bf bl bc n g.root g.walks 155 #[.pointer (some ⟨bl, 0, none⟩)] #[] (giveR s g.m n false).1 (giveR s g.m n false).2.1 g.m (giveR s g.m n false).2.2 g.c (fun k => k = bf ∨ k = bl) (fun _ => True) h.ce h.ca h.ap enters_Give hby h1 h2 (give_lf s g.m n false) (fun h => by rw [give_no h]) (fun h => give_on h) h.en h3 (fun _ _ _ _ => trivial)
  have HCH : Hid _ := hch
  have HI : Hid (GInv (gGive s g n false).2.1 (gGive s g n false).2.2 b W) := h.inv.give n false
  have H1 : Hid (¬ (fun k => (fun k => k = bf ∨ k = bl) k ∨ k = bc) bg) := show ¬ _ by simp only; omega
  have c1 := h.ce.c1
  have HH : Hid (GG w bg bp bf bl bc s g b W) := h
  have HN : Hid _ := hN
  clear hby h1 h2 h3 hch ha h hN
  go_enter Tryz.func124, Tryz.ntmps124
  go_wp2_with fail
  refine Calls.mono HCH.out ?_
  rintro e w2 ⟨rfl, hp2, hl2, hc2, _, hu2⟩
  have H2 : Hid _ := HH.out.turned hu2 H1.out hp2 hl2 hc2 HI.out HN.out
  have HU : Hid (Upd (GFt bg bf bl bc) w w2) := hu2.wide (fun k e => by unfold GFt; simp only at e; omega)
  clear hp2 hl2 hc2 hu2 HCH
  go_wp2_with fail
  go_ret
  exact ⟨rfl, H2.out, HU.out⟩
theorem enters_Back : ∀ args w, (callFunc 156 args).run Tryz.prog w = .ok (.enter 156 args) w := enters_of Tryz.func156 (by kernel_rfl) rfl
set_option maxHeartbeats 400000 in
theorem GG.back (h : GG w bg bp bf bl bc s g b W) (n : Int) : Calls Tryz.prog 125 #[.pointer (some ⟨bg, 0, none⟩), .int .i64 n] w (GPost w bg bp bf bl bc (gGive s g n true) b W) := by
  have ha := h.ap
  unfold GAp at ha
  have hby : ByOk w bp bf bl 156 ((#[.pointer (some ⟨bl, 0, none⟩)] : Array Value).push (.int .i64 n) ++ #[]) (giveR s g.m n true).1 (giveR s g.m n true).2.1 (giveR s g.m n true).2.2 (fun k => k = bf ∨ k = bl) (fun _ => True) := by
    rw [show (#[.pointer (some ⟨bl, 0, none⟩)] : Array Value).push (.int .i64 n) ++ #[] = #[.pointer (some ⟨bl, 0, none⟩), .int .i64 n] from rfl]
    unfold ByOk
    refine (lvBack w bl bp bf n g.m b s h.lv h.pool (by omega) (by omega) h.hn h.inv.inv).mono ?_
    rintro e w1 ⟨he, h1, h2, h3⟩
    exact ⟨he, h1, h2, trivial, h3⟩
  have hN : (giveR s g.m n true).2.1.n = s.n := give_n s g.m n true
  have h1 : ¬ (fun k => k = bf ∨ k = bl) bg := by simp only; omega
  have h2 : ¬ (fun k => k = bf ∨ k = bl) bc := by simp only; omega
  have h3 : 0 < (giveR s g.m n true).2.1.n := by rw [hN]; exact h.hn
  have hch := change_any w bg bp bf bl bc n g.root g.walks 156 #[.pointer (some ⟨bl, 0, none⟩)] #[] (giveR s g.m n true).1 (giveR s g.m n true).2.1 g.m (giveR s g.m n true).2.2 g.c (fun k => k = bf ∨ k = bl) (fun _ => True) h.ce h.ca h.ap enters_Back hby h1 h2 (give_lf s g.m n true) (fun h => by rw [give_no h]) (fun h => give_on h) h.en h3 (fun _ _ _ _ => trivial)
  have HCH : Hid _ := hch
  have HI : Hid (GInv (gGive s g n true).2.1 (gGive s g n true).2.2 b W) := h.inv.give n true
  have H1 : Hid (¬ (fun k => (fun k => k = bf ∨ k = bl) k ∨ k = bc) bg) := show ¬ _ by simp only; omega
  have c1 := h.ce.c1
  have HH : Hid (GG w bg bp bf bl bc s g b W) := h
  have HN : Hid _ := hN
  clear hby h1 h2 h3 hch ha h hN
  go_enter Tryz.func125, Tryz.ntmps125
  go_wp2_with fail
  refine Calls.mono HCH.out ?_
  rintro e w2 ⟨rfl, hp2, hl2, hc2, _, hu2⟩
  have H2 : Hid _ := HH.out.turned hu2 H1.out hp2 hl2 hc2 HI.out HN.out
  have HU : Hid (Upd (GFt bg bf bl bc) w w2) := hu2.wide (fun k e => by unfold GFt; simp only at e; omega)
  clear hp2 hl2 hc2 hu2 HCH
  go_wp2_with fail
  go_ret
  exact ⟨rfl, H2.out, HU.out⟩
theorem enters_Seal : ∀ args w, (callFunc 145 args).run Tryz.prog w = .ok (.enter 145 args) w := enters_of Tryz.func145 (by kernel_rfl) rfl
set_option maxHeartbeats 400000 in
theorem GG.seal (h : GG w bg bp bf bl bc s g b W) (n : Int) : Calls Tryz.prog 114 #[.pointer (some ⟨bg, 0, none⟩), .int .i64 n] w (GPost w bg bp bf bl bc (gSeal s g n) b W) := by
  have ha := h.ap
  unfold GAp at ha
  have hby : ByOk w bp bf bl 145 ((#[.pointer (some ⟨bl, 0, none⟩)] : Array Value).push (.int .i64 n) ++ #[]) (sealR g.m n).1 s (sealR g.m n).2 (fun k => k = bf ∨ k = bl) (fun _ => True) := by
    rw [show (#[.pointer (some ⟨bl, 0, none⟩)] : Array Value).push (.int .i64 n) ++ #[] = #[.pointer (some ⟨bl, 0, none⟩), .int .i64 n] from rfl]
    unfold ByOk
    refine (lvSeal w bl bp bf n g.m b s h.lv h.pool (by omega) (by omega) h.hn h.inv.inv).mono ?_
    rintro e w1 ⟨he, h1, h2, h3⟩
    exact ⟨he, h1, h2, trivial, h3⟩
  have hN : s.n = s.n := rfl
  have h1 : ¬ (fun k => k = bf ∨ k = bl) bg := by simp only; omega
  have h2 : ¬ (fun k => k = bf ∨ k = bl) bc := by simp only; omega
  have h3 : 0 < s.n := by rw [hN]; exact h.hn
  have hch := change_any w bg bp bf bl bc n g.root g.walks 145 #[.pointer (some ⟨bl, 0, none⟩)] #[] (sealR g.m n).1 s g.m (sealR g.m n).2 g.c (fun k => k = bf ∨ k = bl) (fun _ => True) h.ce h.ca h.ap enters_Seal hby h1 h2 (seal_lf g.m n) (fun h => by rw [seal_no h]) (fun h => seal_on h) h.en h3 (fun _ _ _ _ => trivial)
  have HCH : Hid _ := hch
  have HI : Hid (GInv (gSeal s g n).2.1 (gSeal s g n).2.2 b W) := h.inv.seal n
  have H1 : Hid (¬ (fun k => (fun k => k = bf ∨ k = bl) k ∨ k = bc) bg) := show ¬ _ by simp only; omega
  have c1 := h.ce.c1
  have HH : Hid (GG w bg bp bf bl bc s g b W) := h
  have HN : Hid _ := hN
  clear hby h1 h2 h3 hch ha h hN
  go_enter Tryz.func114, Tryz.ntmps114
  go_wp2_with fail
  refine Calls.mono HCH.out ?_
  rintro e w2 ⟨rfl, hp2, hl2, hc2, _, hu2⟩
  have H2 : Hid _ := HH.out.turned hu2 H1.out hp2 hl2 hc2 HI.out rfl
  have HU : Hid (Upd (GFt bg bf bl bc) w w2) := hu2.wide (fun k e => by unfold GFt; simp only at e; omega)
  clear hp2 hl2 hc2 hu2 HCH
  go_wp2_with fail
  go_ret
  exact ⟨rfl, H2.out, HU.out⟩
theorem join1_any (w : World) (bg bp bf bl bc Bg Bf : Nat) (n f r k : Int) (m b : Mp) (s : Pl) (h : GCell w bg bp bl bc r k) (hl : LvAt w bl bp m) (hp : PoolAt w bp bf s) (ha : GAp bg bp bf bl bc) (hn : 0 < s.n) (hi : Inv s m b)
    (cg : w.cell? ⟨Bg, 0, none⟩ = some (.pointer (some ⟨bg, 0, none⟩))) (cf : w.cell? ⟨Bf, 0, none⟩ = some (.int .i64 f)) :
    ByOk w bp bf bl 116 #[.int .i64 n, .pointer (some ⟨Bg, 0, none⟩), .pointer (some ⟨Bf, 0, none⟩)] (joinR s m n f).1 (joinR s m n f).2.1 (joinR s m n f).2.2 (fun k => k = bf ∨ k = bl) (fun _ => True) := by
  unfold ByOk
  have c1 := h.c1
  unfold GAp at ha
  have HT : Hid _ := lvJoin w.drew bl bp bf n f m b s hl.drew hp.drew (by omega) (by omega) hn hi
  revert HT
  generalize joinR s m n f = t
  intro HT
  obtain ⟨code, s', m'⟩ := t
  clear ha h hl hp hi
  generalize hev : errV code = ev at HT
  have HEV : Hid _ := hev
  clear hev
  go_enter Tryz.func116, Tryz.ntmps116
  go_wp2_with fail
  go_region_with (go_at_call 117; refine Calls.mono HT.out ?_; rintro e w1 ⟨rfl, hp1, hl1, hu1⟩; have HP1 : Hid _ := hp1; have HL1 : Hid _ := hl1; have HU1 : Hid _ := hu1; clear hp1 hl1 hu1)
  all_goals
    go_wp2_with fail
    go_ret
    exact ⟨by rw [← HEV.out]; rfl, HP1.out, HL1.out, trivial, (Upd.refl (fun k => k = bf ∨ k = bl) w).drew.trans HU1.out (fun _ _ e => e)⟩
theorem enters_join1 : ∀ args w, (callFunc 116 args).run Tryz.prog w = .ok (.enter 116 args) w := enters_of Tryz.func116 (by kernel_rfl) rfl
set_option maxHeartbeats 400000 in
theorem GG.join (h : GG w bg bp bf bl bc s g b W) (n f : Int) : Calls Tryz.prog 85 #[.pointer (some ⟨bg, 0, none⟩), .int .i64 n, .int .i64 f] w (GPost w bg bp bf bl bc (gJoin s g n f) b W) := by
  have hz := h.ce.lt
  have hu0 := ((Upd.refl (fun _ => False) w).alloc (.cells #[.pointer (some ⟨bg, 0, none⟩)] 80)).alloc (.cells #[.int .i64 f] 3)
  have HG0 : Hid (((w.alloc (.cells #[.pointer (some ⟨bg, 0, none⟩)] 80)).alloc (.cells #[.int .i64 f] 3)).cell? ⟨w.heap.size, 0, none⟩ = some (.pointer (some ⟨bg, 0, none⟩))) := by
    show _ = _
    rw [World.cell?_alloc_old _ _ _ (by simp only [World.size_alloc]; omega), World.cell?_alloc_new]; rfl
  have HF0 : Hid (((w.alloc (.cells #[.pointer (some ⟨bg, 0, none⟩)] 80)).alloc (.cells #[.int .i64 f] 3)).cell? ⟨w.heap.size + 1, 0, none⟩ = some (.int .i64 f)) := by
    show _ = _
    have := World.cell?_alloc_new (w.alloc (.cells #[.pointer (some ⟨bg, 0, none⟩)] 80)) #[.int .i64 f] 3 0
    simp only [World.size_alloc] at this
    rw [this]; rfl
  have HG : Hid (GG ((w.alloc (.cells #[.pointer (some ⟨bg, 0, none⟩)] 80)).alloc (.cells #[.int .i64 f] 3)) bg bp bf bl bc s g b W) := h.same hu0
  have HU0 : Hid _ := hu0
  have HI : Hid (GInv (gJoin s g n f).2.1 (gJoin s g n f).2.2 b W) := h.inv.join n f
  have HN : Hid ((joinR s g.m n f).2.1.n = s.n) := join_n s g.m n f
  clear hu0 h
  go_enter Tryz.func85, Tryz.ntmps85
  go_wp2_with fail
  revert HU0 HG HF0 HG0
  generalize (w.alloc (.cells #[.pointer (some ⟨bg, 0, none⟩)] 80)).alloc (.cells #[.int .i64 f] 3) = w0
  generalize w.heap.size = q at *
  intro HG0 HF0 HG HU0
  have ha := HG.out.ap
  unfold GAp at ha
  have hby : ByOk w0 bp bf bl 116 ((#[] : Array Value).push (.int .i64 n) ++ #[.pointer (some ⟨q, 0, none⟩), .pointer (some ⟨q + 1, 0, none⟩)]) (joinR s g.m n f).1 (joinR s g.m n f).2.1 (joinR s g.m n f).2.2 (fun k => k = bf ∨ k = bl) (fun _ => True) := by
    rw [show (#[] : Array Value).push (.int .i64 n) ++ #[.pointer (some ⟨q, 0, none⟩), .pointer (some ⟨q + 1, 0, none⟩)] = #[.int .i64 n, .pointer (some ⟨q, 0, none⟩), .pointer (some ⟨q + 1, 0, none⟩)] from rfl]
    exact join1_any w0 bg bp bf bl bc q (q + 1) n f g.root g.walks g.m b s HG.out.ce HG.out.lv HG.out.pool HG.out.ap HG.out.hn HG.out.inv.inv HG0.out HF0.out
  have h1 : ¬ (fun k => k = bf ∨ k = bl) bg := by simp only; omega
  have h2 : ¬ (fun k => k = bf ∨ k = bl) bc := by simp only; omega
  have h3 : 0 < (joinR s g.m n f).2.1.n := by rw [HN.out]; exact HG.out.hn
  have hch := change_any w0 bg bp bf bl bc n g.root g.walks 116 #[] #[.pointer (some ⟨q, 0, none⟩), .pointer (some ⟨q + 1, 0, none⟩)] (joinR s g.m n f).1 (joinR s g.m n f).2.1 g.m (joinR s g.m n f).2.2 g.c (fun k => k = bf ∨ k = bl) (fun _ => True) HG.out.ce HG.out.ca HG.out.ap enters_join1 hby h1 h2 (join_lf s g.m n f) (fun h => by rw [join_no h]) (fun h => join_on h) HG.out.en h3 (fun _ _ _ _ => trivial)
  have HCH : Hid _ := hch
  have H1 : Hid (¬ (fun k => (fun k => k = bf ∨ k = bl) k ∨ k = bc) bg) := show ¬ _ by simp only; omega
  clear hby h1 h2 h3 hch ha
  refine Calls.mono HCH.out ?_
  rintro e w2 ⟨rfl, hp2, hl2, hc2, _, hu2⟩
  have H2 : Hid _ := HG.out.turned hu2 H1.out hp2 hl2 hc2 HI.out HN.out
  have HU : Hid (Upd (GFt bg bf bl bc) w w2) := (HU0.out.wide (T := GFt bg bf bl bc) (fun _ f => f.elim)).trans hu2 (fun k _ e => by unfold GFt; simp only at e; omega)
  clear hp2 hl2 hc2 hu2 HCH
  go_wp2_with fail
  go_ret
  exact ⟨rfl, H2.out, HU.out⟩
end Go.Proofs.YtadpibcgjgcjhabGreatDoor
/- Package guest: Root, Walks, SetRoot, Forget, ForgetAll, State, Leaf. -/
namespace Go.Proofs.YtadpibcgjgcjhabGreatDoor
open Go.ChangeShapes Go.WideShapes Go.ChangeAt Go.RowKit
set_option maxRecDepth 100000
attribute [local go_sem ↓] Go.wp_at_zero Go.wp_at_succ
variable {w w' : World} {bg bp bf bl bc : Nat} {s : Pl} {g : Gs} {b : Mp} {W : Int}

theorem isPage_any (w : World) (n : Int) (v : Bool) (hv : onB n = v) : Calls Tryz.prog 158 #[.int .i64 n] w fun e w' => e = .returned (.bool v) ∧ w' = w := by
  subst hv
  cases ho : onB n with
  | true =>
    obtain ⟨q0, q1⟩ := (onB_iff n).1 ho
    have d0 : decide (0 ≤ n) = true := by simp; omega
    have d1 : decide (n < 16) = true := by simp; omega
    clear ho
    go_enter Tryz.func158, Tryz.ntmps158
    go_wp2
    go_ret
    exact ⟨rfl, rfl⟩
  | false =>
    rcases (onB_no n).1 ho with h0 | h0
    · have d0 : decide (0 ≤ n) = false := by simp; omega
      clear ho
      go_enter Tryz.func158, Tryz.ntmps158
      go_wp2
      go_ret
      exact ⟨rfl, rfl⟩
    · have d0 : decide (0 ≤ n) = true := by simp; omega
      have d1 : decide (n < 16) = false := by simp; omega
      clear ho
      go_enter Tryz.func158, Tryz.ntmps158
      go_wp2
      go_ret
      exact ⟨rfl, rfl⟩
theorem isAddr_yes (w : World) (n : Int) (h0 : 0 ≤ n) (h1 : n ≤ 255) : Calls Tryz.prog 138 #[.int .i64 n] w fun e w' => e = .returned (.bool true) ∧ w' = w := by
  have d0 : decide (0 ≤ n) = true := by simp; omega
  have d1 : decide (n ≤ 255) = true := by simp; omega
  go_enter Tryz.func138, Tryz.ntmps138
  go_wp2
  go_ret
  exact ⟨rfl, rfl⟩
theorem isAddr_no (w : World) (n : Int) (h : n < 0 ∨ 255 < n) : Calls Tryz.prog 138 #[.int .i64 n] w fun e w' => e = .returned (.bool false) ∧ w' = w := by
  rcases h with h0 | h0
  · have d0 : decide (0 ≤ n) = false := by simp; omega
    go_enter Tryz.func138, Tryz.ntmps138
    go_wp2
    go_ret
    exact ⟨rfl, rfl⟩
  · have d0 : decide (0 ≤ n) = true := by simp; omega
    have d1 : decide (n ≤ 255) = false := by simp; omega
    go_enter Tryz.func138, Tryz.ntmps138
    go_wp2
    go_ret
    exact ⟨rfl, rfl⟩
theorem GG.stateOf (h : GG w bg bp bf bl bc s g b W) (k : Nat) (hk : k < 16) : Calls Tryz.prog 111 #[.pointer (some ⟨bg, 0, none⟩), .int .i64 k] w fun e w' => e = .returned (.tuple #[.int .i64 (g.m.st k), .nilIface]) ∧ Upd (fun _ => False) w w' := by
  have c := h.ce.c1
  have e1 : onB (k : Int) = true := by simp [onB]; omega
  have e2 : stR g.m (k : Int) = (g.m.st k, 0) := by simp [stR, e1]
  have hs := lvState w bl bp k g.m h.lv
  rw [e2, errV_zero] at hs
  have HS : Hid _ := hs
  clear h e1 e2 hs
  go_enter Tryz.func111, Tryz.ntmps111
  go_wp2_with fail
  refine Calls.mono HS.out ?_
  rintro e w1 ⟨rfl, hu⟩
  go_wp2_with fail
  go_ret2
  exact ⟨rfl, hu⟩
theorem GG.setC {c' : List En} (h : GG w bg bp bf bl bc s g b W) (u : Upd (fun k => k = bc) w w') (hc : CaL w' bc (shows g.m c')) (hi : GInv s { g with c := c' } b W) (hd : Dist c') : GG w' bg bp bf bl bc s { g with c := c' } b W := by
  have ha := h.ap
  unfold GAp at ha
  exact ⟨h.ce.upd u (by omega), h.pool.upd u (by omega) (by omega) (h.pool.lt h.hn), h.lv.upd u (by omega), hc, h.ap, hi, hd, h.hn⟩
theorem GG.forget (h : GG w bg bp bf bl bc s g b W) (addr : Int) : Calls Tryz.prog 128 #[.pointer (some ⟨bg, 0, none⟩), .int .i64 addr] w (GPost w bg bp bf bl bc (onS s (gForget g addr)) b W) := by
  by_cases ho : addr < 0 ∨ 255 < addr
  · have hr : gForget g addr = (1, g) := by unfold gForget; rw [if_pos ho]
    rw [hr]
    have HA : Hid _ := isAddr_no w addr ho
    have HH : Hid (GG w bg bp bf bl bc s g b W) := h
    clear h hr ho
    go_enter Tryz.func128, Tryz.ntmps128
    go_wp2_with (go_at_call 138; refine Calls.mono HA.out ?_; rintro e w1 ⟨rfl, rfl⟩)
    go_ret
    exact ⟨rfl, HH.out, Upd.refl _ _⟩
  · obtain ⟨k, rfl⟩ := Int.eq_ofNat_of_zero_le (show 0 ≤ addr by omega)
    have hr : gForget g (k : Int) = (0, { g with c := flt (isAt g.root ((k : Int) / 16)) g.c }) := by
      unfold gForget
      rw [if_neg ho, keep_drop h.di]
    have hi : GInv s (gForget g (k : Int)).2 b W := h.inv.forget k
    have hd : Dist (gForget g (k : Int)).2.c := forget_dist h.di k
    rw [hr] at hi hd ⊢
    have HI : Hid _ := hi
    have HD : Hid (Dist (flt (isAt g.root ((k : Int) / 16)) g.c)) := hd
    have HA : Hid _ := isAddr_yes w k (by omega) (by omega)
    have HS : Hid _ := shows_flt g.m g.c (isAt g.root ((k : Int) / 16)) (fun e => rfl)
    have HH : Hid (GG w bg bp bf bl bc s g b W) := h
    have hc2 := h.ce.c2
    have hc3 := h.ce.c3
    have ha := h.ap
    unfold GAp at ha
    have hne : ¬ bg = bc := ha.2.2.2.1
    have hwr : IntKind.i64.wrap ((k : Int) / 16) = (k : Int) / 16 := by rw [IntKind.wrap_i64]; omega
    have HHd : Hid (GG w.drew bg bp bf bl bc s g b W) := h.same ((Upd.refl (fun _ => False) w).drew)
    clear h hr hi hd ha
    go_enter Tryz.func128, Tryz.ntmps128
    go_wp2_with (go_at_call 138; refine Calls.mono HA.out ?_; rintro e w1 ⟨rfl, rfl⟩)
    go_region_held3 (fun w' => w'.cell? ⟨bg, 2, none⟩ = some (.pointer (some ⟨bc, 0, none⟩)) ∧ w'.cell? ⟨bg, 3, none⟩ = some (.int .i64 g.root)) (first | exact ⟨hc2, hc3⟩ | exact h4c)
      ((go_at_call 159; refine (kDrop_any _ bc (shows g.m g.c) g.root ((k : Int) / 16) (by exact HHd.out.ca)).mono ?_; rintro e w4 ⟨rfl, hc4, hu4⟩; have h4c : w4.cell? ⟨bg, 2, none⟩ = some (.pointer (some ⟨bc, 0, none⟩)) ∧ w4.cell? ⟨bg, 3, none⟩ = some (.int .i64 g.root) := ⟨hu4.cell hc2 hne, hu4.cell hc3 hne⟩))
    rw [HS.out] at hc4
    have HC4 : Hid (CaL w4 bc (shows g.m (flt (isAt g.root ((k : Int) / 16)) g.c))) := hc4
    have HU4 : Hid _ := hu4
    clear hc4 hu4 h4c
    go_wp2_with fail
    go_ret
    exact ⟨rfl, HHd.out.setC HU4.out HC4.out HI.out HD.out, (Upd.refl (GFt bg bf bl bc) w1).drew.trans HU4.out (fun _ _ e => by unfold GFt; omega)⟩
theorem GG.forgetAll (h : GG w bg bp bf bl bc s g b W) (n : Int) : Calls Tryz.prog 129 #[.pointer (some ⟨bg, 0, none⟩), .int .i64 n] w (GPost w bg bp bf bl bc (onS s (gForgetAll g n)) b W) := by
  cases ho : onB n with
  | false =>
    have hr : gForgetAll g n = (1, g) := by unfold gForgetAll; rw [ho]; rfl
    rw [hr]
    have HA : Hid _ := isPage_any w n false ho
    have HH : Hid (GG w bg bp bf bl bc s g b W) := h
    clear h hr ho
    go_enter Tryz.func129, Tryz.ntmps129
    go_wp2_with (go_at_call 158; refine Calls.mono HA.out ?_; rintro e w1 ⟨rfl, rfl⟩)
    go_ret
    exact ⟨rfl, HH.out, Upd.refl _ _⟩
  | true =>
    have hr : gForgetAll g n = (0, { g with c := flt (fun x => x.root == n) g.c }) := by
      unfold gForgetAll
      rw [ho, keep_forget]
      rfl
    have hi : GInv s (gForgetAll g n).2 b W := h.inv.forgetAll n
    have hd : Dist (gForgetAll g n).2.c := forgetAll_dist h.di n
    rw [hr] at hi hd ⊢
    have HI : Hid _ := hi
    have HD : Hid (Dist (flt (fun x => x.root == n) g.c)) := hd
    have HA : Hid _ := isPage_any w n true ho
    have HS : Hid _ := shows_flt g.m g.c (fun x => x.root == n) (fun e => rfl)
    have HH : Hid (GG w bg bp bf bl bc s g b W) := h
    have hc2 := h.ce.c2
    have HK : Hid _ := kForget_any w bc (shows g.m g.c) n h.ca
    clear h hr hi hd ho
    go_enter Tryz.func129, Tryz.ntmps129
    go_wp2_with (go_at_call 158; refine Calls.mono HA.out ?_; rintro e w1 ⟨rfl, rfl⟩)
    refine Calls.mono HK.out ?_
    rintro e w4 ⟨rfl, hc4, hu4⟩
    rw [HS.out] at hc4
    have HC4 : Hid (CaL w4 bc (shows g.m (flt (fun x => x.root == n) g.c))) := hc4
    have HU4 : Hid _ := hu4
    clear hc4 hu4
    go_wp2_with fail
    go_ret
    exact ⟨rfl, HH.out.setC HU4.out HC4.out HI.out HD.out, HU4.out.wide (fun _ e => by unfold GFt; omega)⟩
theorem GG.setRoot (h : GG w bg bp bf bl bc s g b W) (n : Int) : Calls Tryz.prog 127 #[.pointer (some ⟨bg, 0, none⟩), .int .i64 n] w (GPost w bg bp bf bl bc (onS s (gRoot g n)) b W) := by
  have hi : GInv s (gRoot g n).2 b W := h.inv.root n
  have ok : (gRoot g n) = (0, { g with root := n }) → GG (w.setCell ⟨bg, 3, none⟩ (.int .i64 n)) bg bp bf bl bc s { g with root := n } b W := fun e => by
    rw [e] at hi
    have ha := h.ap
    unfold GAp at ha
    have u := Upd.one w bg 3 (.int .i64 n)
    exact ⟨h.ce.setRoot n, h.pool.upd u (by omega) (by omega) (h.pool.lt h.hn), h.lv.upd u (by omega), h.ca.upd u (by omega), h.ap, hi, h.di, h.hn⟩
  have c3 := h.ce.c3
  have z3 := h.ce.fz 3
  by_cases h1 : n = -1
  · subst h1
    have hr : gRoot g (-1) = (0, { g with root := -1 }) := by unfold gRoot; rw [if_neg (by omega)]
    have HK : Hid _ := ok hr
    rw [hr]
    clear ok hi h hr
    go_enter Tryz.func127, Tryz.ntmps127
    go_wp2_with fail
    go_ret
    exact ⟨rfl, HK.out, (Upd.one w bg 3 _).wide (fun _ e => by unfold GFt; omega)⟩
  · have b1 : (n != -1) = true := by simp; exact h1
    cases ho : onB n with
    | true =>
      obtain ⟨q0, q1⟩ := (onB_iff n).1 ho
      have hr : gRoot g n = (0, { g with root := n }) := by unfold gRoot; rw [if_neg (by omega)]
      have HK : Hid _ := ok hr
      have HA : Hid _ := isPage_any w n true ho
      rw [hr]
      clear ok hi h hr ho h1
      go_enter Tryz.func127, Tryz.ntmps127
      go_wp2_with (go_at_call 158; refine Calls.mono HA.out ?_; rintro e w1 ⟨rfl, rfl⟩)
      go_ret
      exact ⟨rfl, HK.out, (Upd.one _ bg 3 _).wide (fun _ e => by unfold GFt; omega)⟩
    | false =>
      have hr : gRoot g n = (1, g) := by unfold gRoot; rw [if_pos (by have := (onB_no n).1 ho; omega)]
      have HA : Hid _ := isPage_any w n false ho
      have HK : Hid (GG w bg bp bf bl bc s g b W) := h
      rw [hr]
      clear ok hi h hr ho h1
      go_enter Tryz.func127, Tryz.ntmps127
      go_wp2_with (go_at_call 158; refine Calls.mono HA.out ?_; rintro e w1 ⟨rfl, rfl⟩)
      go_ret
      exact ⟨rfl, HK.out, Upd.refl _ _⟩
end Go.Proofs.YtadpibcgjgcjhabGreatDoor
/- Package guest: what is remembered; the table is read. -/
namespace Go.Proofs.YtadpibcgjgcjhabGreatDoor
open Go.ChangeShapes Go.WideShapes Go.ChangeAt Go.RowKit
set_option maxRecDepth 100000
attribute [local go_sem ↓] Go.wp_at_zero Go.wp_at_succ
variable {w w' : World} {bg bp bf bl bc : Nat} {s : Pl} {g : Gs} {b : Mp} {W : Int}

/-- An entry's box. -/
def EnAt (w : World) (q : Nat) (x : En) : Prop := ∀ j, j < 7 → w.cell? ⟨q, j, none⟩ = (enCells x)[j]?
theorem EnAt.upd {S : Nat → Prop} {q : Nat} {x : En} (h : EnAt w q x) (u : Upd S w w') (hq : ¬ S q) : EnAt w' q x := fun j hj => by
  obtain ⟨v, hv⟩ := enCells_some x j hj
  rw [hv]
  exact u.cell ((h j hj).trans hv) hq
theorem EnAt.new (w : World) (t : TypeId) (x : En) : EnAt (w.alloc (.cells #[.int .i64 x.root, .int .i64 x.page, .int .i64 x.dest, .bool x.may, .bool x.lf.there, .bool x.lf.wr, .int .i64 x.lf.fr] t)) w.heap.size x := fun j _ => by
  rw [World.cell?_alloc_new]
  show (enCells x).toArray[j]? = _
  simp
theorem EnAt.setLf {q : Nat} {x : En} (h : EnAt w q x) (l : Lf) : EnAt (((w.setCell ⟨q, 4, none⟩ (.bool l.there)).setCell ⟨q, 5, none⟩ (.bool l.wr)).setCell ⟨q, 6, none⟩ (.int .i64 l.fr)) q { x with lf := l } := by
  have e4 : w.cell? ⟨q, 4, none⟩ = some (.bool x.lf.there) := h 4 (by omega)
  have e5 : (w.setCell ⟨q, 4, none⟩ (.bool l.there)).cell? ⟨q, 5, none⟩ = some (.bool x.lf.wr) := by rw [World.cell?_setCell_other _ _ _ _ (addr_ne (Or.inr (by omega)))]; exact h 5 (by omega)
  have e6 : ((w.setCell ⟨q, 4, none⟩ (.bool l.there)).setCell ⟨q, 5, none⟩ (.bool l.wr)).cell? ⟨q, 6, none⟩ = some (.int .i64 x.lf.fr) := by rw [World.cell?_setCell_other _ _ _ _ (addr_ne (Or.inr (by omega))), World.cell?_setCell_other _ _ _ _ (addr_ne (Or.inr (by omega)))]; exact h 6 (by omega)
  intro j hj
  by_cases h6 : j = 6
  · subst h6; rw [World.cell?_setCell_same _ _ _ e6]; rfl
  · rw [World.cell?_setCell_other _ _ _ _ (addr_ne (Or.inr (by omega)))]
    by_cases h5 : j = 5
    · subst h5; rw [World.cell?_setCell_same _ _ _ e5]; rfl
    · rw [World.cell?_setCell_other _ _ _ _ (addr_ne (Or.inr (by omega)))]
      by_cases h4 : j = 4
      · subst h4; rw [World.cell?_setCell_same _ _ _ e4]; rfl
      · rw [World.cell?_setCell_other _ _ _ _ (addr_ne (Or.inr (by omega))), h j hj]
        have : j = 0 ∨ j = 1 ∨ j = 2 ∨ j = 3 := by omega
        rcases this with rfl | rfl | rfl | rfl <;> rfl
set_option maxHeartbeats 1000000 in
theorem remember_any (w : World) (bg bp bl bc k : Nat) (r c : Int) (x : En) (m : Mp) (es : List En) (h : GCell w bg bp bl bc r c) (hl : LvAt w bl bp m) (hc : CaL w bc es) (hx : x.dest = k) (hk : k < 16) (l : Lf) (hml : m.lf k = l) :
    Calls Tryz.prog 176 #[.pointer (some ⟨bg, 0, none⟩), .agg #[.int .i64 x.root, .int .i64 x.page, .int .i64 x.dest, .bool x.may, .bool x.lf.there, .bool x.lf.wr, .int .i64 x.lf.fr]] w fun e w' => e = .returned (.tuple #[]) ∧ CaL w' bc (putK es { x with lf := l }) ∧ Upd (fun k => k = bc) w w' := by
  have u1 := (Upd.refl (fun _ => False) w).alloc (.cells #[.int .i64 x.root, .int .i64 x.page, .int .i64 x.dest, .bool x.may, .bool x.lf.there, .bool x.lf.wr, .int .i64 x.lf.fr] 151)
  have he := EnAt.new w 151 x
  have hz : ∀ o, (w.alloc (.cells #[.int .i64 x.root, .int .i64 x.page, .int .i64 x.dest, .bool x.may, .bool x.lf.there, .bool x.lf.wr, .int .i64 x.lf.fr] 151)).frozen? ⟨w.heap.size, o, none⟩ = false := fun o => World.frozen?_alloc_new _ _ _ _
  have hsz : w.heap.size < (w.alloc (.cells #[.int .i64 x.root, .int .i64 x.page, .int .i64 x.dest, .bool x.may, .bool x.lf.there, .bool x.lf.wr, .int .i64 x.lf.fr] 151)).heap.size := by simp
  have hgl := h.lt
  have hcl := hc.lt
  have h1 := h.upd u1 (fun f => f)
  have hl1 := hl.upd u1 (fun f => f)
  have hc1 : CaL _ bc es := hc.upd u1 (fun f => f)
  obtain ⟨xr, xp, xd, xm, xl⟩ := x
  simp only at hx
  subst hx
  have HX : Hid _ := u1
  go_enter Tryz.func176, Tryz.ntmps176
  go_wp2_with fail
  revert he hz hsz h1 hl1 hc1 HX
  clear u1 h hl hc
  generalize w.alloc (.cells #[.int .i64 xr, .int .i64 xp, .int .i64 (k : Int), .bool xm, .bool xl.there, .bool xl.wr, .int .i64 xl.fr] 151) = w1
  generalize hqq : w.heap.size = q at *
  have HQ : Hid (w.heap.size = q) := hqq
  clear hqq
  intro he hz hsz h1 hl1 hc1 HX
  have g1 := h1.c1
  have x2 : w1.cell? ⟨q, 2, none⟩ = some (.int .i64 k) := he 2 (by omega)
  have hleaf := gLeaf_on w1.drew bl bp k m hl1.drew hk
  rw [hml] at hleaf
  have HL : Hid _ := hleaf
  have HE : Hid (EnAt w1.drew q ⟨xr, xp, k, xm, xl⟩) := he
  have HZ : Hid (∀ o, w1.drew.frozen? ⟨q, o, none⟩ = false) := hz
  have HSZ : Hid (q < w1.drew.heap.size) := hsz
  have H1 : Hid (GCell w1.drew bg bp bl bc r c) := h1.upd ((Upd.refl (fun _ => False) w1).drew) (fun f => f)
  have HC1 : Hid (CaL w1.drew bc es) := hc1.upd ((Upd.refl (fun _ => False) w1).drew) (fun f => f)
  have HX' : Hid (Upd (fun _ => False) w w1.drew) := HX.out.drew
  clear he hz hsz h1 hl1 hc1 HX hleaf hml
  have nq : bg ≠ q := by omega
  have nc : bc ≠ q := by omega
  go_region_with (go_at_call 144; refine Calls.mono HL.out ?_; rintro e w2 ⟨rfl, hu2⟩; have he2 := EnAt.upd HE.out hu2 (fun f => f); have y4 : w2.cell? ⟨q, 4, none⟩ = some (.bool xl.there) := he2 4 (by omega); have y5 : w2.cell? ⟨q, 5, none⟩ = some (.bool xl.wr) := he2 5 (by omega); have y6 : w2.cell? ⟨q, 6, none⟩ = some (.int .i64 xl.fr) := he2 6 (by omega); have z0 : ∀ o, w2.frozen? ⟨q, o, none⟩ = false := fun o => (by rw [World.frozen?_of_block (hu2.block q HSZ.out (fun f => f))]; exact HZ.out o); have z4 := z0 4; have z5 := z0 5; have z6 := z0 6; have HE2 : Hid (EnAt w2 q ⟨xr, xp, k, xm, xl⟩) := he2; have HU2 : Hid _ := hu2; clear he2 z0 hu2)
  all_goals
    have HU3 : Hid (Upd (fun k => k = q) w2 (((w2.setCell ⟨q, 4, none⟩ (.bool l.there)).setCell ⟨q, 5, none⟩ (.bool l.wr)).setCell ⟨q, 6, none⟩ (.int .i64 l.fr))) := Upd.three w2 q 4 5 6 _ _ _
    have HE3 : Hid (EnAt (((w2.setCell ⟨q, 4, none⟩ (.bool l.there)).setCell ⟨q, 5, none⟩ (.bool l.wr)).setCell ⟨q, 6, none⟩ (.int .i64 l.fr)) q ⟨xr, xp, k, xm, l⟩) := EnAt.setLf HE2.out l
    clear y4 y5 y6 z4 z5 z6 g1 x2 HL HE HZ HSZ HE2
    go_wp2_with fail
    revert HU3 HE3
    generalize ((w2.setCell ⟨q, 4, none⟩ (.bool l.there)).setCell ⟨q, 5, none⟩ (.bool l.wr)).setCell ⟨q, 6, none⟩ (.int .i64 l.fr) = w3
    intro HU3 HE3
    have g2 := ((H1.out.upd HU2.out (fun f => f)).upd HU3.out nq).c2
    have HC3 : Hid (CaL w3.drew bc es) := ((HC1.out.upd HU2.out (fun f => f)).upd HU3.out nc).upd ((Upd.refl (fun _ => False) w3).drew) (fun f => f)
    have y0 : w3.cell? ⟨q, 0, none⟩ = some (.int .i64 xr) := HE3.out 0 (by omega)
    have y1 : w3.cell? ⟨q, 1, none⟩ = some (.int .i64 xp) := HE3.out 1 (by omega)
    have y2 : w3.cell? ⟨q, 2, none⟩ = some (.int .i64 k) := HE3.out 2 (by omega)
    have y3 : w3.cell? ⟨q, 3, none⟩ = some (.bool xm) := HE3.out 3 (by omega)
    have y4 : w3.cell? ⟨q, 4, none⟩ = some (.bool l.there) := HE3.out 4 (by omega)
    have y5 : w3.cell? ⟨q, 5, none⟩ = some (.bool l.wr) := HE3.out 5 (by omega)
    have y6 : w3.cell? ⟨q, 6, none⟩ = some (.int .i64 l.fr) := HE3.out 6 (by omega)
    have HU : Hid (Upd (fun _ => False) w w3) := (HX'.out.trans HU2.out (fun _ _ f => f)).trans HU3.out (fun i hi e => by have := HQ.out; omega)
    clear HU2 HU3 HC1 H1 HX' HE3
    go_region_with (go_at_call 194; refine (kPut_any _ bc es ⟨xr, xp, k, xm, l⟩ HC3.out).mono ?_; rintro e w4 ⟨rfl, hc4, hu4⟩; have HC4 : Hid (CaL w4 bc (putK es ⟨xr, xp, k, xm, l⟩)) := hc4; have HU4 : Hid _ := hu4; clear hc4 hu4)
    all_goals
      go_wp2_with fail
      go_end0
      exact ⟨rfl, HC4.out, (HU.out.wide (T := fun k => k = bc) (fun _ f => f.elim)).drew.trans HU4.out (fun _ _ e => e)⟩
end Go.Proofs.YtadpibcgjgcjhabGreatDoor
