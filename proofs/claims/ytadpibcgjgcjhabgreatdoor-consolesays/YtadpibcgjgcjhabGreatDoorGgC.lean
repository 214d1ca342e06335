/- Package guest: Plug, Unplug, Give, Back, Seal, Join. -/
import Derived.Test.YtadpibcgjgcjhabGreatDoorGgB
namespace Go.Proofs.YtadpibcgjgcjhabGreatDoor
open Go.ChangeShapes Go.WideShapes Go.ChangeAt Go.RowKit
set_option maxRecDepth 100000
attribute [local go_sem ↓] Go.wp_at_zero Go.wp_at_succ
variable {w w' : World} {bg bp bf bl bc : Nat} {s : Pl} {g : Gs} {b : Mp} {W : Int}

theorem enters_Plug : ∀ args w, (callFunc 154 args).run Tryz.prog w = .ok (.enter 154 args) w := enters_of Tryz.func154 (by kernel_rfl) rfl
set_option maxHeartbeats 400000 in
theorem GG.plug (h : GG w bg bp bf bl bc s g b W) (n : Int) : Calls Tryz.prog 123 #[.pointer (some ⟨bg, 0, none⟩), .int .i64 n] w (GPost w bg bp bf bl bc (gPlug s g n) b W) := by
  have ha := h.ap
  unfold GAp at ha
  have hby : ByOk w bp bf bl 154 ((#[.pointer (some ⟨bl, 0, none⟩)] : Array Value).push (.int .i64 n) ++ #[]) (plugR s g.m n).1 (plugR s g.m n).2.1 (plugR s g.m n).2.2 (fun k => k = bf ∨ k = bl) (fun _ => True) := by
    rw [show (#[.pointer (some ⟨bl, 0, none⟩)] : Array Value).push (.int .i64 n) ++ #[] = #[.pointer (some ⟨bl, 0, none⟩), .int .i64 n] from rfl]
    unfold ByOk
    refine (lvPlug w bl bp bf n g.m b s h.lv h.pool (by omega) (by omega) h.hn h.inv.inv).mono ?_
    rintro e w1 ⟨he, h1, h2, h3⟩
    exact ⟨he, h1, h2, trivial, h3⟩
  have hN : (plugR s g.m n).2.1.n = s.n := plug_n s g.m n
  have h1 : ¬ (fun k => k = bf ∨ k = bl) bg := by simp only; omega
  have h2 : ¬ (fun k => k = bf ∨ k = bl) bc := by simp only; omega
  have h3 : 0 < (plugR s g.m n).2.1.n := by rw [hN]; exact h.hn
  have hch := change_any w bg bp bf bl bc n g.root g.walks 154 #[.pointer (some ⟨bl, 0, none⟩)] #[] (plugR s g.m n).1 (plugR s g.m n).2.1 g.m (plugR s g.m n).2.2 g.c (fun k => k = bf ∨ k = bl) (fun _ => True) h.ce h.ca h.ap enters_Plug hby h1 h2 (plug_lf s g.m n) (fun h => by rw [plug_no h]) (fun h => plug_on h) h.en h3 (fun _ _ _ _ => trivial)
  have HCH : Hid _ := hch
  have HI : Hid (GInv (gPlug s g n).2.1 (gPlug s g n).2.2 b W) := h.inv.plug n
  have H1 : Hid (¬ (fun k => (fun k => k = bf ∨ k = bl) k ∨ k = bc) bg) := show ¬ _ by simp only; omega
  have c1 := h.ce.c1
  have HH : Hid (GG w bg bp bf bl bc s g b W) := h
  have HN : Hid _ := hN
  clear hby h1 h2 h3 hch ha h hN
  go_enter Tryz.func123, Tryz.ntmps123
  go_wp2_with fail
  refine Calls.mono HCH.out ?_
  rintro e w2 ⟨rfl, hp2, hl2, hc2, _, hu2⟩
  have H2 : Hid _ := HH.out.turned hu2 H1.out hp2 hl2 hc2 HI.out HN.out
  have HU : Hid (Upd (GFt bg bf bl bc) w w2) := hu2.wide (fun k e => by unfold GFt; simp only at e; omega)
  clear hp2 hl2 hc2 hu2 HCH
  go_wp2_with fail
  go_ret
  exact ⟨rfl, H2.out, HU.out⟩
theorem enters_Unplug : ∀ args w, (callFunc 152 args).run Tryz.prog w = .ok (.enter 152 args) w := enters_of Tryz.func152 (by kernel_rfl) rfl
set_option maxHeartbeats 400000 in
theorem GG.unplug (h : GG w bg bp bf bl bc s g b W) (n : Int) : Calls Tryz.prog 119 #[.pointer (some ⟨bg, 0, none⟩), .int .i64 n] w (GPost w bg bp bf bl bc (gUnplug s g n) b W) := by
  have ha := h.ap
  unfold GAp at ha
  have hby : ByOk w bp bf bl 152 ((#[.pointer (some ⟨bl, 0, none⟩)] : Array Value).push (.int .i64 n) ++ #[]) (unplugR s g.m n).1 (unplugR s g.m n).2.1 (unplugR s g.m n).2.2 (fun k => k = bf ∨ k = bl) (fun _ => True) := by
    rw [show (#[.pointer (some ⟨bl, 0, none⟩)] : Array Value).push (.int .i64 n) ++ #[] = #[.pointer (some ⟨bl, 0, none⟩), .int .i64 n] from rfl]
    unfold ByOk
    refine (lvUnplug w bl bp bf n g.m b s h.lv h.pool (by omega) (by omega) h.hn h.inv.inv).mono ?_
    rintro e w1 ⟨he, h1, h2, h3⟩
    exact ⟨he, h1, h2, trivial, h3⟩
  have hN : (unplugR s g.m n).2.1.n = s.n := unplug_n s g.m n
  have h1 : ¬ (fun k => k = bf ∨ k = bl) bg := by simp only; omega
  have h2 : ¬ (fun k => k = bf ∨ k = bl) bc := by simp only; omega
  have h3 : 0 < (unplugR s g.m n).2.1.n := by rw [hN]; exact h.hn
  have hch := change_any w bg bp bf bl bc n g.root g.walks 152 #[.pointer (some ⟨bl, 0, none⟩)] #[] (unplugR s g.m n).1 (unplugR s g.m n).2.1 g.m (unplugR s g.m n).2.2 g.c (fun k => k = bf ∨ k = bl) (fun _ => True) h.ce h.ca h.ap enters_Unplug hby h1 h2 (unplug_lf s g.m n) (fun h => by rw [unplug_no h]) (fun h => unplug_on h) h.en h3 (fun _ _ _ _ => trivial)
  have HCH : Hid _ := hch
  have HI : Hid (GInv (gUnplug s g n).2.1 (gUnplug s g n).2.2 b W) := h.inv.unplug n
  have H1 : Hid (¬ (fun k => (fun k => k = bf ∨ k = bl) k ∨ k = bc) bg) := show ¬ _ by simp only; omega
  have c1 := h.ce.c1
  have HH : Hid (GG w bg bp bf bl bc s g b W) := h
  have HN : Hid _ := hN
  clear hby h1 h2 h3 hch ha h hN
  go_enter Tryz.func119, Tryz.ntmps119
  go_wp2_with fail
  refine Calls.mono HCH.out ?_
  rintro e w2 ⟨rfl, hp2, hl2, hc2, _, hu2⟩
  have H2 : Hid _ := HH.out.turned hu2 H1.out hp2 hl2 hc2 HI.out HN.out
  have HU : Hid (Upd (GFt bg bf bl bc) w w2) := hu2.wide (fun k e => by unfold GFt; simp only at e; omega)
  clear hp2 hl2 hc2 hu2 HCH
  go_wp2_with fail
  go_ret
  exact ⟨rfl, H2.out, HU.out⟩
theorem enters_Give : ∀ args w, (callFunc 155 args).run Tryz.prog w = .ok (.enter 155 args) w := enters_of Tryz.func155 (by kernel_rfl) rfl
set_option maxHeartbeats 400000 in
theorem GG.give (h : GG w bg bp bf bl bc s g b W) (n : Int) : Calls Tryz.prog 124 #[.pointer (some ⟨bg, 0, none⟩), .int .i64 n] w (GPost w bg bp bf bl bc (gGive s g n false) b W) := by
  have ha := h.ap
  unfold GAp at ha
  have hby : ByOk w bp bf bl 155 ((#[.pointer (some ⟨bl, 0, none⟩)] : Array Value).push (.int .i64 n) ++ #[]) (giveR s g.m n false).1 (giveR s g.m n false).2.1 (giveR s g.m n false).2.2 (fun k => k = bf ∨ k = bl) (fun _ => True) := by
    rw [show (#[.pointer (some ⟨bl, 0, none⟩)] : Array Value).push (.int .i64 n) ++ #[] = #[.pointer (some ⟨bl, 0, none⟩), .int .i64 n] from rfl]
    unfold ByOk
    refine (lvGive w bl bp bf n g.m b s h.lv h.pool (by omega) (by omega) h.hn h.inv.inv).mono ?_
    rintro e w1 ⟨he, h1, h2, h3⟩
    exact ⟨he, h1, h2, trivial, h3⟩
  have hN : (giveR s g.m n false).2.1.n = s.n := give_n s g.m n false
  have h1 : ¬ (fun k => k = bf ∨ k = bl) bg := by simp only; omega
  have h2 : ¬ (fun k => k = bf ∨ k = bl) bc := by simp only; omega
  have h3 : 0 < (giveR s g.m n false).2.1.n := by rw [hN]; exact h.hn
  have hch := change_any w bg bp bf bl bc n g.root g.walks 155 #[.pointer (some ⟨bl, 0, none⟩)] #[] (giveR s g.m n false).1 (giveR s g.m n false).2.1 g.m (giveR s g.m n false).2.2 g.c (fun k => k = bf ∨ k = bl) (fun _ => True) h.ce h.ca h.ap enters_Give hby h1 h2 (give_lf s g.m n false) (fun h => by rw [give_no h]) (fun h => give_on h) h.en h3 (fun _ _ _ _ => trivial)
  have HCH : Hid _ := hch
  have HI : Hid (GInv (gGive s g n false).2.1 (gGive s g n false).2.2 b W) := h.inv.give n false
  have H1 : Hid (¬ (fun k => (fun k => k = bf ∨ k = bl) k ∨ k = bc) bg) := show ¬ _ by simp only; omega
  have c1 := h.ce.c1
  have HH : Hid (GG w bg bp bf bl bc s g b W) := h
  have HN : Hid _ := hN
  clear hby h1 h2 h3 hch ha h hN
  go_enter Tryz.func124, Tryz.ntmps124
  go_wp2_with fail
  refine Calls.mono HCH.out ?_
  rintro e w2 ⟨rfl, hp2, hl2, hc2, _, hu2⟩
  have H2 : Hid _ := HH.out.turned hu2 H1.out hp2 hl2 hc2 HI.out HN.out
  have HU : Hid (Upd (GFt bg bf bl bc) w w2) := hu2.wide (fun k e => by unfold GFt; simp only at e; omega)
  clear hp2 hl2 hc2 hu2 HCH
  go_wp2_with fail
  go_ret
  exact ⟨rfl, H2.out, HU.out⟩
theorem enters_Back : ∀ args w, (callFunc 156 args).run Tryz.prog w = .ok (.enter 156 args) w := enters_of Tryz.func156 (by kernel_rfl) rfl
set_option maxHeartbeats 400000 in
theorem GG.back (h : GG w bg bp bf bl bc s g b W) (n : Int) : Calls Tryz.prog 125 #[.pointer (some ⟨bg, 0, none⟩), .int .i64 n] w (GPost w bg bp bf bl bc (gGive s g n true) b W) := by
  have ha := h.ap
  unfold GAp at ha
  have hby : ByOk w bp bf bl 156 ((#[.pointer (some ⟨bl, 0, none⟩)] : Array Value).push (.int .i64 n) ++ #[]) (giveR s g.m n true).1 (giveR s g.m n true).2.1 (giveR s g.m n true).2.2 (fun k => k = bf ∨ k = bl) (fun _ => True) := by
    rw [show (#[.pointer (some ⟨bl, 0, none⟩)] : Array Value).push (.int .i64 n) ++ #[] = #[.pointer (some ⟨bl, 0, none⟩), .int .i64 n] from rfl]
    unfold ByOk
    refine (lvBack w bl bp bf n g.m b s h.lv h.pool (by omega) (by omega) h.hn h.inv.inv).mono ?_
    rintro e w1 ⟨he, h1, h2, h3⟩
    exact ⟨he, h1, h2, trivial, h3⟩
  have hN : (giveR s g.m n true).2.1.n = s.n := give_n s g.m n true
  have h1 : ¬ (fun k => k = bf ∨ k = bl) bg := by simp only; omega
  have h2 : ¬ (fun k => k = bf ∨ k = bl) bc := by simp only; omega
  have h3 : 0 < (giveR s g.m n true).2.1.n := by rw [hN]; exact h.hn
  have hch := change_any w bg bp bf bl bc n g.root g.walks 156 #[.pointer (some ⟨bl, 0, none⟩)] #[] (giveR s g.m n true).1 (giveR s g.m n true).2.1 g.m (giveR s g.m n true).2.2 g.c (fun k => k = bf ∨ k = bl) (fun _ => True) h.ce h.ca h.ap enters_Back hby h1 h2 (give_lf s g.m n true) (fun h => by rw [give_no h]) (fun h => give_on h) h.en h3 (fun _ _ _ _ => trivial)
  have HCH : Hid _ := hch
  have HI : Hid (GInv (gGive s g n true).2.1 (gGive s g n true).2.2 b W) := h.inv.give n true
  have H1 : Hid (¬ (fun k => (fun k => k = bf ∨ k = bl) k ∨ k = bc) bg) := show ¬ _ by simp only; omega
  have c1 := h.ce.c1
  have HH : Hid (GG w bg bp bf bl bc s g b W) := h
  have HN : Hid _ := hN
  clear hby h1 h2 h3 hch ha h hN
  go_enter Tryz.func125, Tryz.ntmps125
  go_wp2_with fail
  refine Calls.mono HCH.out ?_
  rintro e w2 ⟨rfl, hp2, hl2, hc2, _, hu2⟩
  have H2 : Hid _ := HH.out.turned hu2 H1.out hp2 hl2 hc2 HI.out HN.out
  have HU : Hid (Upd (GFt bg bf bl bc) w w2) := hu2.wide (fun k e => by unfold GFt; simp only at e; omega)
  clear hp2 hl2 hc2 hu2 HCH
  go_wp2_with fail
  go_ret
  exact ⟨rfl, H2.out, HU.out⟩
theorem enters_Seal : ∀ args w, (callFunc 145 args).run Tryz.prog w = .ok (.enter 145 args) w := enters_of Tryz.func145 (by kernel_rfl) rfl
set_option maxHeartbeats 400000 in
theorem GG.seal (h : GG w bg bp bf bl bc s g b W) (n : Int) : Calls Tryz.prog 114 #[.pointer (some ⟨bg, 0, none⟩), .int .i64 n] w (GPost w bg bp bf bl bc (gSeal s g n) b W) := by
  have ha := h.ap
  unfold GAp at ha
  have hby : ByOk w bp bf bl 145 ((#[.pointer (some ⟨bl, 0, none⟩)] : Array Value).push (.int .i64 n) ++ #[]) (sealR g.m n).1 s (sealR g.m n).2 (fun k => k = bf ∨ k = bl) (fun _ => True) := by
    rw [show (#[.pointer (some ⟨bl, 0, none⟩)] : Array Value).push (.int .i64 n) ++ #[] = #[.pointer (some ⟨bl, 0, none⟩), .int .i64 n] from rfl]
    unfold ByOk
    refine (lvSeal w bl bp bf n g.m b s h.lv h.pool (by omega) (by omega) h.hn h.inv.inv).mono ?_
    rintro e w1 ⟨he, h1, h2, h3⟩
    exact ⟨he, h1, h2, trivial, h3⟩
  have hN : s.n = s.n := rfl
  have h1 : ¬ (fun k => k = bf ∨ k = bl) bg := by simp only; omega
  have h2 : ¬ (fun k => k = bf ∨ k = bl) bc := by simp only; omega
  have h3 : 0 < s.n := by rw [hN]; exact h.hn
  have hch := change_any w bg bp bf bl bc n g.root g.walks 145 #[.pointer (some ⟨bl, 0, none⟩)] #[] (sealR g.m n).1 s g.m (sealR g.m n).2 g.c (fun k => k = bf ∨ k = bl) (fun _ => True) h.ce h.ca h.ap enters_Seal hby h1 h2 (seal_lf g.m n) (fun h => by rw [seal_no h]) (fun h => seal_on h) h.en h3 (fun _ _ _ _ => trivial)
  have HCH : Hid _ := hch
  have HI : Hid (GInv (gSeal s g n).2.1 (gSeal s g n).2.2 b W) := h.inv.seal n
  have H1 : Hid (¬ (fun k => (fun k => k = bf ∨ k = bl) k ∨ k = bc) bg) := show ¬ _ by simp only; omega
  have c1 := h.ce.c1
  have HH : Hid (GG w bg bp bf bl bc s g b W) := h
  have HN : Hid _ := hN
  clear hby h1 h2 h3 hch ha h hN
  go_enter Tryz.func114, Tryz.ntmps114
  go_wp2_with fail
  refine Calls.mono HCH.out ?_
  rintro e w2 ⟨rfl, hp2, hl2, hc2, _, hu2⟩
  have H2 : Hid _ := HH.out.turned hu2 H1.out hp2 hl2 hc2 HI.out rfl
  have HU : Hid (Upd (GFt bg bf bl bc) w w2) := hu2.wide (fun k e => by unfold GFt; simp only at e; omega)
  clear hp2 hl2 hc2 hu2 HCH
  go_wp2_with fail
  go_ret
  exact ⟨rfl, H2.out, HU.out⟩
theorem join1_any (w : World) (bg bp bf bl bc Bg Bf : Nat) (n f r k : Int) (m b : Mp) (s : Pl) (h : GCell w bg bp bl bc r k) (hl : LvAt w bl bp m) (hp : PoolAt w bp bf s) (ha : GAp bg bp bf bl bc) (hn : 0 < s.n) (hi : Inv s m b)
    (cg : w.cell? ⟨Bg, 0, none⟩ = some (.pointer (some ⟨bg, 0, none⟩))) (cf : w.cell? ⟨Bf, 0, none⟩ = some (.int .i64 f)) :
    ByOk w bp bf bl 116 #[.int .i64 n, .pointer (some ⟨Bg, 0, none⟩), .pointer (some ⟨Bf, 0, none⟩)] (joinR s m n f).1 (joinR s m n f).2.1 (joinR s m n f).2.2 (fun k => k = bf ∨ k = bl) (fun _ => True) := by
  unfold ByOk
  have c1 := h.c1
  unfold GAp at ha
  have HT : Hid _ := lvJoin w.drew bl bp bf n f m b s hl.drew hp.drew (by omega) (by omega) hn hi
  revert HT
  generalize joinR s m n f = t
  intro HT
  obtain ⟨code, s', m'⟩ := t
  clear ha h hl hp hi
  generalize hev : errV code = ev at HT
  have HEV : Hid _ := hev
  clear hev
  go_enter Tryz.func116, Tryz.ntmps116
  go_wp2_with fail
  go_region_with (go_at_call 117; refine Calls.mono HT.out ?_; rintro e w1 ⟨rfl, hp1, hl1, hu1⟩; have HP1 : Hid _ := hp1; have HL1 : Hid _ := hl1; have HU1 : Hid _ := hu1; clear hp1 hl1 hu1)
  all_goals
    go_wp2_with fail
    go_ret
    exact ⟨by rw [← HEV.out]; rfl, HP1.out, HL1.out, trivial, (Upd.refl (fun k => k = bf ∨ k = bl) w).drew.trans HU1.out (fun _ _ e => e)⟩
theorem enters_join1 : ∀ args w, (callFunc 116 args).run Tryz.prog w = .ok (.enter 116 args) w := enters_of Tryz.func116 (by kernel_rfl) rfl
set_option maxHeartbeats 400000 in
theorem GG.join (h : GG w bg bp bf bl bc s g b W) (n f : Int) : Calls Tryz.prog 85 #[.pointer (some ⟨bg, 0, none⟩), .int .i64 n, .int .i64 f] w (GPost w bg bp bf bl bc (gJoin s g n f) b W) := by
  have hz := h.ce.lt
  have hu0 := ((Upd.refl (fun _ => False) w).alloc (.cells #[.pointer (some ⟨bg, 0, none⟩)] 80)).alloc (.cells #[.int .i64 f] 3)
  have HG0 : Hid (((w.alloc (.cells #[.pointer (some ⟨bg, 0, none⟩)] 80)).alloc (.cells #[.int .i64 f] 3)).cell? ⟨w.heap.size, 0, none⟩ = some (.pointer (some ⟨bg, 0, none⟩))) := by
    show _ = _
    rw [World.cell?_alloc_old _ _ _ (by simp only [World.size_alloc]; omega), World.cell?_alloc_new]; rfl
  have HF0 : Hid (((w.alloc (.cells #[.pointer (some ⟨bg, 0, none⟩)] 80)).alloc (.cells #[.int .i64 f] 3)).cell? ⟨w.heap.size + 1, 0, none⟩ = some (.int .i64 f)) := by
    show _ = _
    have := World.cell?_alloc_new (w.alloc (.cells #[.pointer (some ⟨bg, 0, none⟩)] 80)) #[.int .i64 f] 3 0
    simp only [World.size_alloc] at this
    rw [this]; rfl
  have HG : Hid (GG ((w.alloc (.cells #[.pointer (some ⟨bg, 0, none⟩)] 80)).alloc (.cells #[.int .i64 f] 3)) bg bp bf bl bc s g b W) := h.same hu0
  have HU0 : Hid _ := hu0
  have HI : Hid (GInv (gJoin s g n f).2.1 (gJoin s g n f).2.2 b W) := h.inv.join n f
  have HN : Hid ((joinR s g.m n f).2.1.n = s.n) := join_n s g.m n f
  clear hu0 h
  go_enter Tryz.func85, Tryz.ntmps85
  go_wp2_with fail
  revert HU0 HG HF0 HG0
  generalize (w.alloc (.cells #[.pointer (some ⟨bg, 0, none⟩)] 80)).alloc (.cells #[.int .i64 f] 3) = w0
  generalize w.heap.size = q at *
  intro HG0 HF0 HG HU0
  have ha := HG.out.ap
  unfold GAp at ha
  have hby : ByOk w0 bp bf bl 116 ((#[] : Array Value).push (.int .i64 n) ++ #[.pointer (some ⟨q, 0, none⟩), .pointer (some ⟨q + 1, 0, none⟩)]) (joinR s g.m n f).1 (joinR s g.m n f).2.1 (joinR s g.m n f).2.2 (fun k => k = bf ∨ k = bl) (fun _ => True) := by
    rw [show (#[] : Array Value).push (.int .i64 n) ++ #[.pointer (some ⟨q, 0, none⟩), .pointer (some ⟨q + 1, 0, none⟩)] = #[.int .i64 n, .pointer (some ⟨q, 0, none⟩), .pointer (some ⟨q + 1, 0, none⟩)] from rfl]
    exact join1_any w0 bg bp bf bl bc q (q + 1) n f g.root g.walks g.m b s HG.out.ce HG.out.lv HG.out.pool HG.out.ap HG.out.hn HG.out.inv.inv HG0.out HF0.out
  have h1 : ¬ (fun k => k = bf ∨ k = bl) bg := by simp only; omega
  have h2 : ¬ (fun k => k = bf ∨ k = bl) bc := by simp only; omega
  have h3 : 0 < (joinR s g.m n f).2.1.n := by rw [HN.out]; exact HG.out.hn
  have hch := change_any w0 bg bp bf bl bc n g.root g.walks 116 #[] #[.pointer (some ⟨q, 0, none⟩), .pointer (some ⟨q + 1, 0, none⟩)] (joinR s g.m n f).1 (joinR s g.m n f).2.1 g.m (joinR s g.m n f).2.2 g.c (fun k => k = bf ∨ k = bl) (fun _ => True) HG.out.ce HG.out.ca HG.out.ap enters_join1 hby h1 h2 (join_lf s g.m n f) (fun h => by rw [join_no h]) (fun h => join_on h) HG.out.en h3 (fun _ _ _ _ => trivial)
  have HCH : Hid _ := hch
  have H1 : Hid (¬ (fun k => (fun k => k = bf ∨ k = bl) k ∨ k = bc) bg) := show ¬ _ by simp only; omega
  clear hby h1 h2 h3 hch ha
  refine Calls.mono HCH.out ?_
  rintro e w2 ⟨rfl, hp2, hl2, hc2, _, hu2⟩
  have H2 : Hid _ := HG.out.turned hu2 H1.out hp2 hl2 hc2 HI.out HN.out
  have HU : Hid (Upd (GFt bg bf bl bc) w w2) := (HU0.out.wide (T := GFt bg bf bl bc) (fun _ f => f.elim)).trans hu2 (fun k _ e => by unfold GFt; simp only at e; omega)
  clear hp2 hl2 hc2 hu2 HCH
  go_wp2_with fail
  go_ret
  exact ⟨rfl, H2.out, HU.out⟩
end Go.Proofs.YtadpibcgjgcjhabGreatDoor
