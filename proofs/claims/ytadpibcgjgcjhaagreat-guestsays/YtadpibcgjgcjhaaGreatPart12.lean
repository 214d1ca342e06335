/- The document's answer for chapter 4: each act of a guest in one form. -/
import Derived.Test.YtadpibcgjgcjhaaGreatPart11
import Derived.Test.YtadpibcgjgcjhaaGreatPart08
import Derived.Test.YtadpibcgjgcjhaaGreatPart10
namespace Go.Proofs.YtadpibcgjgcjhaaGreat
open Go.ChangeShapes Go.WideShapes Go.ChangeAt Go.RowKit
set_option maxRecDepth 100000

/-- An act of a guest: what is told, the pool, the guest. -/
def gMap (g : Gs) (r : Int × Pl × Mp) : Int × Pl × Gs := (r.1, r.2.1, { g with m := r.2.2 })
def gPlug (s : Pl) (g : Gs) (n : Int) : Int × Pl × Gs := gMap g (plugR s g.m n)
def gUnplug (s : Pl) (g : Gs) (n : Int) : Int × Pl × Gs := gMap g (unplugR s g.m n)
def gGive (s : Pl) (g : Gs) (n : Int) (back : Bool) : Int × Pl × Gs := gMap g (giveR s g.m n back)
def gJoin (s : Pl) (g : Gs) (n f : Int) : Int × Pl × Gs := gMap g (joinR s g.m n f)
def gSeal (s : Pl) (g : Gs) (n : Int) : Int × Pl × Gs := ((sealR g.m n).1, s, { g with m := (sealR g.m n).2 })
def onS (s : Pl) (r : Int × Gs) : Int × Pl × Gs := (r.1, s, r.2)
theorem turnM_rest (m : Mp) (n : Nat) (z : Int) (r : Nat → Option Value) : turnM { m with rest := r } n z = { turnM m n z with rest := r } := rfl
theorem turnP_rest (s : Pl) (m : Mp) (n : Nat) (z : Int) (r : Nat → Option Value) : turnP s { m with rest := r } n z = turnP s m n z := rfl
theorem plug_rest (s : Pl) (m : Mp) (n : Int) (r : Nat → Option Value) : plugR s { m with rest := r } n = ((plugR s m n).1, (plugR s m n).2.1, { (plugR s m n).2.2 with rest := r }) := by
  unfold plugR
  repeat' split
  all_goals first | rfl | contradiction
theorem unplug_rest (s : Pl) (m : Mp) (n : Int) (r : Nat → Option Value) : unplugR s { m with rest := r } n = ((unplugR s m n).1, (unplugR s m n).2.1, { (unplugR s m n).2.2 with rest := r }) := by
  unfold unplugR
  repeat' split
  all_goals first | rfl | contradiction
theorem give_rest (s : Pl) (m : Mp) (n : Int) (b : Bool) (r : Nat → Option Value) : giveR s { m with rest := r } n b = ((giveR s m n b).1, (giveR s m n b).2.1, { (giveR s m n b).2.2 with rest := r }) := by
  unfold giveR
  repeat' split
  all_goals first | rfl | contradiction
theorem join_rest (s : Pl) (m : Mp) (n f : Int) (r : Nat → Option Value) : joinR s { m with rest := r } n f = ((joinR s m n f).1, (joinR s m n f).2.1, { (joinR s m n f).2.2 with rest := r }) := by
  unfold joinR
  repeat' split
  all_goals first | rfl | contradiction
theorem seal_rest (m : Mp) (n : Int) (r : Nat → Option Value) : sealR { m with rest := r } n = ((sealR m n).1, { (sealR m n).2 with rest := r }) := by
  unfold sealR
  repeat' split
  all_goals first | rfl | contradiction
/-- How an act of the document's guest ends. -/
def RPost (w : World) (bg bm base : Nat) (v : Value) (r : Int × Pl × Gs) (e : Ending) (w' : World) : Prop := e = .returned (.int .i64 r.1) ∧ RefAt w' bm r.2.1 ∧ (∃ v', RGu w' bg bm base v' r.2.2 ∧ Fr w v v') ∧ Upd (fun k => k = bm ∨ k = bg) w w'
/-- Where an act of the document's guest begins. -/
structure RPre (w : World) (bg bm base : Nat) (v : Value) (s : Pl) (g : Gs) (b : Mp) : Prop where
  gu : RGu w bg bm base v g
  ref : RefAt w bm s
  ne : bg ≠ bm
  inv : GInv s g b 1000000
  base : base ≤ w.heap.size
variable {w : World} {bg bm base : Nat} {v : Value} {s : Pl} {g : Gs} {b : Mp}
theorem RPre.m9 (h : RPre w bg bm base v s g b) : ∀ f, f < s.n → s.refs f ≤ 999999 := fun f hf => by have := h.inv.inv.le f hf; omega
theorem RPre.plug (h : RPre w bg bm base v s g b) (n : Int) : Calls Tryz.prog 55 #[.pointer (some ⟨bg, 0, none⟩), .int .i64 n] w (RPost w bg bm base v (gPlug s g n)) := by
  have hg := h.gu
  have := rPlug_any w bg bm n _ s hg.mp h.ref h.ne (fun f hf => by have := h.m9 f hf; omega)
  rw [plug_rest] at this
  refine this.mono ?_
  rintro e w' ⟨he, h1, h2, hu⟩
  exact ⟨he, h1, ⟨v, hg.map hu h2, Fr.refl _ _⟩, hu⟩
theorem RPre.unplug (h : RPre w bg bm base v s g b) (n : Int) : Calls Tryz.prog 56 #[.pointer (some ⟨bg, 0, none⟩), .int .i64 n] w (RPost w bg bm base v (gUnplug s g n)) := by
  have hg := h.gu
  have := rUnplug_any w bg bm n _ s hg.mp h.ref h.ne (fun f hf => by have := h.m9 f hf; omega)
  rw [unplug_rest] at this
  refine this.mono ?_
  rintro e w' ⟨he, h1, h2, hu⟩
  exact ⟨he, h1, ⟨v, hg.map hu h2, Fr.refl _ _⟩, hu⟩
theorem RPre.give (h : RPre w bg bm base v s g b) (n : Int) (back : Bool) : Calls Tryz.prog 58 #[.pointer (some ⟨bg, 0, none⟩), .int .i64 n, .bool back] w (RPost w bg bm base v (gGive s g n back)) := by
  have hg := h.gu
  have := rGive_any w bg bm n back _ s hg.mp h.ref h.ne (fun f hf => by have := h.m9 f hf; omega)
  rw [give_rest] at this
  refine this.mono ?_
  rintro e w' ⟨he, h1, h2, hu⟩
  exact ⟨he, h1, ⟨v, hg.map hu h2, Fr.refl _ _⟩, hu⟩
theorem RPre.join (h : RPre w bg bm base v s g b) (n f : Int) : Calls Tryz.prog 61 #[.pointer (some ⟨bg, 0, none⟩), .int .i64 n, .int .i64 f] w (RPost w bg bm base v (gJoin s g n f)) := by
  have hg := h.gu
  have := rJoin_any w bg bm n f _ s hg.mp h.ref h.ne h.m9
  rw [join_rest] at this
  refine this.mono ?_
  rintro e w' ⟨he, h1, h2, hu⟩
  exact ⟨he, h1, ⟨v, hg.map hu h2, Fr.refl _ _⟩, hu⟩
theorem RPre.seal (h : RPre w bg bm base v s g b) (n : Int) : Calls Tryz.prog 63 #[.pointer (some ⟨bg, 0, none⟩), .int .i64 n] w (RPost w bg bm base v (gSeal s g n)) := by
  have hg := h.gu
  have := rSeal_any w bg bm n _ hg.mp
  rw [seal_rest] at this
  refine this.mono ?_
  rintro e w' ⟨he, h2, hu⟩
  have hu' := hu.wide (T := fun k => k = bm ∨ k = bg) (fun _ e => Or.inr e)
  exact ⟨he, h.ref.upd hu (fun e => h.ne e.symm), ⟨v, hg.map hu' h2, Fr.refl _ _⟩, hu'⟩
theorem RPre.store (h : RPre w bg bm base v s g b) (addr x : Int) : Calls Tryz.prog 50 #[.pointer (some ⟨bg, 0, none⟩), .int .i64 addr, .int .u8 x] w (RPost w bg bm base v (gStore s g addr x)) := by
  have hg := h.gu
  exact gStore_any w bg bm base v g s b addr x hg h.ref h.ne h.inv h.base
theorem RPre.root (h : RPre w bg bm base v s g b) (n : Int) : Calls Tryz.prog 51 #[.pointer (some ⟨bg, 0, none⟩), .int .i64 n] w (RPost w bg bm base v (onS s (gRoot g n))) := by
  have hg := h.gu
  refine (gRoot_any w bg bm base v g n hg).mono ?_
  rintro e w' ⟨he, h2, hu⟩
  exact ⟨he, h.ref.upd hu (fun e => h.ne e.symm), ⟨v, h2, Fr.refl _ _⟩, hu.wide (fun _ e => Or.inr e)⟩
theorem RPre.forget (h : RPre w bg bm base v s g b) (addr : Int) : Calls Tryz.prog 53 #[.pointer (some ⟨bg, 0, none⟩), .int .i64 addr] w (RPost w bg bm base v (onS s (gForget g addr))) := by
  have hg := h.gu
  refine (gForget_any w bg bm base v g addr hg (World.block_lt_of_cell? w _ h.ref.num) h.base h.inv.len).mono ?_
  rintro e w' ⟨he, h2, hu⟩
  exact ⟨he, h.ref.upd hu (fun e => h.ne e.symm), h2, hu.wide (fun _ e => Or.inr e)⟩
theorem RPre.forgetAll (h : RPre w bg bm base v s g b) (n : Int) : Calls Tryz.prog 54 #[.pointer (some ⟨bg, 0, none⟩), .int .i64 n] w (RPost w bg bm base v (onS s (gForgetAll g n))) := by
  have hg := h.gu
  refine (gForgetAll_any w bg bm base v g n hg (World.block_lt_of_cell? w _ h.ref.num) h.base h.inv.len).mono ?_
  rintro e w' ⟨v', he, h2, hu, hf⟩
  exact ⟨he, h.ref.upd hu (fun e => h.ne e.symm), ⟨v', h2, hf⟩, hu.wide (fun _ e => Or.inr e)⟩
theorem RPre.load (h : RPre w bg bm base v s g b) (addr : Int) : Calls Tryz.prog 49 #[.pointer (some ⟨bg, 0, none⟩), .int .i64 addr] w fun e w' =>
    e = .returned (.tuple #[.int .u8 (gLoad s g addr).1.1, .int .i64 (gLoad s g addr).1.2]) ∧ RefAt w' bm (gLoad s g addr).2.1 ∧ (∃ v', RGu w' bg bm base v' (gLoad s g addr).2.2 ∧ Fr w v v') ∧ Upd (fun k => k = bm ∨ k = bg) w w' := by
  have hg := h.gu
  exact gLoad_any w bg bm base v g s b addr hg h.ref h.ne h.inv h.base
/-- What the map's acts keep. -/
theorem GInv.map {W : Int} (h : GInv s g b W) {r : Int × Pl × Mp} (hi : Inv r.2.1 r.2.2 b) (hb : BytOk r.2.1) : GInv (gMap g r).2.1 (gMap g r).2.2 b W := { h with inv := hi, byt := hb }
theorem share_byt (hb : BytOk s) (f d : Int) : BytOk (s.share f d).2 := fun a c => by rw [(share_same s f d).2]; exact hb a c
theorem turn_byt (hb : BytOk s) (m : Mp) (n : Nat) (z : Int) : BytOk (turnP s m n z) := by
  unfold turnP
  split
  · exact share_byt hb _ _
  · exact hb
theorem GInv.plug {W : Int} (h : GInv s g b W) (n : Int) : GInv (gPlug s g n).2.1 (gPlug s g n).2.2 b W := h.map (h.inv.plug n) (by
  unfold plugR
  repeat' split
  all_goals first | exact h.byt | exact turn_byt h.byt _ _ _)
theorem GInv.unplug {W : Int} (h : GInv s g b W) (n : Int) : GInv (gUnplug s g n).2.1 (gUnplug s g n).2.2 b W := h.map (h.inv.unplug n) (by
  unfold unplugR
  repeat' split
  all_goals first | exact h.byt | exact turn_byt h.byt _ _ _)
theorem GInv.give {W : Int} (h : GInv s g b W) (n : Int) (back : Bool) : GInv (gGive s g n back).2.1 (gGive s g n back).2.2 b W := h.map (h.inv.give n back) (by
  unfold giveR
  repeat' split
  all_goals first | exact h.byt | exact turn_byt h.byt _ _ _)
theorem GInv.join {W : Int} (h : GInv s g b W) (n f : Int) : GInv (gJoin s g n f).2.1 (gJoin s g n f).2.2 b W := h.map (h.inv.join n f) (by
  unfold joinR
  repeat' split
  all_goals first | exact h.byt | exact share_byt (share_byt h.byt _ _) _ _)
theorem GInv.seal {W : Int} (h : GInv s g b W) (n : Int) : GInv (gSeal s g n).2.1 (gSeal s g n).2.2 b W := { h with inv := h.inv.seal n }
end Go.Proofs.YtadpibcgjgcjhaaGreat
/- Package guest: a guest and its pool in one state; touch. -/
namespace Go.Proofs.YtadpibcgjgcjhaaGreat
open Go.ChangeShapes Go.WideShapes Go.ChangeAt Go.RowKit
set_option maxRecDepth 100000
attribute [local go_sem ↓] Go.wp_at_zero Go.wp_at_succ

/-- A guest of package guest, with its pool, in one state. -/
structure GG (w : World) (bg bp bf bl bc : Nat) (s : Pl) (g : Gs) (b : Mp) (W : Int) : Prop where
  ce : GCell w bg bp bl bc g.root g.walks
  pool : PoolAt w bp bf s
  lv : LvAt w bl bp g.m
  ca : CaL w bc (shows g.m g.c)
  ap : GAp bg bp bf bl bc
  inv : GInv s g b W
  di : Dist g.c
  hn : 0 < s.n
/-- What the acts of a guest may turn. -/
def GFt (bg bf bl bc : Nat) : Nat → Prop := fun k => k = bf ∨ k = bl ∨ k = bc ∨ k = bg
def GPost (w : World) (bg bp bf bl bc : Nat) (r : Int × Pl × Gs) (b : Mp) (W : Int) (e : Ending) (w' : World) : Prop :=
  e = .returned (errV r.1) ∧ GG w' bg bp bf bl bc r.2.1 r.2.2 b W ∧ Upd (GFt bg bf bl bc) w w'
variable {w w' : World} {bg bp bf bl bc : Nat} {s : Pl} {g : Gs} {b : Mp} {W : Int}
theorem GG.upd {S : Nat → Prop} (h : GG w bg bp bf bl bc s g b W) (u : Upd S w w') (h1 : ¬ S bg) (h2 : ¬ S bp) (h3 : ¬ S bf) (h4 : ¬ S bl) (h5 : ¬ S bc) : GG w' bg bp bf bl bc s g b W :=
  ⟨h.ce.upd u h1, h.pool.upd u h2 h3 (h.pool.lt h.hn), h.lv.upd u h4, h.ca.upd u h5, h.ap, h.inv, h.di, h.hn⟩
theorem GG.same (h : GG w bg bp bf bl bc s g b W) (u : Upd (fun _ => False) w w') : GG w' bg bp bf bl bc s g b W := h.upd u (fun f => f) (fun f => f) (fun f => f) (fun f => f) (fun f => f)
theorem GG.en (h : GG w bg bp bf bl bc s g b W) : ∀ x ∈ g.c, 0 ≤ x.dest := fun x hx => (h.inv.en x hx).1
theorem GG.more {W' : Int} (h : GG w bg bp bf bl bc s g b W) (hw : W ≤ W') : GG w bg bp bf bl bc s g b W' := { h with inv := h.inv.more hw }
/-- The pages turned, and what is remembered of them. -/
theorem GG.turned {S : Nat → Prop} {s' : Pl} {m' : Mp} (h : GG w bg bp bf bl bc s g b W) (u : Upd S w w') (hS : ¬ S bg) (hp : PoolAt w' bp bf s') (hl : LvAt w' bl bp m') (hc : CaL w' bc (shows m' g.c)) (hi : GInv s' { g with m := m' } b W) (hn : s'.n = s.n) : GG w' bg bp bf bl bc s' { g with m := m' } b W :=
  ⟨h.ce.upd u hS, hp, hl, hc, h.ap, hi, h.di, by rw [hn]; exact h.hn⟩

theorem touch1_any (w : World) (bg bp bf bl bc Bg Bw Bf : Nat) (n r k x : Int) (wt : Bool) (m b : Mp) (s : Pl) (h : GCell w bg bp bl bc r k) (hl : LvAt w bl bp m) (hp : PoolAt w bp bf s) (ha : GAp bg bp bf bl bc) (hn : 0 < s.n) (hi : Inv s m b)
    (cg : w.cell? ⟨Bg, 0, none⟩ = some (.pointer (some ⟨bg, 0, none⟩))) (cw : w.cell? ⟨Bw, 0, none⟩ = some (.bool wt)) (cf : w.cell? ⟨Bf, 0, none⟩ = some (.int .i64 x)) (zf : w.frozen? ⟨Bf, 0, none⟩ = false) (n1 : Bf ≠ bf) (n2 : Bf ≠ bl) (n3 : Bf ≠ bp) :
    ByOk w bp bf bl 150 #[.int .i64 n, .pointer (some ⟨Bg, 0, none⟩), .pointer (some ⟨Bw, 0, none⟩), .pointer (some ⟨Bf, 0, none⟩)] (touchR s m n wt).1.2.2 (touchR s m n wt).2.1 (touchR s m n wt).2.2 (fun k => k = bf ∨ k = bl ∨ k = Bf) (fun w1 => w1.cell? ⟨Bf, 0, none⟩ = some (.int .i64 (touchR s m n wt).1.1)) := by
  unfold ByOk
  have c1 := h.c1
  unfold GAp at ha
  have HT : Hid _ := lvTouch w.drew bl bp bf n wt m b s hl.drew hp.drew (by omega) (by omega) hn hi
  have hln : 0 < (touchR s m n wt).2.1.n := by rw [touch_n]; exact hn
  revert HT hln
  generalize touchR s m n wt = t
  intro HT hln
  obtain ⟨⟨f, mv, code⟩, s', m'⟩ := t
  clear ha h hl hp hi
  go_enter Tryz.func150, Tryz.ntmps150
  generalize hev : errV code = ev at HT
  have HEV : Hid _ := hev
  clear hev
  go_wp2_with fail
  go_region_with (go_at_call 151; refine Calls.mono HT.out ?_; rintro e w1 ⟨rfl, hp1, hl1, hu1⟩; have d0 := hu1.cell (p := ⟨Bf, 0, none⟩) cf (by simp only; omega); have d1 : w1.frozen? ⟨Bf, 0, none⟩ = false := (hu1.frozen (p := ⟨Bf, 0, none⟩) cf (by simp only; omega)).trans zf; have HP1 : Hid _ := hp1; have HL1 : Hid _ := hl1; have HU1 : Hid _ := hu1; clear hp1 hl1 hu1)
  all_goals
    have hlt : bf < w1.heap.size := HP1.out.lt hln
    have hu2 := Upd.one w1 Bf 0 (.int .i64 f)
    have HP : Hid _ := HP1.out.upd hu2 (Ne.symm n3) (Ne.symm n1) hlt
    have HL : Hid _ := HL1.out.upd hu2 (Ne.symm n2)
    have HU : Hid _ := (((Upd.refl (fun k => k = bf ∨ k = bl ∨ k = Bf) w).drew.trans HU1.out (fun _ _ e => by omega))).trans hu2 (fun _ _ e => by omega)
    have HF : Hid _ := World.cell?_setCell_same w1 ⟨Bf, 0, none⟩ (.int .i64 f) d0
    clear hu2 HT
    go_wp2_with fail
    go_ret
    exact ⟨by rw [← HEV.out]; rfl, HP.out, HL.out, HF.out, HU.out⟩
theorem enters_touch1 : ∀ args w, (callFunc 150 args).run Tryz.prog w = .ok (.enter 150 args) w := enters_of Tryz.func150 (by kernel_rfl) rfl
set_option maxHeartbeats 400000 in
theorem GG.touch (h : GG w bg bp bf bl bc s g b W) (n : Int) (wt : Bool) : Calls Tryz.prog 113 #[.pointer (some ⟨bg, 0, none⟩), .int .i64 n, .bool wt] w fun e w' =>
    e = .returned (.tuple #[.int .i64 (gTouch s g n wt).1.1, errV (gTouch s g n wt).1.2]) ∧ GG w' bg bp bf bl bc (gTouch s g n wt).2.1 (gTouch s g n wt).2.2 b W ∧ Upd (GFt bg bf bl bc) w w' := by
  have HH : Hid (GG w bg bp bf bl bc s g b W) := h
  have hz := h.ce.lt
  have hz2 := h.lv.lt
  have hz3 := h.ca.lt
  have hz4 := h.pool.lt h.hn
  have hz5 : bp < w.heap.size := by obtain ⟨cap, hc⟩ := h.pool.hd; exact World.block_lt_of_cell? w _ hc
  clear h
  have hu0 := (((Upd.refl (fun _ => False) w).alloc (.cells #[.pointer (some ⟨bg, 0, none⟩)] 30)).alloc (.cells #[.bool wt] 4)).alloc (.cells #[.int .i64 0] 3)
  have HZ0 : Hid ((((w.alloc (.cells #[.pointer (some ⟨bg, 0, none⟩)] 30)).alloc (.cells #[.bool wt] 4)).alloc (.cells #[.int .i64 0] 3)).frozen? ⟨w.heap.size + 1 + 1, 0, none⟩ = false) := by
    show _ = _
    have := World.frozen?_alloc_new ((w.alloc (.cells #[.pointer (some ⟨bg, 0, none⟩)] 30)).alloc (.cells #[.bool wt] 4)) #[.int .i64 0] 3 0
    simpa only [World.size_alloc] using this
  have HG0 : Hid ((((w.alloc (.cells #[.pointer (some ⟨bg, 0, none⟩)] 30)).alloc (.cells #[.bool wt] 4)).alloc (.cells #[.int .i64 0] 3)).cell? ⟨w.heap.size, 0, none⟩ = some (.pointer (some ⟨bg, 0, none⟩))) := by
    show _ = _
    rw [World.cell?_alloc_old _ _ _ (by simp only [World.size_alloc]; omega), World.cell?_alloc_old _ _ _ (by simp only [World.size_alloc]; omega), World.cell?_alloc_new]; rfl
  have HW0 : Hid ((((w.alloc (.cells #[.pointer (some ⟨bg, 0, none⟩)] 30)).alloc (.cells #[.bool wt] 4)).alloc (.cells #[.int .i64 0] 3)).cell? ⟨w.heap.size + 1, 0, none⟩ = some (.bool wt)) := by
    show _ = _
    rw [World.cell?_alloc_old _ _ _ (by simp only [World.size_alloc]; omega)]
    have := World.cell?_alloc_new (w.alloc (.cells #[.pointer (some ⟨bg, 0, none⟩)] 30)) #[.bool wt] 4 0
    simp only [World.size_alloc] at this
    rw [this]; rfl
  have HF0 : Hid ((((w.alloc (.cells #[.pointer (some ⟨bg, 0, none⟩)] 30)).alloc (.cells #[.bool wt] 4)).alloc (.cells #[.int .i64 0] 3)).cell? ⟨w.heap.size + 1 + 1, 0, none⟩ = some (.int .i64 0)) := by
    show _ = _
    have := World.cell?_alloc_new ((w.alloc (.cells #[.pointer (some ⟨bg, 0, none⟩)] 30)).alloc (.cells #[.bool wt] 4)) #[.int .i64 0] 3 0
    simp only [World.size_alloc] at this
    rw [this]; rfl
  have HG : Hid (GG (((w.alloc (.cells #[.pointer (some ⟨bg, 0, none⟩)] 30)).alloc (.cells #[.bool wt] 4)).alloc (.cells #[.int .i64 0] 3)) bg bp bf bl bc s g b W) := HH.out.same hu0
  have HU0 : Hid _ := hu0
  have HIN : Hid (GInv (gTouch s g n wt).2.1 (gTouch s g n wt).2.2 b W) := HH.out.inv.touch n wt
  unfold gTouch
  have HTN : Hid ((touchR s g.m n wt).2.1.n = s.n) := touch_n s g.m n wt
  clear hu0
  go_enter Tryz.func113, Tryz.ntmps113
  go_wp2_with fail
  revert HU0 HG HF0 HW0 HG0 HZ0
  generalize ((w.alloc (.cells #[.pointer (some ⟨bg, 0, none⟩)] 30)).alloc (.cells #[.bool wt] 4)).alloc (.cells #[.int .i64 0] 3) = w0
  generalize hq : w.heap.size = q at *
  intro HZ0 HG0 HW0 HF0 HG HU0
  have hq1 : ¬ q + 1 + 1 = bc := by omega
  have ha := HG.out.ap
  unfold GAp at ha
  have hby : ByOk w0 bp bf bl 150 ((#[] : Array Value).push (.int .i64 n) ++ #[.pointer (some ⟨q, 0, none⟩), .pointer (some ⟨q + 1, 0, none⟩), .pointer (some ⟨q + 1 + 1, 0, none⟩)]) (touchR s g.m n wt).1.2.2 (touchR s g.m n wt).2.1 (touchR s g.m n wt).2.2 (fun k => k = bf ∨ k = bl ∨ k = q + 1 + 1) (fun w1 => w1.cell? ⟨q + 1 + 1, 0, none⟩ = some (.int .i64 (touchR s g.m n wt).1.1)) := by
    rw [show (#[] : Array Value).push (.int .i64 n) ++ #[.pointer (some ⟨q, 0, none⟩), .pointer (some ⟨q + 1, 0, none⟩), .pointer (some ⟨q + 1 + 1, 0, none⟩)] = #[.int .i64 n, .pointer (some ⟨q, 0, none⟩), .pointer (some ⟨q + 1, 0, none⟩), .pointer (some ⟨q + 1 + 1, 0, none⟩)] from rfl]
    exact touch1_any w0 bg bp bf bl bc q (q + 1) (q + 1 + 1) n g.root g.walks 0 wt g.m b s HG.out.ce HG.out.lv HG.out.pool HG.out.ap HG.out.hn HG.out.inv.inv HG0.out HW0.out HF0.out HZ0.out (by omega) (by omega) (by omega)
  have h1 : ¬ (fun k => k = bf ∨ k = bl ∨ k = q + 1 + 1) bg := by simp only; omega
  have h2 : ¬ (fun k => k = bf ∨ k = bl ∨ k = q + 1 + 1) bc := by simp only; omega
  have h3 : 0 < (touchR s g.m n wt).2.1.n := by rw [HTN.out]; exact HG.out.hn
  have hch := change_any w0 bg bp bf bl bc n g.root g.walks 150 #[] #[.pointer (some ⟨q, 0, none⟩), .pointer (some ⟨q + 1, 0, none⟩), .pointer (some ⟨q + 1 + 1, 0, none⟩)] (touchR s g.m n wt).1.2.2 (touchR s g.m n wt).2.1 g.m (touchR s g.m n wt).2.2 g.c (fun k => k = bf ∨ k = bl ∨ k = q + 1 + 1) (fun w1 => w1.cell? ⟨q + 1 + 1, 0, none⟩ = some (.int .i64 (touchR s g.m n wt).1.1)) HG.out.ce HG.out.ca HG.out.ap enters_touch1 hby h1 h2 (touch_lf s g.m n wt) (fun h => by rw [touch_no s g.m n wt h]) (fun h => (touch_frame HG.out.inv.inv n wt h).2.2.1) HG.out.en h3 (fun w1 w2 h u => u.cell h hq1)
  have HCH : Hid _ := hch
  have H1 : Hid (¬ (fun k => (fun k => k = bf ∨ k = bl ∨ k = q + 1 + 1) k ∨ k = bc) bg) := show ¬ _ by simp only; omega
  clear hby h1 h2 h3 hch ha
  refine Calls.mono HCH.out ?_
  rintro e w2 ⟨rfl, hp2, hl2, hc2, hr2, hu2⟩
  have H2 : Hid _ := HG.out.turned hu2 H1.out hp2 hl2 hc2 HIN.out HTN.out
  have HU2 : Hid (Upd (GFt bg bf bl bc) w w2) := (HU0.out.wide (T := GFt bg bf bl bc) (fun _ f => f.elim)).trans hu2 (fun i hi e => by unfold GFt; omega)
  clear hp2 hl2 hc2 hu2 HIN HTN HG HCH H1
  go_wp2_with fail
  go_ret2
  exact ⟨rfl, H2.out, HU2.out⟩
end Go.Proofs.YtadpibcgjgcjhaaGreat
/- Package guest: Plug, Unplug, Give, Back, Seal, Join. -/
namespace Go.Proofs.YtadpibcgjgcjhaaGreat
open Go.ChangeShapes Go.WideShapes Go.ChangeAt Go.RowKit
set_option maxRecDepth 100000
attribute [local go_sem ↓] Go.wp_at_zero Go.wp_at_succ
variable {w w' : World} {bg bp bf bl bc : Nat} {s : Pl} {g : Gs} {b : Mp} {W : Int}

theorem enters_Plug : ∀ args w, (callFunc 111 args).run Tryz.prog w = .ok (.enter 111 args) w := enters_of Tryz.func111 (by kernel_rfl) rfl
set_option maxHeartbeats 400000 in
theorem GG.plug (h : GG w bg bp bf bl bc s g b W) (n : Int) : Calls Tryz.prog 36 #[.pointer (some ⟨bg, 0, none⟩), .int .i64 n] w (GPost w bg bp bf bl bc (gPlug s g n) b W) := by
  have ha := h.ap
  unfold GAp at ha
  have hby : ByOk w bp bf bl 111 ((#[.pointer (some ⟨bl, 0, none⟩)] : Array Value).push (.int .i64 n) ++ #[]) (plugR s g.m n).1 (plugR s g.m n).2.1 (plugR s g.m n).2.2 (fun k => k = bf ∨ k = bl) (fun _ => True) := by
    rw [show (#[.pointer (some ⟨bl, 0, none⟩)] : Array Value).push (.int .i64 n) ++ #[] = #[.pointer (some ⟨bl, 0, none⟩), .int .i64 n] from rfl]
    unfold ByOk
    refine (lvPlug w bl bp bf n g.m b s h.lv h.pool (by omega) (by omega) h.hn h.inv.inv).mono ?_
    rintro e w1 ⟨he, h1, h2, h3⟩
    exact ⟨he, h1, h2, trivial, h3⟩
  have hN : (plugR s g.m n).2.1.n = s.n := plug_n s g.m n
  have h1 : ¬ (fun k => k = bf ∨ k = bl) bg := by simp only; omega
  have h2 : ¬ (fun k => k = bf ∨ k = bl) bc := by simp only; omega
  have h3 : 0 < (plugR s g.m n).2.1.n := by rw [hN]; exact h.hn
  have hch := change_any w bg bp bf bl bc n g.root g.walks 111 #[.pointer (some ⟨bl, 0, none⟩)] #[] (plugR s g.m n).1 (plugR s g.m n).2.1 g.m (plugR s g.m n).2.2 g.c (fun k => k = bf ∨ k = bl) (fun _ => True) h.ce h.ca h.ap enters_Plug hby h1 h2 (plug_lf s g.m n) (fun h => by rw [plug_no h]) (fun h => plug_on h) h.en h3 (fun _ _ _ _ => trivial)
  have HCH : Hid _ := hch
  have HI : Hid (GInv (gPlug s g n).2.1 (gPlug s g n).2.2 b W) := h.inv.plug n
  have H1 : Hid (¬ (fun k => (fun k => k = bf ∨ k = bl) k ∨ k = bc) bg) := show ¬ _ by simp only; omega
  have c1 := h.ce.c1
  have HH : Hid (GG w bg bp bf bl bc s g b W) := h
  have HN : Hid _ := hN
  clear hby h1 h2 h3 hch ha h hN
  go_enter Tryz.func36, Tryz.ntmps36
  go_wp2_with fail
  refine Calls.mono HCH.out ?_
  rintro e w2 ⟨rfl, hp2, hl2, hc2, _, hu2⟩
  have H2 : Hid _ := HH.out.turned hu2 H1.out hp2 hl2 hc2 HI.out HN.out
  have HU : Hid (Upd (GFt bg bf bl bc) w w2) := hu2.wide (fun k e => by unfold GFt; simp only at e; omega)
  clear hp2 hl2 hc2 hu2 HCH
  go_wp2_with fail
  go_ret
  exact ⟨rfl, H2.out, HU.out⟩
theorem enters_Unplug : ∀ args w, (callFunc 46 args).run Tryz.prog w = .ok (.enter 46 args) w := enters_of Tryz.func46 (by kernel_rfl) rfl
set_option maxHeartbeats 400000 in
theorem GG.unplug (h : GG w bg bp bf bl bc s g b W) (n : Int) : Calls Tryz.prog 15 #[.pointer (some ⟨bg, 0, none⟩), .int .i64 n] w (GPost w bg bp bf bl bc (gUnplug s g n) b W) := by
  have ha := h.ap
  unfold GAp at ha
  have hby : ByOk w bp bf bl 46 ((#[.pointer (some ⟨bl, 0, none⟩)] : Array Value).push (.int .i64 n) ++ #[]) (unplugR s g.m n).1 (unplugR s g.m n).2.1 (unplugR s g.m n).2.2 (fun k => k = bf ∨ k = bl) (fun _ => True) := by
    rw [show (#[.pointer (some ⟨bl, 0, none⟩)] : Array Value).push (.int .i64 n) ++ #[] = #[.pointer (some ⟨bl, 0, none⟩), .int .i64 n] from rfl]
    unfold ByOk
    refine (lvUnplug w bl bp bf n g.m b s h.lv h.pool (by omega) (by omega) h.hn h.inv.inv).mono ?_
    rintro e w1 ⟨he, h1, h2, h3⟩
    exact ⟨he, h1, h2, trivial, h3⟩
  have hN : (unplugR s g.m n).2.1.n = s.n := unplug_n s g.m n
  have h1 : ¬ (fun k => k = bf ∨ k = bl) bg := by simp only; omega
  have h2 : ¬ (fun k => k = bf ∨ k = bl) bc := by simp only; omega
  have h3 : 0 < (unplugR s g.m n).2.1.n := by rw [hN]; exact h.hn
  have hch := change_any w bg bp bf bl bc n g.root g.walks 46 #[.pointer (some ⟨bl, 0, none⟩)] #[] (unplugR s g.m n).1 (unplugR s g.m n).2.1 g.m (unplugR s g.m n).2.2 g.c (fun k => k = bf ∨ k = bl) (fun _ => True) h.ce h.ca h.ap enters_Unplug hby h1 h2 (unplug_lf s g.m n) (fun h => by rw [unplug_no h]) (fun h => unplug_on h) h.en h3 (fun _ _ _ _ => trivial)
  have HCH : Hid _ := hch
  have HI : Hid (GInv (gUnplug s g n).2.1 (gUnplug s g n).2.2 b W) := h.inv.unplug n
  have H1 : Hid (¬ (fun k => (fun k => k = bf ∨ k = bl) k ∨ k = bc) bg) := show ¬ _ by simp only; omega
  have c1 := h.ce.c1
  have HH : Hid (GG w bg bp bf bl bc s g b W) := h
  have HN : Hid _ := hN
  clear hby h1 h2 h3 hch ha h hN
  go_enter Tryz.func15, Tryz.ntmps15
  go_wp2_with fail
  refine Calls.mono HCH.out ?_
  rintro e w2 ⟨rfl, hp2, hl2, hc2, _, hu2⟩
  have H2 : Hid _ := HH.out.turned hu2 H1.out hp2 hl2 hc2 HI.out HN.out
  have HU : Hid (Upd (GFt bg bf bl bc) w w2) := hu2.wide (fun k e => by unfold GFt; simp only at e; omega)
  clear hp2 hl2 hc2 hu2 HCH
  go_wp2_with fail
  go_ret
  exact ⟨rfl, H2.out, HU.out⟩
theorem enters_Give : ∀ args w, (callFunc 130 args).run Tryz.prog w = .ok (.enter 130 args) w := enters_of Tryz.func130 (by kernel_rfl) rfl
set_option maxHeartbeats 400000 in
theorem GG.give (h : GG w bg bp bf bl bc s g b W) (n : Int) : Calls Tryz.prog 57 #[.pointer (some ⟨bg, 0, none⟩), .int .i64 n] w (GPost w bg bp bf bl bc (gGive s g n false) b W) := by
  have ha := h.ap
  unfold GAp at ha
  have hby : ByOk w bp bf bl 130 ((#[.pointer (some ⟨bl, 0, none⟩)] : Array Value).push (.int .i64 n) ++ #[]) (giveR s g.m n false).1 (giveR s g.m n false).2.1 (giveR s g.m n false).2.2 (fun k => k = bf ∨ k = bl) (fun _ => True) := by
    rw [show (#[.pointer (some ⟨bl, 0, none⟩)] : Array Value).push (.int .i64 n) ++ #[] = #[.pointer (some ⟨bl, 0, none⟩), .int .i64 n] from rfl]
    unfold ByOk
    refine (lvGive w bl bp bf n g.m b s h.lv h.pool (by omega) (by omega) h.hn h.inv.inv).mono ?_
    rintro e w1 ⟨he, h1, h2, h3⟩
    exact ⟨he, h1, h2, trivial, h3⟩
  have hN : (giveR s g.m n false).2.1.n = s.n := give_n s g.m n false
  have h1 : ¬ (fun k => k = bf ∨ k = bl) bg := by simp only; omega
  have h2 : ¬ (fun k => k = bf ∨ k = bl) bc := by simp only; omega
  have h3 : 0 < (giveR s g.m n false).2.1.n := by rw [hN]; exact h.hn
  have hch := change_any w bg bp bf bl bc n g.root g.walks 130 #[.pointer (some ⟨bl, 0, none⟩)] #[] (giveR s g.m n false).1 (giveR s g.m n false).2.1 g.m (giveR s g.m n false).2.2 g.c (fun k => k = bf ∨ k = bl) (fun _ => True) h.ce h.ca h.ap enters_Give hby h1 h2 (give_lf s g.m n false) (fun h => by rw [give_no h]) (fun h => give_on h) h.en h3 (fun _ _ _ _ => trivial)
  have HCH : Hid _ := hch
  have HI : Hid (GInv (gGive s g n false).2.1 (gGive s g n false).2.2 b W) := h.inv.give n false
  have H1 : Hid (¬ (fun k => (fun k => k = bf ∨ k = bl) k ∨ k = bc) bg) := show ¬ _ by simp only; omega
  have c1 := h.ce.c1
  have HH : Hid (GG w bg bp bf bl bc s g b W) := h
  have HN : Hid _ := hN
  clear hby h1 h2 h3 hch ha h hN
  go_enter Tryz.func57, Tryz.ntmps57
  go_wp2_with fail
  refine Calls.mono HCH.out ?_
  rintro e w2 ⟨rfl, hp2, hl2, hc2, _, hu2⟩
  have H2 : Hid _ := HH.out.turned hu2 H1.out hp2 hl2 hc2 HI.out HN.out
  have HU : Hid (Upd (GFt bg bf bl bc) w w2) := hu2.wide (fun k e => by unfold GFt; simp only at e; omega)
  clear hp2 hl2 hc2 hu2 HCH
  go_wp2_with fail
  go_ret
  exact ⟨rfl, H2.out, HU.out⟩
theorem enters_Back : ∀ args w, (callFunc 131 args).run Tryz.prog w = .ok (.enter 131 args) w := enters_of Tryz.func131 (by kernel_rfl) rfl
set_option maxHeartbeats 400000 in
theorem GG.back (h : GG w bg bp bf bl bc s g b W) (n : Int) : Calls Tryz.prog 59 #[.pointer (some ⟨bg, 0, none⟩), .int .i64 n] w (GPost w bg bp bf bl bc (gGive s g n true) b W) := by
  have ha := h.ap
  unfold GAp at ha
  have hby : ByOk w bp bf bl 131 ((#[.pointer (some ⟨bl, 0, none⟩)] : Array Value).push (.int .i64 n) ++ #[]) (giveR s g.m n true).1 (giveR s g.m n true).2.1 (giveR s g.m n true).2.2 (fun k => k = bf ∨ k = bl) (fun _ => True) := by
    rw [show (#[.pointer (some ⟨bl, 0, none⟩)] : Array Value).push (.int .i64 n) ++ #[] = #[.pointer (some ⟨bl, 0, none⟩), .int .i64 n] from rfl]
    unfold ByOk
    refine (lvBack w bl bp bf n g.m b s h.lv h.pool (by omega) (by omega) h.hn h.inv.inv).mono ?_
    rintro e w1 ⟨he, h1, h2, h3⟩
    exact ⟨he, h1, h2, trivial, h3⟩
  have hN : (giveR s g.m n true).2.1.n = s.n := give_n s g.m n true
  have h1 : ¬ (fun k => k = bf ∨ k = bl) bg := by simp only; omega
  have h2 : ¬ (fun k => k = bf ∨ k = bl) bc := by simp only; omega
  have h3 : 0 < (giveR s g.m n true).2.1.n := by rw [hN]; exact h.hn
  have hch := change_any w bg bp bf bl bc n g.root g.walks 131 #[.pointer (some ⟨bl, 0, none⟩)] #[] (giveR s g.m n true).1 (giveR s g.m n true).2.1 g.m (giveR s g.m n true).2.2 g.c (fun k => k = bf ∨ k = bl) (fun _ => True) h.ce h.ca h.ap enters_Back hby h1 h2 (give_lf s g.m n true) (fun h => by rw [give_no h]) (fun h => give_on h) h.en h3 (fun _ _ _ _ => trivial)
  have HCH : Hid _ := hch
  have HI : Hid (GInv (gGive s g n true).2.1 (gGive s g n true).2.2 b W) := h.inv.give n true
  have H1 : Hid (¬ (fun k => (fun k => k = bf ∨ k = bl) k ∨ k = bc) bg) := show ¬ _ by simp only; omega
  have c1 := h.ce.c1
  have HH : Hid (GG w bg bp bf bl bc s g b W) := h
  have HN : Hid _ := hN
  clear hby h1 h2 h3 hch ha h hN
  go_enter Tryz.func59, Tryz.ntmps59
  go_wp2_with fail
  refine Calls.mono HCH.out ?_
  rintro e w2 ⟨rfl, hp2, hl2, hc2, _, hu2⟩
  have H2 : Hid _ := HH.out.turned hu2 H1.out hp2 hl2 hc2 HI.out HN.out
  have HU : Hid (Upd (GFt bg bf bl bc) w w2) := hu2.wide (fun k e => by unfold GFt; simp only at e; omega)
  clear hp2 hl2 hc2 hu2 HCH
  go_wp2_with fail
  go_ret
  exact ⟨rfl, H2.out, HU.out⟩
theorem enters_Seal : ∀ args w, (callFunc 136 args).run Tryz.prog w = .ok (.enter 136 args) w := enters_of Tryz.func136 (by kernel_rfl) rfl
set_option maxHeartbeats 400000 in
theorem GG.seal (h : GG w bg bp bf bl bc s g b W) (n : Int) : Calls Tryz.prog 62 #[.pointer (some ⟨bg, 0, none⟩), .int .i64 n] w (GPost w bg bp bf bl bc (gSeal s g n) b W) := by
  have ha := h.ap
  unfold GAp at ha
  have hby : ByOk w bp bf bl 136 ((#[.pointer (some ⟨bl, 0, none⟩)] : Array Value).push (.int .i64 n) ++ #[]) (sealR g.m n).1 s (sealR g.m n).2 (fun k => k = bf ∨ k = bl) (fun _ => True) := by
    rw [show (#[.pointer (some ⟨bl, 0, none⟩)] : Array Value).push (.int .i64 n) ++ #[] = #[.pointer (some ⟨bl, 0, none⟩), .int .i64 n] from rfl]
    unfold ByOk
    refine (lvSeal w bl bp bf n g.m b s h.lv h.pool (by omega) (by omega) h.hn h.inv.inv).mono ?_
    rintro e w1 ⟨he, h1, h2, h3⟩
    exact ⟨he, h1, h2, trivial, h3⟩
  have hN : s.n = s.n := rfl
  have h1 : ¬ (fun k => k = bf ∨ k = bl) bg := by simp only; omega
  have h2 : ¬ (fun k => k = bf ∨ k = bl) bc := by simp only; omega
  have h3 : 0 < s.n := by rw [hN]; exact h.hn
  have hch := change_any w bg bp bf bl bc n g.root g.walks 136 #[.pointer (some ⟨bl, 0, none⟩)] #[] (sealR g.m n).1 s g.m (sealR g.m n).2 g.c (fun k => k = bf ∨ k = bl) (fun _ => True) h.ce h.ca h.ap enters_Seal hby h1 h2 (seal_lf g.m n) (fun h => by rw [seal_no h]) (fun h => seal_on h) h.en h3 (fun _ _ _ _ => trivial)
  have HCH : Hid _ := hch
  have HI : Hid (GInv (gSeal s g n).2.1 (gSeal s g n).2.2 b W) := h.inv.seal n
  have H1 : Hid (¬ (fun k => (fun k => k = bf ∨ k = bl) k ∨ k = bc) bg) := show ¬ _ by simp only; omega
  have c1 := h.ce.c1
  have HH : Hid (GG w bg bp bf bl bc s g b W) := h
  have HN : Hid _ := hN
  clear hby h1 h2 h3 hch ha h hN
  go_enter Tryz.func62, Tryz.ntmps62
  go_wp2_with fail
  refine Calls.mono HCH.out ?_
  rintro e w2 ⟨rfl, hp2, hl2, hc2, _, hu2⟩
  have H2 : Hid _ := HH.out.turned hu2 H1.out hp2 hl2 hc2 HI.out rfl
  have HU : Hid (Upd (GFt bg bf bl bc) w w2) := hu2.wide (fun k e => by unfold GFt; simp only at e; omega)
  clear hp2 hl2 hc2 hu2 HCH
  go_wp2_with fail
  go_ret
  exact ⟨rfl, H2.out, HU.out⟩
theorem join1_any (w : World) (bg bp bf bl bc Bg Bf : Nat) (n f r k : Int) (m b : Mp) (s : Pl) (h : GCell w bg bp bl bc r k) (hl : LvAt w bl bp m) (hp : PoolAt w bp bf s) (ha : GAp bg bp bf bl bc) (hn : 0 < s.n) (hi : Inv s m b)
    (cg : w.cell? ⟨Bg, 0, none⟩ = some (.pointer (some ⟨bg, 0, none⟩))) (cf : w.cell? ⟨Bf, 0, none⟩ = some (.int .i64 f)) :
    ByOk w bp bf bl 132 #[.int .i64 n, .pointer (some ⟨Bg, 0, none⟩), .pointer (some ⟨Bf, 0, none⟩)] (joinR s m n f).1 (joinR s m n f).2.1 (joinR s m n f).2.2 (fun k => k = bf ∨ k = bl) (fun _ => True) := by
  unfold ByOk
  have c1 := h.c1
  unfold GAp at ha
  have HT : Hid _ := lvJoin w.drew bl bp bf n f m b s hl.drew hp.drew (by omega) (by omega) hn hi
  revert HT
  generalize joinR s m n f = t
  intro HT
  obtain ⟨code, s', m'⟩ := t
  clear ha h hl hp hi
  generalize hev : errV code = ev at HT
  have HEV : Hid _ := hev
  clear hev
  go_enter Tryz.func132, Tryz.ntmps132
  go_wp2_with fail
  go_region_with (go_at_call 133; refine Calls.mono HT.out ?_; rintro e w1 ⟨rfl, hp1, hl1, hu1⟩; have HP1 : Hid _ := hp1; have HL1 : Hid _ := hl1; have HU1 : Hid _ := hu1; clear hp1 hl1 hu1)
  all_goals
    go_wp2_with fail
    go_ret
    exact ⟨by rw [← HEV.out]; rfl, HP1.out, HL1.out, trivial, (Upd.refl (fun k => k = bf ∨ k = bl) w).drew.trans HU1.out (fun _ _ e => e)⟩
theorem enters_join1 : ∀ args w, (callFunc 132 args).run Tryz.prog w = .ok (.enter 132 args) w := enters_of Tryz.func132 (by kernel_rfl) rfl
set_option maxHeartbeats 400000 in
theorem GG.join (h : GG w bg bp bf bl bc s g b W) (n f : Int) : Calls Tryz.prog 60 #[.pointer (some ⟨bg, 0, none⟩), .int .i64 n, .int .i64 f] w (GPost w bg bp bf bl bc (gJoin s g n f) b W) := by
  have hz := h.ce.lt
  have hu0 := ((Upd.refl (fun _ => False) w).alloc (.cells #[.pointer (some ⟨bg, 0, none⟩)] 30)).alloc (.cells #[.int .i64 f] 3)
  have HG0 : Hid (((w.alloc (.cells #[.pointer (some ⟨bg, 0, none⟩)] 30)).alloc (.cells #[.int .i64 f] 3)).cell? ⟨w.heap.size, 0, none⟩ = some (.pointer (some ⟨bg, 0, none⟩))) := by
    show _ = _
    rw [World.cell?_alloc_old _ _ _ (by simp only [World.size_alloc]; omega), World.cell?_alloc_new]; rfl
  have HF0 : Hid (((w.alloc (.cells #[.pointer (some ⟨bg, 0, none⟩)] 30)).alloc (.cells #[.int .i64 f] 3)).cell? ⟨w.heap.size + 1, 0, none⟩ = some (.int .i64 f)) := by
    show _ = _
    have := World.cell?_alloc_new (w.alloc (.cells #[.pointer (some ⟨bg, 0, none⟩)] 30)) #[.int .i64 f] 3 0
    simp only [World.size_alloc] at this
    rw [this]; rfl
  have HG : Hid (GG ((w.alloc (.cells #[.pointer (some ⟨bg, 0, none⟩)] 30)).alloc (.cells #[.int .i64 f] 3)) bg bp bf bl bc s g b W) := h.same hu0
  have HU0 : Hid _ := hu0
  have HI : Hid (GInv (gJoin s g n f).2.1 (gJoin s g n f).2.2 b W) := h.inv.join n f
  have HN : Hid ((joinR s g.m n f).2.1.n = s.n) := join_n s g.m n f
  clear hu0 h
  go_enter Tryz.func60, Tryz.ntmps60
  go_wp2_with fail
  revert HU0 HG HF0 HG0
  generalize (w.alloc (.cells #[.pointer (some ⟨bg, 0, none⟩)] 30)).alloc (.cells #[.int .i64 f] 3) = w0
  generalize w.heap.size = q at *
  intro HG0 HF0 HG HU0
  have ha := HG.out.ap
  unfold GAp at ha
  have hby : ByOk w0 bp bf bl 132 ((#[] : Array Value).push (.int .i64 n) ++ #[.pointer (some ⟨q, 0, none⟩), .pointer (some ⟨q + 1, 0, none⟩)]) (joinR s g.m n f).1 (joinR s g.m n f).2.1 (joinR s g.m n f).2.2 (fun k => k = bf ∨ k = bl) (fun _ => True) := by
    rw [show (#[] : Array Value).push (.int .i64 n) ++ #[.pointer (some ⟨q, 0, none⟩), .pointer (some ⟨q + 1, 0, none⟩)] = #[.int .i64 n, .pointer (some ⟨q, 0, none⟩), .pointer (some ⟨q + 1, 0, none⟩)] from rfl]
    exact join1_any w0 bg bp bf bl bc q (q + 1) n f g.root g.walks g.m b s HG.out.ce HG.out.lv HG.out.pool HG.out.ap HG.out.hn HG.out.inv.inv HG0.out HF0.out
  have h1 : ¬ (fun k => k = bf ∨ k = bl) bg := by simp only; omega
  have h2 : ¬ (fun k => k = bf ∨ k = bl) bc := by simp only; omega
  have h3 : 0 < (joinR s g.m n f).2.1.n := by rw [HN.out]; exact HG.out.hn
  have hch := change_any w0 bg bp bf bl bc n g.root g.walks 132 #[] #[.pointer (some ⟨q, 0, none⟩), .pointer (some ⟨q + 1, 0, none⟩)] (joinR s g.m n f).1 (joinR s g.m n f).2.1 g.m (joinR s g.m n f).2.2 g.c (fun k => k = bf ∨ k = bl) (fun _ => True) HG.out.ce HG.out.ca HG.out.ap enters_join1 hby h1 h2 (join_lf s g.m n f) (fun h => by rw [join_no h]) (fun h => join_on h) HG.out.en h3 (fun _ _ _ _ => trivial)
  have HCH : Hid _ := hch
  have H1 : Hid (¬ (fun k => (fun k => k = bf ∨ k = bl) k ∨ k = bc) bg) := show ¬ _ by simp only; omega
  clear hby h1 h2 h3 hch ha
  refine Calls.mono HCH.out ?_
  rintro e w2 ⟨rfl, hp2, hl2, hc2, _, hu2⟩
  have H2 : Hid _ := HG.out.turned hu2 H1.out hp2 hl2 hc2 HI.out HN.out
  have HU : Hid (Upd (GFt bg bf bl bc) w w2) := (HU0.out.wide (T := GFt bg bf bl bc) (fun _ f => f.elim)).trans hu2 (fun k _ e => by unfold GFt; simp only at e; omega)
  clear hp2 hl2 hc2 hu2 HCH
  go_wp2_with fail
  go_ret
  exact ⟨rfl, H2.out, HU.out⟩
end Go.Proofs.YtadpibcgjgcjhaaGreat
/- Package guest: Root, Walks, SetRoot, Forget, ForgetAll, State, Leaf. -/
namespace Go.Proofs.YtadpibcgjgcjhaaGreat
open Go.ChangeShapes Go.WideShapes Go.ChangeAt Go.RowKit
set_option maxRecDepth 100000
attribute [local go_sem ↓] Go.wp_at_zero Go.wp_at_succ
variable {w w' : World} {bg bp bf bl bc : Nat} {s : Pl} {g : Gs} {b : Mp} {W : Int}

theorem isPage_any (w : World) (n : Int) (v : Bool) (hv : onB n = v) : Calls Tryz.prog 47 #[.int .i64 n] w fun e w' => e = .returned (.bool v) ∧ w' = w := by
  subst hv
  cases ho : onB n with
  | true =>
    obtain ⟨q0, q1⟩ := (onB_iff n).1 ho
    have d0 : decide (0 ≤ n) = true := by simp; omega
    have d1 : decide (n < 16) = true := by simp; omega
    clear ho
    go_enter Tryz.func47, Tryz.ntmps47
    go_wp2
    go_ret
    exact ⟨rfl, rfl⟩
  | false =>
    rcases (onB_no n).1 ho with h0 | h0
    · have d0 : decide (0 ≤ n) = false := by simp; omega
      clear ho
      go_enter Tryz.func47, Tryz.ntmps47
      go_wp2
      go_ret
      exact ⟨rfl, rfl⟩
    · have d0 : decide (0 ≤ n) = true := by simp; omega
      have d1 : decide (n < 16) = false := by simp; omega
      clear ho
      go_enter Tryz.func47, Tryz.ntmps47
      go_wp2
      go_ret
      exact ⟨rfl, rfl⟩
theorem isAddr_yes (w : World) (n : Int) (h0 : 0 ≤ n) (h1 : n ≤ 255) : Calls Tryz.prog 112 #[.int .i64 n] w fun e w' => e = .returned (.bool true) ∧ w' = w := by
  have d0 : decide (0 ≤ n) = true := by simp; omega
  have d1 : decide (n ≤ 255) = true := by simp; omega
  go_enter Tryz.func112, Tryz.ntmps112
  go_wp2
  go_ret
  exact ⟨rfl, rfl⟩
theorem isAddr_no (w : World) (n : Int) (h : n < 0 ∨ 255 < n) : Calls Tryz.prog 112 #[.int .i64 n] w fun e w' => e = .returned (.bool false) ∧ w' = w := by
  rcases h with h0 | h0
  · have d0 : decide (0 ≤ n) = false := by simp; omega
    go_enter Tryz.func112, Tryz.ntmps112
    go_wp2
    go_ret
    exact ⟨rfl, rfl⟩
  · have d0 : decide (0 ≤ n) = true := by simp; omega
    have d1 : decide (n ≤ 255) = false := by simp; omega
    go_enter Tryz.func112, Tryz.ntmps112
    go_wp2
    go_ret
    exact ⟨rfl, rfl⟩
theorem GG.rootOf (h : GG w bg bp bf bl bc s g b W) : Calls Tryz.prog 38 #[.pointer (some ⟨bg, 0, none⟩)] w fun e w' => e = .returned (.int .i64 g.root) ∧ w' = w := by
  have c := h.ce.c3
  clear h
  go_enter Tryz.func38, Tryz.ntmps38
  go_wp2
  go_ret
  exact ⟨rfl, rfl⟩
theorem GG.walksOf (h : GG w bg bp bf bl bc s g b W) : Calls Tryz.prog 64 #[.pointer (some ⟨bg, 0, none⟩)] w fun e w' => e = .returned (.int .i64 g.walks) ∧ w' = w := by
  have c := h.ce.c4
  clear h
  go_enter Tryz.func64, Tryz.ntmps64
  go_wp2
  go_ret
  exact ⟨rfl, rfl⟩
theorem GG.stateOf (h : GG w bg bp bf bl bc s g b W) (k : Nat) (hk : k < 16) : Calls Tryz.prog 68 #[.pointer (some ⟨bg, 0, none⟩), .int .i64 k] w fun e w' => e = .returned (.tuple #[.int .i64 (g.m.st k), .nilIface]) ∧ Upd (fun _ => False) w w' := by
  have c := h.ce.c1
  have e1 : onB (k : Int) = true := by simp [onB]; omega
  have e2 : stR g.m (k : Int) = (g.m.st k, 0) := by simp [stR, e1]
  have hs := lvState w bl bp k g.m h.lv
  rw [e2, errV_zero] at hs
  have HS : Hid _ := hs
  clear h e1 e2 hs
  go_enter Tryz.func68, Tryz.ntmps68
  go_wp2_with fail
  refine Calls.mono HS.out ?_
  rintro e w1 ⟨rfl, hu⟩
  go_wp2_with fail
  go_ret2
  exact ⟨rfl, hu⟩
set_option maxHeartbeats 1000000 in
theorem GG.leafOf (h : GG w bg bp bf bl bc s g b W) (k : Nat) (hk : k < 16) : Calls Tryz.prog 69 #[.pointer (some ⟨bg, 0, none⟩), .int .i64 k] w fun e w' => e = .returned (.tuple #[.agg #[.bool (g.m.lf k).there, .bool (g.m.lf k).wr, .int .i64 (g.m.lf k).fr], .nilIface]) ∧ Upd (fun _ => False) w w' := by
  have u1 := (Upd.refl (fun _ => False) w).alloc (.cells #[.bool false, .bool false, .int .i64 0] 43)
  have c := (h.same u1).ce.c1
  have HL : Hid _ := gLeaf_on _ bl bp k g.m (h.same u1).lv hk
  have hla := LfAt.new w 43 lf0
  have hlz : ∀ o, (w.alloc (.cells #[.bool false, .bool false, .int .i64 0] 43)).frozen? ⟨w.heap.size, o, none⟩ = false := fun o => World.frozen?_alloc_new _ _ _ _
  have HLA : Hid (LfAt (w.alloc (.cells #[.bool false, .bool false, .int .i64 0] 43)) w.heap.size lf0) := hla
  have HLZ : Hid _ := hlz
  have HU1 : Hid _ := u1
  have HSZ : Hid (w.heap.size < (w.alloc (.cells #[.bool false, .bool false, .int .i64 0] 43)).heap.size) := show _ < _ by simp
  clear h u1 hla hlz
  generalize g.m.lf k = l at HL
  go_enter Tryz.func69, Tryz.ntmps69
  go_wp2_with fail
  refine Calls.mono HL.out ?_
  rintro e w1 ⟨rfl, hu⟩
  obtain ⟨y0, y1, y2⟩ := HLA.out.upd hu (fun f => f)
  have z0 : ∀ o, w1.frozen? ⟨w.heap.size, o, none⟩ = false := fun o => by rw [World.frozen?_of_block (hu.block w.heap.size HSZ.out (fun f => f))]; exact HLZ.out o
  have z1 := z0 0
  have z2 := z0 1
  have z3 := z0 2
  have HU : Hid _ := HU1.out.trans hu (fun _ _ f => f)
  have HU2 : Hid (Upd (fun k => k = w.heap.size) w1 (((w1.setCell ⟨w.heap.size, 0, none⟩ (.bool l.there)).setCell ⟨w.heap.size, 1, none⟩ (.bool l.wr)).setCell ⟨w.heap.size, 2, none⟩ (.int .i64 l.fr))) := Upd.three w1 w.heap.size 0 1 2 _ _ _
  clear z0 hu HU1 HLA HLZ HL
  go_wp2_with fail
  refine bodyPost_ret (v := .tuple #[.agg #[.bool l.there, .bool l.wr, .int .i64 l.fr], .nilIface]) (by simp [results, Tryz.results69, go_sem, y0, y1, y2]) rfl ⟨rfl, HU.out.trans HU2.out (fun i hi e => by omega)⟩
theorem GG.setC {c' : List En} (h : GG w bg bp bf bl bc s g b W) (u : Upd (fun k => k = bc) w w') (hc : CaL w' bc (shows g.m c')) (hi : GInv s { g with c := c' } b W) (hd : Dist c') : GG w' bg bp bf bl bc s { g with c := c' } b W := by
  have ha := h.ap
  unfold GAp at ha
  exact ⟨h.ce.upd u (by omega), h.pool.upd u (by omega) (by omega) (h.pool.lt h.hn), h.lv.upd u (by omega), hc, h.ap, hi, hd, h.hn⟩
theorem GG.forget (h : GG w bg bp bf bl bc s g b W) (addr : Int) : Calls Tryz.prog 52 #[.pointer (some ⟨bg, 0, none⟩), .int .i64 addr] w (GPost w bg bp bf bl bc (onS s (gForget g addr)) b W) := by
  by_cases ho : addr < 0 ∨ 255 < addr
  · have hr : gForget g addr = (1, g) := by unfold gForget; rw [if_pos ho]
    rw [hr]
    have HA : Hid _ := isAddr_no w addr ho
    have HH : Hid (GG w bg bp bf bl bc s g b W) := h
    clear h hr ho
    go_enter Tryz.func52, Tryz.ntmps52
    go_wp2_with (go_at_call 112; refine Calls.mono HA.out ?_; rintro e w1 ⟨rfl, rfl⟩)
    go_ret
    exact ⟨rfl, HH.out, Upd.refl _ _⟩
  · obtain ⟨k, rfl⟩ := Int.eq_ofNat_of_zero_le (show 0 ≤ addr by omega)
    have hr : gForget g (k : Int) = (0, { g with c := flt (isAt g.root ((k : Int) / 16)) g.c }) := by
      unfold gForget
      rw [if_neg ho, keep_drop h.di]
    have hi : GInv s (gForget g (k : Int)).2 b W := h.inv.forget k
    have hd : Dist (gForget g (k : Int)).2.c := forget_dist h.di k
    rw [hr] at hi hd ⊢
    have HI : Hid _ := hi
    have HD : Hid (Dist (flt (isAt g.root ((k : Int) / 16)) g.c)) := hd
    have HA : Hid _ := isAddr_yes w k (by omega) (by omega)
    have HS : Hid _ := shows_flt g.m g.c (isAt g.root ((k : Int) / 16)) (fun e => rfl)
    have HH : Hid (GG w bg bp bf bl bc s g b W) := h
    have hc2 := h.ce.c2
    have hc3 := h.ce.c3
    have ha := h.ap
    unfold GAp at ha
    have hne : ¬ bg = bc := ha.2.2.2.1
    have hwr : IntKind.i64.wrap ((k : Int) / 16) = (k : Int) / 16 := by rw [IntKind.wrap_i64]; omega
    have HHd : Hid (GG w.drew bg bp bf bl bc s g b W) := h.same ((Upd.refl (fun _ => False) w).drew)
    clear h hr hi hd ha
    go_enter Tryz.func52, Tryz.ntmps52
    go_wp2_with (go_at_call 112; refine Calls.mono HA.out ?_; rintro e w1 ⟨rfl, rfl⟩)
    go_region_held3 (fun w' => w'.cell? ⟨bg, 2, none⟩ = some (.pointer (some ⟨bc, 0, none⟩)) ∧ w'.cell? ⟨bg, 3, none⟩ = some (.int .i64 g.root)) (first | exact ⟨hc2, hc3⟩ | exact h4c)
      ((go_at_call 125; refine (kDrop_any _ bc (shows g.m g.c) g.root ((k : Int) / 16) (by exact HHd.out.ca)).mono ?_; rintro e w4 ⟨rfl, hc4, hu4⟩; have h4c : w4.cell? ⟨bg, 2, none⟩ = some (.pointer (some ⟨bc, 0, none⟩)) ∧ w4.cell? ⟨bg, 3, none⟩ = some (.int .i64 g.root) := ⟨hu4.cell hc2 hne, hu4.cell hc3 hne⟩))
    rw [HS.out] at hc4
    have HC4 : Hid (CaL w4 bc (shows g.m (flt (isAt g.root ((k : Int) / 16)) g.c))) := hc4
    have HU4 : Hid _ := hu4
    clear hc4 hu4 h4c
    go_wp2_with fail
    go_ret
    exact ⟨rfl, HHd.out.setC HU4.out HC4.out HI.out HD.out, (Upd.refl (GFt bg bf bl bc) w1).drew.trans HU4.out (fun _ _ e => by unfold GFt; omega)⟩
theorem GG.forgetAll (h : GG w bg bp bf bl bc s g b W) (n : Int) : Calls Tryz.prog 17 #[.pointer (some ⟨bg, 0, none⟩), .int .i64 n] w (GPost w bg bp bf bl bc (onS s (gForgetAll g n)) b W) := by
  cases ho : onB n with
  | false =>
    have hr : gForgetAll g n = (1, g) := by unfold gForgetAll; rw [ho]; rfl
    rw [hr]
    have HA : Hid _ := isPage_any w n false ho
    have HH : Hid (GG w bg bp bf bl bc s g b W) := h
    clear h hr ho
    go_enter Tryz.func17, Tryz.ntmps17
    go_wp2_with (go_at_call 47; refine Calls.mono HA.out ?_; rintro e w1 ⟨rfl, rfl⟩)
    go_ret
    exact ⟨rfl, HH.out, Upd.refl _ _⟩
  | true =>
    have hr : gForgetAll g n = (0, { g with c := flt (fun x => x.root == n) g.c }) := by
      unfold gForgetAll
      rw [ho, keep_forget]
      rfl
    have hi : GInv s (gForgetAll g n).2 b W := h.inv.forgetAll n
    have hd : Dist (gForgetAll g n).2.c := forgetAll_dist h.di n
    rw [hr] at hi hd ⊢
    have HI : Hid _ := hi
    have HD : Hid (Dist (flt (fun x => x.root == n) g.c)) := hd
    have HA : Hid _ := isPage_any w n true ho
    have HS : Hid _ := shows_flt g.m g.c (fun x => x.root == n) (fun e => rfl)
    have HH : Hid (GG w bg bp bf bl bc s g b W) := h
    have hc2 := h.ce.c2
    have HK : Hid _ := kForget_any w bc (shows g.m g.c) n h.ca
    clear h hr hi hd ho
    go_enter Tryz.func17, Tryz.ntmps17
    go_wp2_with (go_at_call 47; refine Calls.mono HA.out ?_; rintro e w1 ⟨rfl, rfl⟩)
    refine Calls.mono HK.out ?_
    rintro e w4 ⟨rfl, hc4, hu4⟩
    rw [HS.out] at hc4
    have HC4 : Hid (CaL w4 bc (shows g.m (flt (fun x => x.root == n) g.c))) := hc4
    have HU4 : Hid _ := hu4
    clear hc4 hu4
    go_wp2_with fail
    go_ret
    exact ⟨rfl, HH.out.setC HU4.out HC4.out HI.out HD.out, HU4.out.wide (fun _ e => by unfold GFt; omega)⟩
theorem GG.setRoot (h : GG w bg bp bf bl bc s g b W) (n : Int) : Calls Tryz.prog 16 #[.pointer (some ⟨bg, 0, none⟩), .int .i64 n] w (GPost w bg bp bf bl bc (onS s (gRoot g n)) b W) := by
  have hi : GInv s (gRoot g n).2 b W := h.inv.root n
  have ok : (gRoot g n) = (0, { g with root := n }) → GG (w.setCell ⟨bg, 3, none⟩ (.int .i64 n)) bg bp bf bl bc s { g with root := n } b W := fun e => by
    rw [e] at hi
    have ha := h.ap
    unfold GAp at ha
    have u := Upd.one w bg 3 (.int .i64 n)
    exact ⟨h.ce.setRoot n, h.pool.upd u (by omega) (by omega) (h.pool.lt h.hn), h.lv.upd u (by omega), h.ca.upd u (by omega), h.ap, hi, h.di, h.hn⟩
  have c3 := h.ce.c3
  have z3 := h.ce.fz 3
  by_cases h1 : n = -1
  · subst h1
    have hr : gRoot g (-1) = (0, { g with root := -1 }) := by unfold gRoot; rw [if_neg (by omega)]
    have HK : Hid _ := ok hr
    rw [hr]
    clear ok hi h hr
    go_enter Tryz.func16, Tryz.ntmps16
    go_wp2_with fail
    go_ret
    exact ⟨rfl, HK.out, (Upd.one w bg 3 _).wide (fun _ e => by unfold GFt; omega)⟩
  · have b1 : (n != -1) = true := by simp; exact h1
    cases ho : onB n with
    | true =>
      obtain ⟨q0, q1⟩ := (onB_iff n).1 ho
      have hr : gRoot g n = (0, { g with root := n }) := by unfold gRoot; rw [if_neg (by omega)]
      have HK : Hid _ := ok hr
      have HA : Hid _ := isPage_any w n true ho
      rw [hr]
      clear ok hi h hr ho h1
      go_enter Tryz.func16, Tryz.ntmps16
      go_wp2_with (go_at_call 47; refine Calls.mono HA.out ?_; rintro e w1 ⟨rfl, rfl⟩)
      go_ret
      exact ⟨rfl, HK.out, (Upd.one _ bg 3 _).wide (fun _ e => by unfold GFt; omega)⟩
    | false =>
      have hr : gRoot g n = (1, g) := by unfold gRoot; rw [if_pos (by have := (onB_no n).1 ho; omega)]
      have HA : Hid _ := isPage_any w n false ho
      have HK : Hid (GG w bg bp bf bl bc s g b W) := h
      rw [hr]
      clear ok hi h hr ho h1
      go_enter Tryz.func16, Tryz.ntmps16
      go_wp2_with (go_at_call 47; refine Calls.mono HA.out ?_; rintro e w1 ⟨rfl, rfl⟩)
      go_ret
      exact ⟨rfl, HK.out, Upd.refl _ _⟩
end Go.Proofs.YtadpibcgjgcjhaaGreat
