/- Package guest: how a guest lies in memory; what changes a page. -/
import Derived.Test.YtadpibcgjgcjhabGreatPart10
import Derived.Test.YtadpibcgjgcjhabGreatPart05
import Derived.Test.YtadpibcgjgcjhabGreatPart08
namespace Go.Proofs.YtadpibcgjgcjhabGreat
open Go.ChangeShapes Go.WideShapes Go.ChangeAt Go.RowKit
set_option maxRecDepth 100000
attribute [local go_sem ↓] Go.wp_at_zero Go.wp_at_succ

/-- A guest's own cells: its block bg, its pool bp, its pages bl, its cache bc. -/
structure GCell (w : World) (bg bp bl bc : Nat) (root walks : Int) : Prop where
  c0 : w.cell? ⟨bg, 0, none⟩ = some (.pointer (some ⟨bp, 0, none⟩))
  c1 : w.cell? ⟨bg, 1, none⟩ = some (.pointer (some ⟨bl, 0, none⟩))
  c2 : w.cell? ⟨bg, 2, none⟩ = some (.pointer (some ⟨bc, 0, none⟩))
  c3 : w.cell? ⟨bg, 3, none⟩ = some (.int .i64 root)
  c4 : w.cell? ⟨bg, 4, none⟩ = some (.int .i64 walks)
  fz : ∀ o, w.frozen? ⟨bg, o, none⟩ = false
theorem GCell.lt {w : World} {bg bp bl bc : Nat} {r k : Int} (h : GCell w bg bp bl bc r k) : bg < w.heap.size := World.block_lt_of_cell? w _ h.c0
theorem GCell.upd {S : Nat → Prop} {w w' : World} {bg bp bl bc : Nat} {r k : Int} (h : GCell w bg bp bl bc r k) (u : Upd S w w') (hx : ¬ S bg) : GCell w' bg bp bl bc r k :=
  ⟨u.cell h.c0 hx, u.cell h.c1 hx, u.cell h.c2 hx, u.cell h.c3 hx, u.cell h.c4 hx, fun o => by rw [World.frozen?_of_block (w := w) (u.block bg h.lt hx)]; exact h.fz o⟩
theorem GCell.setRoot {w : World} {bg bp bl bc : Nat} {r k : Int} (h : GCell w bg bp bl bc r k) (n : Int) : GCell (w.setCell ⟨bg, 3, none⟩ (.int .i64 n)) bg bp bl bc n k := by
  refine ⟨?_, ?_, ?_, World.cell?_setCell_same _ _ _ h.c3, ?_, fun o => by rw [World.frozen?_setCell]; exact h.fz o⟩
  all_goals rw [World.cell?_setCell_other _ _ _ _ (addr_ne (Or.inr (by omega)))]
  · exact h.c0
  · exact h.c1
  · exact h.c2
  · exact h.c4
theorem GCell.setWalks {w : World} {bg bp bl bc : Nat} {r k : Int} (h : GCell w bg bp bl bc r k) (n : Int) : GCell (w.setCell ⟨bg, 4, none⟩ (.int .i64 n)) bg bp bl bc r n := by
  refine ⟨?_, ?_, ?_, ?_, World.cell?_setCell_same _ _ _ h.c4, fun o => by rw [World.frozen?_setCell]; exact h.fz o⟩
  all_goals rw [World.cell?_setCell_other _ _ _ _ (addr_ne (Or.inr (by omega)))]
  · exact h.c0
  · exact h.c1
  · exact h.c2
  · exact h.c3

/-- A page is changed: by a method value, or by a closure. -/
def ByOk (w : World) (bp bf bl : Nat) (f : Nat) (av : Array Value) (code : Int) (s' : Pl) (m' : Mp) (S : Nat → Prop) (R : World → Prop) : Prop :=
  Calls Tryz.prog f av w fun e w1 => e = .returned (errV code) ∧ PoolAt w1 bp bf s' ∧ LvAt w1 bl bp m' ∧ R w1 ∧ Upd S w w1
/-- What a change ends with. -/
def ChPost (w : World) (bp bf bl bc : Nat) (code : Int) (s' : Pl) (m' : Mp) (c : List En) (S : Nat → Prop) (R : World → Prop) (e : Ending) (w' : World) : Prop :=
  e = .returned (errV code) ∧ PoolAt w' bp bf s' ∧ LvAt w' bl bp m' ∧ CaL w' bc (shows m' c) ∧ R w' ∧ Upd (fun k => S k ∨ k = bc) w w'
/-- The blocks of a guest are apart. -/
def GAp (bg bp bf bl bc : Nat) : Prop := bg ≠ bp ∧ bg ≠ bf ∧ bg ≠ bl ∧ bg ≠ bc ∧ bl ≠ bp ∧ bl ≠ bf ∧ bl ≠ bc ∧ bc ≠ bp ∧ bc ≠ bf ∧ bp ≠ bf
theorem gLeaf_on (w : World) (bl bp k : Nat) (m : Mp) (h : LvAt w bl bp m) (hk : k < 16) :
    Calls Tryz.prog 48 #[.pointer (some ⟨bl, 0, none⟩), .int .i64 k] w fun e w' => e = .returned (.tuple #[.agg #[.bool (m.lf k).there, .bool (m.lf k).wr, .int .i64 (m.lf k).fr], .nilIface]) ∧ Upd (fun _ => False) w w' := by
  have e1 : onB (k : Int) = true := by simp [onB]; omega
  have e2 : lfR m (k : Int) = (m.lf k, 0) := by simp [lfR, e1]
  have := lvLeaf w bl bp k m h
  rwa [e2, errV_zero] at this

theorem change_any (w : World) (bg bp bf bl bc : Nat) (n r k : Int) (f : Nat) (bd lb : Array Value) (code : Int) (s' : Pl) (m m' : Mp) (c : List En) (S : Nat → Prop) (R : World → Prop) (h : GCell w bg bp bl bc r k) (hc : CaL w bc (shows m c)) (ha : GAp bg bp bf bl bc)
    (eg : ∀ args w, (callFunc f args).run Tryz.prog w = .ok (.enter f args) w) (hby : ByOk w bp bf bl f (bd.push (.int .i64 n) ++ lb) code s' m' S R) (hSg : ¬ S bg) (hSc : ¬ S bc) (hlf : ∀ k, k ≠ n.toNat → m'.lf k = m.lf k) (hno : code ≠ 0 → m' = m) (hon : code = 0 → onB n = true) (hen : ∀ x ∈ c, 0 ≤ x.dest) (hn : 0 < s'.n)
    (hR : ∀ w1 w2, R w1 → Upd (fun k => k = bc) w1 w2 → R w2) :
    Calls Tryz.prog 52 #[.pointer (some ⟨bg, 0, none⟩), .int .i64 n, .func (.func f) bd lb] w (ChPost w bp bf bl bc code s' m' c S R) := by
  have HC : Hid (CaL w bc (shows m c)) := hc
  have HH : Hid _ := h
  have HA : Hid (GAp bg bp bf bl bc) := ha
  have HR : Hid _ := hR
  have HS : Hid (¬ S bg ∧ ¬ S bc) := ⟨hSg, hSc⟩
  unfold ByOk at hby
  clear hc h ha hR hSg hSc
  by_cases h0 : code = 0
  · subst h0
    rw [errV_zero] at hby
    have HBY : Hid _ := hby
    have ho := hon rfl
    obtain ⟨q0, q1⟩ := (onB_iff n).1 ho
    obtain ⟨j, rfl⟩ := Int.eq_ofNat_of_zero_le q0
    have hj : j < 16 := by omega
    have HLF : Hid _ := hlf
    have HEN : Hid _ := hen
    clear ho hon hno q0 q1 hlf hen hby
    go_enter Tryz.func52, Tryz.ntmps52
    go_wp2_with (go_at_fn f; refine Calls.mono HBY.out ?_; rintro e w1 ⟨rfl, hp1, hl1, hr1, hu1⟩; have g1 := (HH.out.upd hu1 HS.out.1).c1; have HL1 : Hid _ := hl1; have HP1 : Hid _ := hp1; have HR1 : Hid _ := hr1; have HU1 : Hid _ := hu1; clear hl1 hp1 hr1 hu1)
    refine (gLeaf_on w1 bl bp j m' HL1.out hj).mono ?_
    rintro e w2 ⟨rfl, hu2⟩
    have hla := LfAt.new w2 38 (m'.lf j)
    have hu3 := hu2.alloc (.cells #[.bool (m'.lf j).there, .bool (m'.lf j).wr, .int .i64 (m'.lf j).fr] 38)
    have hz : bc < w2.heap.size := Nat.lt_of_lt_of_le HC.out.lt (Nat.le_trans HU1.out.size hu2.size)
    clear g1 hu2
    go_wp2_with fail
    revert hla hu3 hz
    generalize w2.alloc (.cells #[.bool (m'.lf j).there, .bool (m'.lf j).wr, .int .i64 (m'.lf j).fr] 38) = w3
    generalize w2.heap.size = q
    intro hla hu3 hz
    have hu13 := HU1.out.trans (T := fun _ => False) hu3 (fun _ _ f => f.elim)
    have g2 := (HH.out.upd hu13 HS.out.1).c2
    have HC3 : Hid (CaL w3 bc (shows m c)) := HC.out.upd hu13 HS.out.2
    have HU3 : Hid _ := hu3
    have HU13 : Hid _ := hu13
    obtain ⟨y0, y1, y2⟩ := hla
    have nq : ¬ q = bc := by omega
    clear hu3 hu13
    go_region_held3 (fun w' => w'.cell? ⟨bg, 2, none⟩ = some (.pointer (some ⟨bc, 0, none⟩)) ∧ w'.cell? ⟨q, 0, none⟩ = some (.bool (m'.lf j).there) ∧ w'.cell? ⟨q, 1, none⟩ = some (.bool (m'.lf j).wr) ∧ w'.cell? ⟨q, 2, none⟩ = some (.int .i64 (m'.lf j).fr)) (first | exact ⟨g2, y0, y1, y2⟩ | exact h4c)
      ((go_at_call 75; refine (kPoint_any _ bc (shows m c) (j : Int) (m'.lf j) (by first | exact HC3.out | exact HC3.out.upd (Upd.refl (fun _ => False) w3).drew (fun f => f))).mono ?_; rintro e w4 ⟨rfl, hc4, hu4⟩; have h4c : w4.cell? ⟨bg, 2, none⟩ = some (.pointer (some ⟨bc, 0, none⟩)) ∧ w4.cell? ⟨q, 0, none⟩ = some (.bool (m'.lf j).there) ∧ w4.cell? ⟨q, 1, none⟩ = some (.bool (m'.lf j).wr) ∧ w4.cell? ⟨q, 2, none⟩ = some (.int .i64 (m'.lf j).fr) := ⟨hu4.cell g2 (fun e => HA.out.2.2.2.1 e), hu4.cell y0 nq, hu4.cell y1 nq, hu4.cell y2 nq⟩))
    have hu4' : Upd (fun k => k = bc) w1 w4 := ((HU3.out.wide (T := fun k => k = bc) (fun _ f => f.elim)).drew).trans hu4 (fun _ _ e => e)
    have hpt := shows_point m m' c j (fun k hk => HLF.out k (by simpa using hk)) HEN.out
    rw [hpt] at hc4
    have HC4 : Hid (CaL w4 bc (shows m' c)) := hc4
    have HU4 : Hid _ := hu4'
    clear hc4 hu4 hu4' hpt h4c g2 y0 y1 y2
    go_wp2_with fail
    go_ret
    have d := HA.out
    unfold GAp at d
    have hlt : bf < w1.heap.size := HP1.out.lt hn
    exact ⟨by rw [errV_zero]; rfl, HP1.out.upd HU4.out (fun e => by omega) (fun e => by omega) hlt, HL1.out.upd HU4.out (fun e => by omega), HC4.out, HR.out _ _ HR1.out HU4.out, (HU1.out.wide (T := fun k => S k ∨ k = bc) (fun _ e => Or.inl e)).trans HU4.out (fun _ _ e => Or.inr e)⟩
  · have hb := hno h0
    subst hb
    have he : errV code = .iface 60 (.int .i64 code) := by simp [errV, h0]
    unfold ChPost
    rw [he] at hby ⊢
    have HBY : Hid _ := hby
    clear hby hno hon hlf hen he
    go_enter Tryz.func52, Tryz.ntmps52
    go_wp2_with (go_at_fn f; refine Calls.mono HBY.out ?_; rintro e w1 ⟨rfl, hp1, hl1, hr1, hu1⟩)
    go_ret
    exact ⟨rfl, hp1, hl1, HC.out.upd hu1 HS.out.2, hr1, hu1.wide (fun _ e => Or.inl e)⟩
end Go.Proofs.YtadpibcgjgcjhabGreat
/- Package guest: a guest and its pool in one state; touch. -/
namespace Go.Proofs.YtadpibcgjgcjhabGreat
open Go.ChangeShapes Go.WideShapes Go.ChangeAt Go.RowKit
set_option maxRecDepth 100000
attribute [local go_sem ↓] Go.wp_at_zero Go.wp_at_succ

/-- A guest of package guest, with its pool, in one state. -/
structure GG (w : World) (bg bp bf bl bc : Nat) (s : Pl) (g : Gs) (b : Mp) (W : Int) : Prop where
  ce : GCell w bg bp bl bc g.root g.walks
  pool : PoolAt w bp bf s
  lv : LvAt w bl bp g.m
  ca : CaL w bc (shows g.m g.c)
  ap : GAp bg bp bf bl bc
  inv : GInv s g b W
  di : Dist g.c
  hn : 0 < s.n
/-- What the acts of a guest may turn. -/
def GFt (bg bf bl bc : Nat) : Nat → Prop := fun k => k = bf ∨ k = bl ∨ k = bc ∨ k = bg
def GPost (w : World) (bg bp bf bl bc : Nat) (r : Int × Pl × Gs) (b : Mp) (W : Int) (e : Ending) (w' : World) : Prop :=
  e = .returned (errV r.1) ∧ GG w' bg bp bf bl bc r.2.1 r.2.2 b W ∧ Upd (GFt bg bf bl bc) w w'
variable {w w' : World} {bg bp bf bl bc : Nat} {s : Pl} {g : Gs} {b : Mp} {W : Int}
theorem GG.upd {S : Nat → Prop} (h : GG w bg bp bf bl bc s g b W) (u : Upd S w w') (h1 : ¬ S bg) (h2 : ¬ S bp) (h3 : ¬ S bf) (h4 : ¬ S bl) (h5 : ¬ S bc) : GG w' bg bp bf bl bc s g b W :=
  ⟨h.ce.upd u h1, h.pool.upd u h2 h3 (h.pool.lt h.hn), h.lv.upd u h4, h.ca.upd u h5, h.ap, h.inv, h.di, h.hn⟩
theorem GG.same (h : GG w bg bp bf bl bc s g b W) (u : Upd (fun _ => False) w w') : GG w' bg bp bf bl bc s g b W := h.upd u (fun f => f) (fun f => f) (fun f => f) (fun f => f) (fun f => f)
theorem GG.en (h : GG w bg bp bf bl bc s g b W) : ∀ x ∈ g.c, 0 ≤ x.dest := fun x hx => (h.inv.en x hx).1
theorem GG.more {W' : Int} (h : GG w bg bp bf bl bc s g b W) (hw : W ≤ W') : GG w bg bp bf bl bc s g b W' := { h with inv := h.inv.more hw }
/-- The pages turned, and what is remembered of them. -/
theorem GG.turned {S : Nat → Prop} {s' : Pl} {m' : Mp} (h : GG w bg bp bf bl bc s g b W) (u : Upd S w w') (hS : ¬ S bg) (hp : PoolAt w' bp bf s') (hl : LvAt w' bl bp m') (hc : CaL w' bc (shows m' g.c)) (hi : GInv s' { g with m := m' } b W) (hn : s'.n = s.n) : GG w' bg bp bf bl bc s' { g with m := m' } b W :=
  ⟨h.ce.upd u hS, hp, hl, hc, h.ap, hi, h.di, by rw [hn]; exact h.hn⟩

theorem touch1_any (w : World) (bg bp bf bl bc Bg Bw Bf : Nat) (n r k x : Int) (wt : Bool) (m b : Mp) (s : Pl) (h : GCell w bg bp bl bc r k) (hl : LvAt w bl bp m) (hp : PoolAt w bp bf s) (ha : GAp bg bp bf bl bc) (hn : 0 < s.n) (hi : Inv s m b)
    (cg : w.cell? ⟨Bg, 0, none⟩ = some (.pointer (some ⟨bg, 0, none⟩))) (cw : w.cell? ⟨Bw, 0, none⟩ = some (.bool wt)) (cf : w.cell? ⟨Bf, 0, none⟩ = some (.int .i64 x)) (zf : w.frozen? ⟨Bf, 0, none⟩ = false) (n1 : Bf ≠ bf) (n2 : Bf ≠ bl) (n3 : Bf ≠ bp) :
    ByOk w bp bf bl 90 #[.int .i64 n, .pointer (some ⟨Bg, 0, none⟩), .pointer (some ⟨Bw, 0, none⟩), .pointer (some ⟨Bf, 0, none⟩)] (touchR s m n wt).1.2.2 (touchR s m n wt).2.1 (touchR s m n wt).2.2 (fun k => k = bf ∨ k = bl ∨ k = Bf) (fun w1 => w1.cell? ⟨Bf, 0, none⟩ = some (.int .i64 (touchR s m n wt).1.1)) := by
  unfold ByOk
  have c1 := h.c1
  unfold GAp at ha
  have HT : Hid _ := lvTouch w.drew bl bp bf n wt m b s hl.drew hp.drew (by omega) (by omega) hn hi
  have hln : 0 < (touchR s m n wt).2.1.n := by rw [touch_n]; exact hn
  revert HT hln
  generalize touchR s m n wt = t
  intro HT hln
  obtain ⟨⟨f, mv, code⟩, s', m'⟩ := t
  clear ha h hl hp hi
  go_enter Tryz.func90, Tryz.ntmps90
  generalize hev : errV code = ev at HT
  have HEV : Hid _ := hev
  clear hev
  go_wp2_with fail
  go_region_with (go_at_call 91; refine Calls.mono HT.out ?_; rintro e w1 ⟨rfl, hp1, hl1, hu1⟩; have d0 := hu1.cell (p := ⟨Bf, 0, none⟩) cf (by simp only; omega); have d1 : w1.frozen? ⟨Bf, 0, none⟩ = false := (hu1.frozen (p := ⟨Bf, 0, none⟩) cf (by simp only; omega)).trans zf; have HP1 : Hid _ := hp1; have HL1 : Hid _ := hl1; have HU1 : Hid _ := hu1; clear hp1 hl1 hu1)
  all_goals
    have hlt : bf < w1.heap.size := HP1.out.lt hln
    have hu2 := Upd.one w1 Bf 0 (.int .i64 f)
    have HP : Hid _ := HP1.out.upd hu2 (Ne.symm n3) (Ne.symm n1) hlt
    have HL : Hid _ := HL1.out.upd hu2 (Ne.symm n2)
    have HU : Hid _ := (((Upd.refl (fun k => k = bf ∨ k = bl ∨ k = Bf) w).drew.trans HU1.out (fun _ _ e => by omega))).trans hu2 (fun _ _ e => by omega)
    have HF : Hid _ := World.cell?_setCell_same w1 ⟨Bf, 0, none⟩ (.int .i64 f) d0
    clear hu2 HT
    go_wp2_with fail
    go_ret
    exact ⟨by rw [← HEV.out]; rfl, HP.out, HL.out, HF.out, HU.out⟩
theorem enters_touch1 : ∀ args w, (callFunc 90 args).run Tryz.prog w = .ok (.enter 90 args) w := enters_of Tryz.func90 (by kernel_rfl) rfl
set_option maxHeartbeats 400000 in
theorem GG.touch (h : GG w bg bp bf bl bc s g b W) (n : Int) (wt : Bool) : Calls Tryz.prog 78 #[.pointer (some ⟨bg, 0, none⟩), .int .i64 n, .bool wt] w fun e w' =>
    e = .returned (.tuple #[.int .i64 (gTouch s g n wt).1.1, errV (gTouch s g n wt).1.2]) ∧ GG w' bg bp bf bl bc (gTouch s g n wt).2.1 (gTouch s g n wt).2.2 b W ∧ Upd (GFt bg bf bl bc) w w' := by
  have HH : Hid (GG w bg bp bf bl bc s g b W) := h
  have hz := h.ce.lt
  have hz2 := h.lv.lt
  have hz3 := h.ca.lt
  have hz4 := h.pool.lt h.hn
  have hz5 : bp < w.heap.size := by obtain ⟨cap, hc⟩ := h.pool.hd; exact World.block_lt_of_cell? w _ hc
  clear h
  have hu0 := (((Upd.refl (fun _ => False) w).alloc (.cells #[.pointer (some ⟨bg, 0, none⟩)] 47)).alloc (.cells #[.bool wt] 4)).alloc (.cells #[.int .i64 0] 3)
  have HZ0 : Hid ((((w.alloc (.cells #[.pointer (some ⟨bg, 0, none⟩)] 47)).alloc (.cells #[.bool wt] 4)).alloc (.cells #[.int .i64 0] 3)).frozen? ⟨w.heap.size + 1 + 1, 0, none⟩ = false) := by
    show _ = _
    have := World.frozen?_alloc_new ((w.alloc (.cells #[.pointer (some ⟨bg, 0, none⟩)] 47)).alloc (.cells #[.bool wt] 4)) #[.int .i64 0] 3 0
    simpa only [World.size_alloc] using this
  have HG0 : Hid ((((w.alloc (.cells #[.pointer (some ⟨bg, 0, none⟩)] 47)).alloc (.cells #[.bool wt] 4)).alloc (.cells #[.int .i64 0] 3)).cell? ⟨w.heap.size, 0, none⟩ = some (.pointer (some ⟨bg, 0, none⟩))) := by
    show _ = _
    rw [World.cell?_alloc_old _ _ _ (by simp only [World.size_alloc]; omega), World.cell?_alloc_old _ _ _ (by simp only [World.size_alloc]; omega), World.cell?_alloc_new]; rfl
  have HW0 : Hid ((((w.alloc (.cells #[.pointer (some ⟨bg, 0, none⟩)] 47)).alloc (.cells #[.bool wt] 4)).alloc (.cells #[.int .i64 0] 3)).cell? ⟨w.heap.size + 1, 0, none⟩ = some (.bool wt)) := by
    show _ = _
    rw [World.cell?_alloc_old _ _ _ (by simp only [World.size_alloc]; omega)]
    have := World.cell?_alloc_new (w.alloc (.cells #[.pointer (some ⟨bg, 0, none⟩)] 47)) #[.bool wt] 4 0
    simp only [World.size_alloc] at this
    rw [this]; rfl
  have HF0 : Hid ((((w.alloc (.cells #[.pointer (some ⟨bg, 0, none⟩)] 47)).alloc (.cells #[.bool wt] 4)).alloc (.cells #[.int .i64 0] 3)).cell? ⟨w.heap.size + 1 + 1, 0, none⟩ = some (.int .i64 0)) := by
    show _ = _
    have := World.cell?_alloc_new ((w.alloc (.cells #[.pointer (some ⟨bg, 0, none⟩)] 47)).alloc (.cells #[.bool wt] 4)) #[.int .i64 0] 3 0
    simp only [World.size_alloc] at this
    rw [this]; rfl
  have HG : Hid (GG (((w.alloc (.cells #[.pointer (some ⟨bg, 0, none⟩)] 47)).alloc (.cells #[.bool wt] 4)).alloc (.cells #[.int .i64 0] 3)) bg bp bf bl bc s g b W) := HH.out.same hu0
  have HU0 : Hid _ := hu0
  have HIN : Hid (GInv (gTouch s g n wt).2.1 (gTouch s g n wt).2.2 b W) := HH.out.inv.touch n wt
  unfold gTouch
  have HTN : Hid ((touchR s g.m n wt).2.1.n = s.n) := touch_n s g.m n wt
  clear hu0
  go_enter Tryz.func78, Tryz.ntmps78
  go_wp2_with fail
  revert HU0 HG HF0 HW0 HG0 HZ0
  generalize ((w.alloc (.cells #[.pointer (some ⟨bg, 0, none⟩)] 47)).alloc (.cells #[.bool wt] 4)).alloc (.cells #[.int .i64 0] 3) = w0
  generalize hq : w.heap.size = q at *
  intro HZ0 HG0 HW0 HF0 HG HU0
  have hq1 : ¬ q + 1 + 1 = bc := by omega
  have ha := HG.out.ap
  unfold GAp at ha
  have hby : ByOk w0 bp bf bl 90 ((#[] : Array Value).push (.int .i64 n) ++ #[.pointer (some ⟨q, 0, none⟩), .pointer (some ⟨q + 1, 0, none⟩), .pointer (some ⟨q + 1 + 1, 0, none⟩)]) (touchR s g.m n wt).1.2.2 (touchR s g.m n wt).2.1 (touchR s g.m n wt).2.2 (fun k => k = bf ∨ k = bl ∨ k = q + 1 + 1) (fun w1 => w1.cell? ⟨q + 1 + 1, 0, none⟩ = some (.int .i64 (touchR s g.m n wt).1.1)) := by
    rw [show (#[] : Array Value).push (.int .i64 n) ++ #[.pointer (some ⟨q, 0, none⟩), .pointer (some ⟨q + 1, 0, none⟩), .pointer (some ⟨q + 1 + 1, 0, none⟩)] = #[.int .i64 n, .pointer (some ⟨q, 0, none⟩), .pointer (some ⟨q + 1, 0, none⟩), .pointer (some ⟨q + 1 + 1, 0, none⟩)] from rfl]
    exact touch1_any w0 bg bp bf bl bc q (q + 1) (q + 1 + 1) n g.root g.walks 0 wt g.m b s HG.out.ce HG.out.lv HG.out.pool HG.out.ap HG.out.hn HG.out.inv.inv HG0.out HW0.out HF0.out HZ0.out (by omega) (by omega) (by omega)
  have h1 : ¬ (fun k => k = bf ∨ k = bl ∨ k = q + 1 + 1) bg := by simp only; omega
  have h2 : ¬ (fun k => k = bf ∨ k = bl ∨ k = q + 1 + 1) bc := by simp only; omega
  have h3 : 0 < (touchR s g.m n wt).2.1.n := by rw [HTN.out]; exact HG.out.hn
  have hch := change_any w0 bg bp bf bl bc n g.root g.walks 90 #[] #[.pointer (some ⟨q, 0, none⟩), .pointer (some ⟨q + 1, 0, none⟩), .pointer (some ⟨q + 1 + 1, 0, none⟩)] (touchR s g.m n wt).1.2.2 (touchR s g.m n wt).2.1 g.m (touchR s g.m n wt).2.2 g.c (fun k => k = bf ∨ k = bl ∨ k = q + 1 + 1) (fun w1 => w1.cell? ⟨q + 1 + 1, 0, none⟩ = some (.int .i64 (touchR s g.m n wt).1.1)) HG.out.ce HG.out.ca HG.out.ap enters_touch1 hby h1 h2 (touch_lf s g.m n wt) (fun h => by rw [touch_no s g.m n wt h]) (fun h => (touch_frame HG.out.inv.inv n wt h).2.2.1) HG.out.en h3 (fun w1 w2 h u => u.cell h hq1)
  have HCH : Hid _ := hch
  have H1 : Hid (¬ (fun k => (fun k => k = bf ∨ k = bl ∨ k = q + 1 + 1) k ∨ k = bc) bg) := show ¬ _ by simp only; omega
  clear hby h1 h2 h3 hch ha
  refine Calls.mono HCH.out ?_
  rintro e w2 ⟨rfl, hp2, hl2, hc2, hr2, hu2⟩
  have H2 : Hid _ := HG.out.turned hu2 H1.out hp2 hl2 hc2 HIN.out HTN.out
  have HU2 : Hid (Upd (GFt bg bf bl bc) w w2) := (HU0.out.wide (T := GFt bg bf bl bc) (fun _ f => f.elim)).trans hu2 (fun i hi e => by unfold GFt; omega)
  clear hp2 hl2 hc2 hu2 HIN HTN HG HCH H1
  go_wp2_with fail
  go_ret2
  exact ⟨rfl, H2.out, HU2.out⟩
end Go.Proofs.YtadpibcgjgcjhabGreat
/- Package guest: Plug, Unplug, Give, Back, Seal, Join. -/
namespace Go.Proofs.YtadpibcgjgcjhabGreat
open Go.ChangeShapes Go.WideShapes Go.ChangeAt Go.RowKit
set_option maxRecDepth 100000
attribute [local go_sem ↓] Go.wp_at_zero Go.wp_at_succ
variable {w w' : World} {bg bp bf bl bc : Nat} {s : Pl} {g : Gs} {b : Mp} {W : Int}

theorem enters_Plug : ∀ args w, (callFunc 57 args).run Tryz.prog w = .ok (.enter 57 args) w := enters_of Tryz.func57 (by kernel_rfl) rfl
set_option maxHeartbeats 400000 in
theorem GG.plug (h : GG w bg bp bf bl bc s g b W) (n : Int) : Calls Tryz.prog 36 #[.pointer (some ⟨bg, 0, none⟩), .int .i64 n] w (GPost w bg bp bf bl bc (gPlug s g n) b W) := by
  have ha := h.ap
  unfold GAp at ha
  have hby : ByOk w bp bf bl 57 ((#[.pointer (some ⟨bl, 0, none⟩)] : Array Value).push (.int .i64 n) ++ #[]) (plugR s g.m n).1 (plugR s g.m n).2.1 (plugR s g.m n).2.2 (fun k => k = bf ∨ k = bl) (fun _ => True) := by
    rw [show (#[.pointer (some ⟨bl, 0, none⟩)] : Array Value).push (.int .i64 n) ++ #[] = #[.pointer (some ⟨bl, 0, none⟩), .int .i64 n] from rfl]
    unfold ByOk
    refine (lvPlug w bl bp bf n g.m b s h.lv h.pool (by omega) (by omega) h.hn h.inv.inv).mono ?_
    rintro e w1 ⟨he, h1, h2, h3⟩
    exact ⟨he, h1, h2, trivial, h3⟩
  have hN : (plugR s g.m n).2.1.n = s.n := plug_n s g.m n
  have h1 : ¬ (fun k => k = bf ∨ k = bl) bg := by simp only; omega
  have h2 : ¬ (fun k => k = bf ∨ k = bl) bc := by simp only; omega
  have h3 : 0 < (plugR s g.m n).2.1.n := by rw [hN]; exact h.hn
  have hch := change_any w bg bp bf bl bc n g.root g.walks 57 #[.pointer (some ⟨bl, 0, none⟩)] #[] (plugR s g.m n).1 (plugR s g.m n).2.1 g.m (plugR s g.m n).2.2 g.c (fun k => k = bf ∨ k = bl) (fun _ => True) h.ce h.ca h.ap enters_Plug hby h1 h2 (plug_lf s g.m n) (fun h => by rw [plug_no h]) (fun h => plug_on h) h.en h3 (fun _ _ _ _ => trivial)
  have HCH : Hid _ := hch
  have HI : Hid (GInv (gPlug s g n).2.1 (gPlug s g n).2.2 b W) := h.inv.plug n
  have H1 : Hid (¬ (fun k => (fun k => k = bf ∨ k = bl) k ∨ k = bc) bg) := show ¬ _ by simp only; omega
  have c1 := h.ce.c1
  have HH : Hid (GG w bg bp bf bl bc s g b W) := h
  have HN : Hid _ := hN
  clear hby h1 h2 h3 hch ha h hN
  go_enter Tryz.func36, Tryz.ntmps36
  go_wp2_with fail
  refine Calls.mono HCH.out ?_
  rintro e w2 ⟨rfl, hp2, hl2, hc2, _, hu2⟩
  have H2 : Hid _ := HH.out.turned hu2 H1.out hp2 hl2 hc2 HI.out HN.out
  have HU : Hid (Upd (GFt bg bf bl bc) w w2) := hu2.wide (fun k e => by unfold GFt; simp only at e; omega)
  clear hp2 hl2 hc2 hu2 HCH
  go_wp2_with fail
  go_ret
  exact ⟨rfl, H2.out, HU.out⟩
theorem enters_Unplug : ∀ args w, (callFunc 53 args).run Tryz.prog w = .ok (.enter 53 args) w := enters_of Tryz.func53 (by kernel_rfl) rfl
set_option maxHeartbeats 400000 in
theorem GG.unplug (h : GG w bg bp bf bl bc s g b W) (n : Int) : Calls Tryz.prog 31 #[.pointer (some ⟨bg, 0, none⟩), .int .i64 n] w (GPost w bg bp bf bl bc (gUnplug s g n) b W) := by
  have ha := h.ap
  unfold GAp at ha
  have hby : ByOk w bp bf bl 53 ((#[.pointer (some ⟨bl, 0, none⟩)] : Array Value).push (.int .i64 n) ++ #[]) (unplugR s g.m n).1 (unplugR s g.m n).2.1 (unplugR s g.m n).2.2 (fun k => k = bf ∨ k = bl) (fun _ => True) := by
    rw [show (#[.pointer (some ⟨bl, 0, none⟩)] : Array Value).push (.int .i64 n) ++ #[] = #[.pointer (some ⟨bl, 0, none⟩), .int .i64 n] from rfl]
    unfold ByOk
    refine (lvUnplug w bl bp bf n g.m b s h.lv h.pool (by omega) (by omega) h.hn h.inv.inv).mono ?_
    rintro e w1 ⟨he, h1, h2, h3⟩
    exact ⟨he, h1, h2, trivial, h3⟩
  have hN : (unplugR s g.m n).2.1.n = s.n := unplug_n s g.m n
  have h1 : ¬ (fun k => k = bf ∨ k = bl) bg := by simp only; omega
  have h2 : ¬ (fun k => k = bf ∨ k = bl) bc := by simp only; omega
  have h3 : 0 < (unplugR s g.m n).2.1.n := by rw [hN]; exact h.hn
  have hch := change_any w bg bp bf bl bc n g.root g.walks 53 #[.pointer (some ⟨bl, 0, none⟩)] #[] (unplugR s g.m n).1 (unplugR s g.m n).2.1 g.m (unplugR s g.m n).2.2 g.c (fun k => k = bf ∨ k = bl) (fun _ => True) h.ce h.ca h.ap enters_Unplug hby h1 h2 (unplug_lf s g.m n) (fun h => by rw [unplug_no h]) (fun h => unplug_on h) h.en h3 (fun _ _ _ _ => trivial)
  have HCH : Hid _ := hch
  have HI : Hid (GInv (gUnplug s g n).2.1 (gUnplug s g n).2.2 b W) := h.inv.unplug n
  have H1 : Hid (¬ (fun k => (fun k => k = bf ∨ k = bl) k ∨ k = bc) bg) := show ¬ _ by simp only; omega
  have c1 := h.ce.c1
  have HH : Hid (GG w bg bp bf bl bc s g b W) := h
  have HN : Hid _ := hN
  clear hby h1 h2 h3 hch ha h hN
  go_enter Tryz.func31, Tryz.ntmps31
  go_wp2_with fail
  refine Calls.mono HCH.out ?_
  rintro e w2 ⟨rfl, hp2, hl2, hc2, _, hu2⟩
  have H2 : Hid _ := HH.out.turned hu2 H1.out hp2 hl2 hc2 HI.out HN.out
  have HU : Hid (Upd (GFt bg bf bl bc) w w2) := hu2.wide (fun k e => by unfold GFt; simp only at e; omega)
  clear hp2 hl2 hc2 hu2 HCH
  go_wp2_with fail
  go_ret
  exact ⟨rfl, H2.out, HU.out⟩
theorem enters_Give : ∀ args w, (callFunc 58 args).run Tryz.prog w = .ok (.enter 58 args) w := enters_of Tryz.func58 (by kernel_rfl) rfl
set_option maxHeartbeats 400000 in
theorem GG.give (h : GG w bg bp bf bl bc s g b W) (n : Int) : Calls Tryz.prog 37 #[.pointer (some ⟨bg, 0, none⟩), .int .i64 n] w (GPost w bg bp bf bl bc (gGive s g n false) b W) := by
  have ha := h.ap
  unfold GAp at ha
  have hby : ByOk w bp bf bl 58 ((#[.pointer (some ⟨bl, 0, none⟩)] : Array Value).push (.int .i64 n) ++ #[]) (giveR s g.m n false).1 (giveR s g.m n false).2.1 (giveR s g.m n false).2.2 (fun k => k = bf ∨ k = bl) (fun _ => True) := by
    rw [show (#[.pointer (some ⟨bl, 0, none⟩)] : Array Value).push (.int .i64 n) ++ #[] = #[.pointer (some ⟨bl, 0, none⟩), .int .i64 n] from rfl]
    unfold ByOk
    refine (lvGive w bl bp bf n g.m b s h.lv h.pool (by omega) (by omega) h.hn h.inv.inv).mono ?_
    rintro e w1 ⟨he, h1, h2, h3⟩
    exact ⟨he, h1, h2, trivial, h3⟩
  have hN : (giveR s g.m n false).2.1.n = s.n := give_n s g.m n false
  have h1 : ¬ (fun k => k = bf ∨ k = bl) bg := by simp only; omega
  have h2 : ¬ (fun k => k = bf ∨ k = bl) bc := by simp only; omega
  have h3 : 0 < (giveR s g.m n false).2.1.n := by rw [hN]; exact h.hn
  have hch := change_any w bg bp bf bl bc n g.root g.walks 58 #[.pointer (some ⟨bl, 0, none⟩)] #[] (giveR s g.m n false).1 (giveR s g.m n false).2.1 g.m (giveR s g.m n false).2.2 g.c (fun k => k = bf ∨ k = bl) (fun _ => True) h.ce h.ca h.ap enters_Give hby h1 h2 (give_lf s g.m n false) (fun h => by rw [give_no h]) (fun h => give_on h) h.en h3 (fun _ _ _ _ => trivial)
  have HCH : Hid _ := hch
  have HI : Hid (GInv (gGive s g n false).2.1 (gGive s g n false).2.2 b W) := h.inv.give n false
  have H1 : Hid (¬ (fun k => (fun k => k = bf ∨ k = bl) k ∨ k = bc) bg) := show ¬ _ by simp only; omega
  have c1 := h.ce.c1
  have HH : Hid (GG w bg bp bf bl bc s g b W) := h
  have HN : Hid _ := hN
  clear hby h1 h2 h3 hch ha h hN
  go_enter Tryz.func37, Tryz.ntmps37
  go_wp2_with fail
  refine Calls.mono HCH.out ?_
  rintro e w2 ⟨rfl, hp2, hl2, hc2, _, hu2⟩
  have H2 : Hid _ := HH.out.turned hu2 H1.out hp2 hl2 hc2 HI.out HN.out
  have HU : Hid (Upd (GFt bg bf bl bc) w w2) := hu2.wide (fun k e => by unfold GFt; simp only at e; omega)
  clear hp2 hl2 hc2 hu2 HCH
  go_wp2_with fail
  go_ret
  exact ⟨rfl, H2.out, HU.out⟩
theorem enters_Back : ∀ args w, (callFunc 59 args).run Tryz.prog w = .ok (.enter 59 args) w := enters_of Tryz.func59 (by kernel_rfl) rfl
set_option maxHeartbeats 400000 in
theorem GG.back (h : GG w bg bp bf bl bc s g b W) (n : Int) : Calls Tryz.prog 39 #[.pointer (some ⟨bg, 0, none⟩), .int .i64 n] w (GPost w bg bp bf bl bc (gGive s g n true) b W) := by
  have ha := h.ap
  unfold GAp at ha
  have hby : ByOk w bp bf bl 59 ((#[.pointer (some ⟨bl, 0, none⟩)] : Array Value).push (.int .i64 n) ++ #[]) (giveR s g.m n true).1 (giveR s g.m n true).2.1 (giveR s g.m n true).2.2 (fun k => k = bf ∨ k = bl) (fun _ => True) := by
    rw [show (#[.pointer (some ⟨bl, 0, none⟩)] : Array Value).push (.int .i64 n) ++ #[] = #[.pointer (some ⟨bl, 0, none⟩), .int .i64 n] from rfl]
    unfold ByOk
    refine (lvBack w bl bp bf n g.m b s h.lv h.pool (by omega) (by omega) h.hn h.inv.inv).mono ?_
    rintro e w1 ⟨he, h1, h2, h3⟩
    exact ⟨he, h1, h2, trivial, h3⟩
  have hN : (giveR s g.m n true).2.1.n = s.n := give_n s g.m n true
  have h1 : ¬ (fun k => k = bf ∨ k = bl) bg := by simp only; omega
  have h2 : ¬ (fun k => k = bf ∨ k = bl) bc := by simp only; omega
  have h3 : 0 < (giveR s g.m n true).2.1.n := by rw [hN]; exact h.hn
  have hch := change_any w bg bp bf bl bc n g.root g.walks 59 #[.pointer (some ⟨bl, 0, none⟩)] #[] (giveR s g.m n true).1 (giveR s g.m n true).2.1 g.m (giveR s g.m n true).2.2 g.c (fun k => k = bf ∨ k = bl) (fun _ => True) h.ce h.ca h.ap enters_Back hby h1 h2 (give_lf s g.m n true) (fun h => by rw [give_no h]) (fun h => give_on h) h.en h3 (fun _ _ _ _ => trivial)
  have HCH : Hid _ := hch
  have HI : Hid (GInv (gGive s g n true).2.1 (gGive s g n true).2.2 b W) := h.inv.give n true
  have H1 : Hid (¬ (fun k => (fun k => k = bf ∨ k = bl) k ∨ k = bc) bg) := show ¬ _ by simp only; omega
  have c1 := h.ce.c1
  have HH : Hid (GG w bg bp bf bl bc s g b W) := h
  have HN : Hid _ := hN
  clear hby h1 h2 h3 hch ha h hN
  go_enter Tryz.func39, Tryz.ntmps39
  go_wp2_with fail
  refine Calls.mono HCH.out ?_
  rintro e w2 ⟨rfl, hp2, hl2, hc2, _, hu2⟩
  have H2 : Hid _ := HH.out.turned hu2 H1.out hp2 hl2 hc2 HI.out HN.out
  have HU : Hid (Upd (GFt bg bf bl bc) w w2) := hu2.wide (fun k e => by unfold GFt; simp only at e; omega)
  clear hp2 hl2 hc2 hu2 HCH
  go_wp2_with fail
  go_ret
  exact ⟨rfl, H2.out, HU.out⟩
theorem enters_Seal : ∀ args w, (callFunc 86 args).run Tryz.prog w = .ok (.enter 86 args) w := enters_of Tryz.func86 (by kernel_rfl) rfl
set_option maxHeartbeats 400000 in
theorem GG.seal (h : GG w bg bp bf bl bc s g b W) (n : Int) : Calls Tryz.prog 68 #[.pointer (some ⟨bg, 0, none⟩), .int .i64 n] w (GPost w bg bp bf bl bc (gSeal s g n) b W) := by
  have ha := h.ap
  unfold GAp at ha
  have hby : ByOk w bp bf bl 86 ((#[.pointer (some ⟨bl, 0, none⟩)] : Array Value).push (.int .i64 n) ++ #[]) (sealR g.m n).1 s (sealR g.m n).2 (fun k => k = bf ∨ k = bl) (fun _ => True) := by
    rw [show (#[.pointer (some ⟨bl, 0, none⟩)] : Array Value).push (.int .i64 n) ++ #[] = #[.pointer (some ⟨bl, 0, none⟩), .int .i64 n] from rfl]
    unfold ByOk
    refine (lvSeal w bl bp bf n g.m b s h.lv h.pool (by omega) (by omega) h.hn h.inv.inv).mono ?_
    rintro e w1 ⟨he, h1, h2, h3⟩
    exact ⟨he, h1, h2, trivial, h3⟩
  have hN : s.n = s.n := rfl
  have h1 : ¬ (fun k => k = bf ∨ k = bl) bg := by simp only; omega
  have h2 : ¬ (fun k => k = bf ∨ k = bl) bc := by simp only; omega
  have h3 : 0 < s.n := by rw [hN]; exact h.hn
  have hch := change_any w bg bp bf bl bc n g.root g.walks 86 #[.pointer (some ⟨bl, 0, none⟩)] #[] (sealR g.m n).1 s g.m (sealR g.m n).2 g.c (fun k => k = bf ∨ k = bl) (fun _ => True) h.ce h.ca h.ap enters_Seal hby h1 h2 (seal_lf g.m n) (fun h => by rw [seal_no h]) (fun h => seal_on h) h.en h3 (fun _ _ _ _ => trivial)
  have HCH : Hid _ := hch
  have HI : Hid (GInv (gSeal s g n).2.1 (gSeal s g n).2.2 b W) := h.inv.seal n
  have H1 : Hid (¬ (fun k => (fun k => k = bf ∨ k = bl) k ∨ k = bc) bg) := show ¬ _ by simp only; omega
  have c1 := h.ce.c1
  have HH : Hid (GG w bg bp bf bl bc s g b W) := h
  have HN : Hid _ := hN
  clear hby h1 h2 h3 hch ha h hN
  go_enter Tryz.func68, Tryz.ntmps68
  go_wp2_with fail
  refine Calls.mono HCH.out ?_
  rintro e w2 ⟨rfl, hp2, hl2, hc2, _, hu2⟩
  have H2 : Hid _ := HH.out.turned hu2 H1.out hp2 hl2 hc2 HI.out rfl
  have HU : Hid (Upd (GFt bg bf bl bc) w w2) := hu2.wide (fun k e => by unfold GFt; simp only at e; omega)
  clear hp2 hl2 hc2 hu2 HCH
  go_wp2_with fail
  go_ret
  exact ⟨rfl, H2.out, HU.out⟩
theorem join1_any (w : World) (bg bp bf bl bc Bg Bf : Nat) (n f r k : Int) (m b : Mp) (s : Pl) (h : GCell w bg bp bl bc r k) (hl : LvAt w bl bp m) (hp : PoolAt w bp bf s) (ha : GAp bg bp bf bl bc) (hn : 0 < s.n) (hi : Inv s m b)
    (cg : w.cell? ⟨Bg, 0, none⟩ = some (.pointer (some ⟨bg, 0, none⟩))) (cf : w.cell? ⟨Bf, 0, none⟩ = some (.int .i64 f)) :
    ByOk w bp bf bl 69 #[.int .i64 n, .pointer (some ⟨Bg, 0, none⟩), .pointer (some ⟨Bf, 0, none⟩)] (joinR s m n f).1 (joinR s m n f).2.1 (joinR s m n f).2.2 (fun k => k = bf ∨ k = bl) (fun _ => True) := by
  unfold ByOk
  have c1 := h.c1
  unfold GAp at ha
  have HT : Hid _ := lvJoin w.drew bl bp bf n f m b s hl.drew hp.drew (by omega) (by omega) hn hi
  revert HT
  generalize joinR s m n f = t
  intro HT
  obtain ⟨code, s', m'⟩ := t
  clear ha h hl hp hi
  generalize hev : errV code = ev at HT
  have HEV : Hid _ := hev
  clear hev
  go_enter Tryz.func69, Tryz.ntmps69
  go_wp2_with fail
  go_region_with (go_at_call 70; refine Calls.mono HT.out ?_; rintro e w1 ⟨rfl, hp1, hl1, hu1⟩; have HP1 : Hid _ := hp1; have HL1 : Hid _ := hl1; have HU1 : Hid _ := hu1; clear hp1 hl1 hu1)
  all_goals
    go_wp2_with fail
    go_ret
    exact ⟨by rw [← HEV.out]; rfl, HP1.out, HL1.out, trivial, (Upd.refl (fun k => k = bf ∨ k = bl) w).drew.trans HU1.out (fun _ _ e => e)⟩
theorem enters_join1 : ∀ args w, (callFunc 69 args).run Tryz.prog w = .ok (.enter 69 args) w := enters_of Tryz.func69 (by kernel_rfl) rfl
set_option maxHeartbeats 400000 in
theorem GG.join (h : GG w bg bp bf bl bc s g b W) (n f : Int) : Calls Tryz.prog 47 #[.pointer (some ⟨bg, 0, none⟩), .int .i64 n, .int .i64 f] w (GPost w bg bp bf bl bc (gJoin s g n f) b W) := by
  have hz := h.ce.lt
  have hu0 := ((Upd.refl (fun _ => False) w).alloc (.cells #[.pointer (some ⟨bg, 0, none⟩)] 47)).alloc (.cells #[.int .i64 f] 3)
  have HG0 : Hid (((w.alloc (.cells #[.pointer (some ⟨bg, 0, none⟩)] 47)).alloc (.cells #[.int .i64 f] 3)).cell? ⟨w.heap.size, 0, none⟩ = some (.pointer (some ⟨bg, 0, none⟩))) := by
    show _ = _
    rw [World.cell?_alloc_old _ _ _ (by simp only [World.size_alloc]; omega), World.cell?_alloc_new]; rfl
  have HF0 : Hid (((w.alloc (.cells #[.pointer (some ⟨bg, 0, none⟩)] 47)).alloc (.cells #[.int .i64 f] 3)).cell? ⟨w.heap.size + 1, 0, none⟩ = some (.int .i64 f)) := by
    show _ = _
    have := World.cell?_alloc_new (w.alloc (.cells #[.pointer (some ⟨bg, 0, none⟩)] 47)) #[.int .i64 f] 3 0
    simp only [World.size_alloc] at this
    rw [this]; rfl
  have HG : Hid (GG ((w.alloc (.cells #[.pointer (some ⟨bg, 0, none⟩)] 47)).alloc (.cells #[.int .i64 f] 3)) bg bp bf bl bc s g b W) := h.same hu0
  have HU0 : Hid _ := hu0
  have HI : Hid (GInv (gJoin s g n f).2.1 (gJoin s g n f).2.2 b W) := h.inv.join n f
  have HN : Hid ((joinR s g.m n f).2.1.n = s.n) := join_n s g.m n f
  clear hu0 h
  go_enter Tryz.func47, Tryz.ntmps47
  go_wp2_with fail
  revert HU0 HG HF0 HG0
  generalize (w.alloc (.cells #[.pointer (some ⟨bg, 0, none⟩)] 47)).alloc (.cells #[.int .i64 f] 3) = w0
  generalize w.heap.size = q at *
  intro HG0 HF0 HG HU0
  have ha := HG.out.ap
  unfold GAp at ha
  have hby : ByOk w0 bp bf bl 69 ((#[] : Array Value).push (.int .i64 n) ++ #[.pointer (some ⟨q, 0, none⟩), .pointer (some ⟨q + 1, 0, none⟩)]) (joinR s g.m n f).1 (joinR s g.m n f).2.1 (joinR s g.m n f).2.2 (fun k => k = bf ∨ k = bl) (fun _ => True) := by
    rw [show (#[] : Array Value).push (.int .i64 n) ++ #[.pointer (some ⟨q, 0, none⟩), .pointer (some ⟨q + 1, 0, none⟩)] = #[.int .i64 n, .pointer (some ⟨q, 0, none⟩), .pointer (some ⟨q + 1, 0, none⟩)] from rfl]
    exact join1_any w0 bg bp bf bl bc q (q + 1) n f g.root g.walks g.m b s HG.out.ce HG.out.lv HG.out.pool HG.out.ap HG.out.hn HG.out.inv.inv HG0.out HF0.out
  have h1 : ¬ (fun k => k = bf ∨ k = bl) bg := by simp only; omega
  have h2 : ¬ (fun k => k = bf ∨ k = bl) bc := by simp only; omega
  have h3 : 0 < (joinR s g.m n f).2.1.n := by rw [HN.out]; exact HG.out.hn
  have hch := change_any w0 bg bp bf bl bc n g.root g.walks 69 #[] #[.pointer (some ⟨q, 0, none⟩), .pointer (some ⟨q + 1, 0, none⟩)] (joinR s g.m n f).1 (joinR s g.m n f).2.1 g.m (joinR s g.m n f).2.2 g.c (fun k => k = bf ∨ k = bl) (fun _ => True) HG.out.ce HG.out.ca HG.out.ap enters_join1 hby h1 h2 (join_lf s g.m n f) (fun h => by rw [join_no h]) (fun h => join_on h) HG.out.en h3 (fun _ _ _ _ => trivial)
  have HCH : Hid _ := hch
  have H1 : Hid (¬ (fun k => (fun k => k = bf ∨ k = bl) k ∨ k = bc) bg) := show ¬ _ by simp only; omega
  clear hby h1 h2 h3 hch ha
  refine Calls.mono HCH.out ?_
  rintro e w2 ⟨rfl, hp2, hl2, hc2, _, hu2⟩
  have H2 : Hid _ := HG.out.turned hu2 H1.out hp2 hl2 hc2 HI.out HN.out
  have HU : Hid (Upd (GFt bg bf bl bc) w w2) := (HU0.out.wide (T := GFt bg bf bl bc) (fun _ f => f.elim)).trans hu2 (fun k _ e => by unfold GFt; simp only at e; omega)
  clear hp2 hl2 hc2 hu2 HCH
  go_wp2_with fail
  go_ret
  exact ⟨rfl, H2.out, HU.out⟩
end Go.Proofs.YtadpibcgjgcjhabGreat
/- Package guest: Root, Walks, SetRoot, Forget, ForgetAll, State, Leaf. -/
namespace Go.Proofs.YtadpibcgjgcjhabGreat
open Go.ChangeShapes Go.WideShapes Go.ChangeAt Go.RowKit
set_option maxRecDepth 100000
attribute [local go_sem ↓] Go.wp_at_zero Go.wp_at_succ
variable {w w' : World} {bg bp bf bl bc : Nat} {s : Pl} {g : Gs} {b : Mp} {W : Int}

theorem isPage_any (w : World) (n : Int) (v : Bool) (hv : onB n = v) : Calls Tryz.prog 63 #[.int .i64 n] w fun e w' => e = .returned (.bool v) ∧ w' = w := by
  subst hv
  cases ho : onB n with
  | true =>
    obtain ⟨q0, q1⟩ := (onB_iff n).1 ho
    have d0 : decide (0 ≤ n) = true := by simp; omega
    have d1 : decide (n < 16) = true := by simp; omega
    clear ho
    go_enter Tryz.func63, Tryz.ntmps63
    go_wp2
    go_ret
    exact ⟨rfl, rfl⟩
  | false =>
    rcases (onB_no n).1 ho with h0 | h0
    · have d0 : decide (0 ≤ n) = false := by simp; omega
      clear ho
      go_enter Tryz.func63, Tryz.ntmps63
      go_wp2
      go_ret
      exact ⟨rfl, rfl⟩
    · have d0 : decide (0 ≤ n) = true := by simp; omega
      have d1 : decide (n < 16) = false := by simp; omega
      clear ho
      go_enter Tryz.func63, Tryz.ntmps63
      go_wp2
      go_ret
      exact ⟨rfl, rfl⟩
theorem isAddr_yes (w : World) (n : Int) (h0 : 0 ≤ n) (h1 : n ≤ 255) : Calls Tryz.prog 64 #[.int .i64 n] w fun e w' => e = .returned (.bool true) ∧ w' = w := by
  have d0 : decide (0 ≤ n) = true := by simp; omega
  have d1 : decide (n ≤ 255) = true := by simp; omega
  go_enter Tryz.func64, Tryz.ntmps64
  go_wp2
  go_ret
  exact ⟨rfl, rfl⟩
theorem isAddr_no (w : World) (n : Int) (h : n < 0 ∨ 255 < n) : Calls Tryz.prog 64 #[.int .i64 n] w fun e w' => e = .returned (.bool false) ∧ w' = w := by
  rcases h with h0 | h0
  · have d0 : decide (0 ≤ n) = false := by simp; omega
    go_enter Tryz.func64, Tryz.ntmps64
    go_wp2
    go_ret
    exact ⟨rfl, rfl⟩
  · have d0 : decide (0 ≤ n) = true := by simp; omega
    have d1 : decide (n ≤ 255) = false := by simp; omega
    go_enter Tryz.func64, Tryz.ntmps64
    go_wp2
    go_ret
    exact ⟨rfl, rfl⟩
theorem GG.stateOf (h : GG w bg bp bf bl bc s g b W) (k : Nat) (hk : k < 16) : Calls Tryz.prog 33 #[.pointer (some ⟨bg, 0, none⟩), .int .i64 k] w fun e w' => e = .returned (.tuple #[.int .i64 (g.m.st k), .nilIface]) ∧ Upd (fun _ => False) w w' := by
  have c := h.ce.c1
  have e1 : onB (k : Int) = true := by simp [onB]; omega
  have e2 : stR g.m (k : Int) = (g.m.st k, 0) := by simp [stR, e1]
  have hs := lvState w bl bp k g.m h.lv
  rw [e2, errV_zero] at hs
  have HS : Hid _ := hs
  clear h e1 e2 hs
  go_enter Tryz.func33, Tryz.ntmps33
  go_wp2_with fail
  refine Calls.mono HS.out ?_
  rintro e w1 ⟨rfl, hu⟩
  go_wp2_with fail
  go_ret2
  exact ⟨rfl, hu⟩
set_option maxHeartbeats 1000000 in
theorem GG.leafOf (h : GG w bg bp bf bl bc s g b W) (k : Nat) (hk : k < 16) : Calls Tryz.prog 28 #[.pointer (some ⟨bg, 0, none⟩), .int .i64 k] w fun e w' => e = .returned (.tuple #[.agg #[.bool (g.m.lf k).there, .bool (g.m.lf k).wr, .int .i64 (g.m.lf k).fr], .nilIface]) ∧ Upd (fun _ => False) w w' := by
  have u1 := (Upd.refl (fun _ => False) w).alloc (.cells #[.bool false, .bool false, .int .i64 0] 38)
  have c := (h.same u1).ce.c1
  have HL : Hid _ := gLeaf_on _ bl bp k g.m (h.same u1).lv hk
  have hla := LfAt.new w 38 lf0
  have hlz : ∀ o, (w.alloc (.cells #[.bool false, .bool false, .int .i64 0] 38)).frozen? ⟨w.heap.size, o, none⟩ = false := fun o => World.frozen?_alloc_new _ _ _ _
  have HLA : Hid (LfAt (w.alloc (.cells #[.bool false, .bool false, .int .i64 0] 38)) w.heap.size lf0) := hla
  have HLZ : Hid _ := hlz
  have HU1 : Hid _ := u1
  have HSZ : Hid (w.heap.size < (w.alloc (.cells #[.bool false, .bool false, .int .i64 0] 38)).heap.size) := show _ < _ by simp
  clear h u1 hla hlz
  generalize g.m.lf k = l at HL
  go_enter Tryz.func28, Tryz.ntmps28
  go_wp2_with fail
  refine Calls.mono HL.out ?_
  rintro e w1 ⟨rfl, hu⟩
  obtain ⟨y0, y1, y2⟩ := HLA.out.upd hu (fun f => f)
  have z0 : ∀ o, w1.frozen? ⟨w.heap.size, o, none⟩ = false := fun o => by rw [World.frozen?_of_block (hu.block w.heap.size HSZ.out (fun f => f))]; exact HLZ.out o
  have z1 := z0 0
  have z2 := z0 1
  have z3 := z0 2
  have HU : Hid _ := HU1.out.trans hu (fun _ _ f => f)
  have HU2 : Hid (Upd (fun k => k = w.heap.size) w1 (((w1.setCell ⟨w.heap.size, 0, none⟩ (.bool l.there)).setCell ⟨w.heap.size, 1, none⟩ (.bool l.wr)).setCell ⟨w.heap.size, 2, none⟩ (.int .i64 l.fr))) := Upd.three w1 w.heap.size 0 1 2 _ _ _
  clear z0 hu HU1 HLA HLZ HL
  go_wp2_with fail
  refine bodyPost_ret (v := .tuple #[.agg #[.bool l.there, .bool l.wr, .int .i64 l.fr], .nilIface]) (by simp [results, Tryz.results28, go_sem, y0, y1, y2]) rfl ⟨rfl, HU.out.trans HU2.out (fun i hi e => by omega)⟩
theorem GG.setC {c' : List En} (h : GG w bg bp bf bl bc s g b W) (u : Upd (fun k => k = bc) w w') (hc : CaL w' bc (shows g.m c')) (hi : GInv s { g with c := c' } b W) (hd : Dist c') : GG w' bg bp bf bl bc s { g with c := c' } b W := by
  have ha := h.ap
  unfold GAp at ha
  exact ⟨h.ce.upd u (by omega), h.pool.upd u (by omega) (by omega) (h.pool.lt h.hn), h.lv.upd u (by omega), hc, h.ap, hi, hd, h.hn⟩
theorem GG.forget (h : GG w bg bp bf bl bc s g b W) (addr : Int) : Calls Tryz.prog 43 #[.pointer (some ⟨bg, 0, none⟩), .int .i64 addr] w (GPost w bg bp bf bl bc (onS s (gForget g addr)) b W) := by
  by_cases ho : addr < 0 ∨ 255 < addr
  · have hr : gForget g addr = (1, g) := by unfold gForget; rw [if_pos ho]
    rw [hr]
    have HA : Hid _ := isAddr_no w addr ho
    have HH : Hid (GG w bg bp bf bl bc s g b W) := h
    clear h hr ho
    go_enter Tryz.func43, Tryz.ntmps43
    go_wp2_with (go_at_call 64; refine Calls.mono HA.out ?_; rintro e w1 ⟨rfl, rfl⟩)
    go_ret
    exact ⟨rfl, HH.out, Upd.refl _ _⟩
  · obtain ⟨k, rfl⟩ := Int.eq_ofNat_of_zero_le (show 0 ≤ addr by omega)
    have hr : gForget g (k : Int) = (0, { g with c := flt (isAt g.root ((k : Int) / 16)) g.c }) := by
      unfold gForget
      rw [if_neg ho, keep_drop h.di]
    have hi : GInv s (gForget g (k : Int)).2 b W := h.inv.forget k
    have hd : Dist (gForget g (k : Int)).2.c := forget_dist h.di k
    rw [hr] at hi hd ⊢
    have HI : Hid _ := hi
    have HD : Hid (Dist (flt (isAt g.root ((k : Int) / 16)) g.c)) := hd
    have HA : Hid _ := isAddr_yes w k (by omega) (by omega)
    have HS : Hid _ := shows_flt g.m g.c (isAt g.root ((k : Int) / 16)) (fun e => rfl)
    have HH : Hid (GG w bg bp bf bl bc s g b W) := h
    have hc2 := h.ce.c2
    have hc3 := h.ce.c3
    have ha := h.ap
    unfold GAp at ha
    have hne : ¬ bg = bc := ha.2.2.2.1
    have hwr : IntKind.i64.wrap ((k : Int) / 16) = (k : Int) / 16 := by rw [IntKind.wrap_i64]; omega
    have HHd : Hid (GG w.drew bg bp bf bl bc s g b W) := h.same ((Upd.refl (fun _ => False) w).drew)
    clear h hr hi hd ha
    go_enter Tryz.func43, Tryz.ntmps43
    go_wp2_with (go_at_call 64; refine Calls.mono HA.out ?_; rintro e w1 ⟨rfl, rfl⟩)
    go_region_held3 (fun w' => w'.cell? ⟨bg, 2, none⟩ = some (.pointer (some ⟨bc, 0, none⟩)) ∧ w'.cell? ⟨bg, 3, none⟩ = some (.int .i64 g.root)) (first | exact ⟨hc2, hc3⟩ | exact h4c)
      ((go_at_call 65; refine (kDrop_any _ bc (shows g.m g.c) g.root ((k : Int) / 16) (by exact HHd.out.ca)).mono ?_; rintro e w4 ⟨rfl, hc4, hu4⟩; have h4c : w4.cell? ⟨bg, 2, none⟩ = some (.pointer (some ⟨bc, 0, none⟩)) ∧ w4.cell? ⟨bg, 3, none⟩ = some (.int .i64 g.root) := ⟨hu4.cell hc2 hne, hu4.cell hc3 hne⟩))
    rw [HS.out] at hc4
    have HC4 : Hid (CaL w4 bc (shows g.m (flt (isAt g.root ((k : Int) / 16)) g.c))) := hc4
    have HU4 : Hid _ := hu4
    clear hc4 hu4 h4c
    go_wp2_with fail
    go_ret
    exact ⟨rfl, HHd.out.setC HU4.out HC4.out HI.out HD.out, (Upd.refl (GFt bg bf bl bc) w1).drew.trans HU4.out (fun _ _ e => by unfold GFt; omega)⟩
theorem GG.forgetAll (h : GG w bg bp bf bl bc s g b W) (n : Int) : Calls Tryz.prog 44 #[.pointer (some ⟨bg, 0, none⟩), .int .i64 n] w (GPost w bg bp bf bl bc (onS s (gForgetAll g n)) b W) := by
  cases ho : onB n with
  | false =>
    have hr : gForgetAll g n = (1, g) := by unfold gForgetAll; rw [ho]; rfl
    rw [hr]
    have HA : Hid _ := isPage_any w n false ho
    have HH : Hid (GG w bg bp bf bl bc s g b W) := h
    clear h hr ho
    go_enter Tryz.func44, Tryz.ntmps44
    go_wp2_with (go_at_call 63; refine Calls.mono HA.out ?_; rintro e w1 ⟨rfl, rfl⟩)
    go_ret
    exact ⟨rfl, HH.out, Upd.refl _ _⟩
  | true =>
    have hr : gForgetAll g n = (0, { g with c := flt (fun x => x.root == n) g.c }) := by
      unfold gForgetAll
      rw [ho, keep_forget]
      rfl
    have hi : GInv s (gForgetAll g n).2 b W := h.inv.forgetAll n
    have hd : Dist (gForgetAll g n).2.c := forgetAll_dist h.di n
    rw [hr] at hi hd ⊢
    have HI : Hid _ := hi
    have HD : Hid (Dist (flt (fun x => x.root == n) g.c)) := hd
    have HA : Hid _ := isPage_any w n true ho
    have HS : Hid _ := shows_flt g.m g.c (fun x => x.root == n) (fun e => rfl)
    have HH : Hid (GG w bg bp bf bl bc s g b W) := h
    have hc2 := h.ce.c2
    have HK : Hid _ := kForget_any w bc (shows g.m g.c) n h.ca
    clear h hr hi hd ho
    go_enter Tryz.func44, Tryz.ntmps44
    go_wp2_with (go_at_call 63; refine Calls.mono HA.out ?_; rintro e w1 ⟨rfl, rfl⟩)
    refine Calls.mono HK.out ?_
    rintro e w4 ⟨rfl, hc4, hu4⟩
    rw [HS.out] at hc4
    have HC4 : Hid (CaL w4 bc (shows g.m (flt (fun x => x.root == n) g.c))) := hc4
    have HU4 : Hid _ := hu4
    clear hc4 hu4
    go_wp2_with fail
    go_ret
    exact ⟨rfl, HH.out.setC HU4.out HC4.out HI.out HD.out, HU4.out.wide (fun _ e => by unfold GFt; omega)⟩
theorem GG.setRoot (h : GG w bg bp bf bl bc s g b W) (n : Int) : Calls Tryz.prog 42 #[.pointer (some ⟨bg, 0, none⟩), .int .i64 n] w (GPost w bg bp bf bl bc (onS s (gRoot g n)) b W) := by
  have hi : GInv s (gRoot g n).2 b W := h.inv.root n
  have ok : (gRoot g n) = (0, { g with root := n }) → GG (w.setCell ⟨bg, 3, none⟩ (.int .i64 n)) bg bp bf bl bc s { g with root := n } b W := fun e => by
    rw [e] at hi
    have ha := h.ap
    unfold GAp at ha
    have u := Upd.one w bg 3 (.int .i64 n)
    exact ⟨h.ce.setRoot n, h.pool.upd u (by omega) (by omega) (h.pool.lt h.hn), h.lv.upd u (by omega), h.ca.upd u (by omega), h.ap, hi, h.di, h.hn⟩
  have c3 := h.ce.c3
  have z3 := h.ce.fz 3
  by_cases h1 : n = -1
  · subst h1
    have hr : gRoot g (-1) = (0, { g with root := -1 }) := by unfold gRoot; rw [if_neg (by omega)]
    have HK : Hid _ := ok hr
    rw [hr]
    clear ok hi h hr
    go_enter Tryz.func42, Tryz.ntmps42
    go_wp2_with fail
    go_ret
    exact ⟨rfl, HK.out, (Upd.one w bg 3 _).wide (fun _ e => by unfold GFt; omega)⟩
  · have b1 : (n != -1) = true := by simp; exact h1
    cases ho : onB n with
    | true =>
      obtain ⟨q0, q1⟩ := (onB_iff n).1 ho
      have hr : gRoot g n = (0, { g with root := n }) := by unfold gRoot; rw [if_neg (by omega)]
      have HK : Hid _ := ok hr
      have HA : Hid _ := isPage_any w n true ho
      rw [hr]
      clear ok hi h hr ho h1
      go_enter Tryz.func42, Tryz.ntmps42
      go_wp2_with (go_at_call 63; refine Calls.mono HA.out ?_; rintro e w1 ⟨rfl, rfl⟩)
      go_ret
      exact ⟨rfl, HK.out, (Upd.one _ bg 3 _).wide (fun _ e => by unfold GFt; omega)⟩
    | false =>
      have hr : gRoot g n = (1, g) := by unfold gRoot; rw [if_pos (by have := (onB_no n).1 ho; omega)]
      have HA : Hid _ := isPage_any w n false ho
      have HK : Hid (GG w bg bp bf bl bc s g b W) := h
      rw [hr]
      clear ok hi h hr ho h1
      go_enter Tryz.func42, Tryz.ntmps42
      go_wp2_with (go_at_call 63; refine Calls.mono HA.out ?_; rintro e w1 ⟨rfl, rfl⟩)
      go_ret
      exact ⟨rfl, HK.out, Upd.refl _ _⟩
end Go.Proofs.YtadpibcgjgcjhabGreat
