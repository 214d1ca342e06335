/- Package guest: how a guest lies in memory; what changes a page. -/
import Derived.Test.YtadpibcgjgcjhabGreatDoorGgP
import Derived.Test.YtadpibcgjgcjhabGreatDoorCkG
namespace Go.Proofs.YtadpibcgjgcjhabGreatDoor
open Go.ChangeShapes Go.WideShapes Go.ChangeAt Go.RowKit
set_option maxRecDepth 100000
attribute [local go_sem ↓] Go.wp_at_zero Go.wp_at_succ

/-- A guest's own cells: its block bg, its pool bp, its pages bl, its cache bc. -/
structure GCell (w : World) (bg bp bl bc : Nat) (root walks : Int) : Prop where
  c0 : w.cell? ⟨bg, 0, none⟩ = some (.pointer (some ⟨bp, 0, none⟩))
  c1 : w.cell? ⟨bg, 1, none⟩ = some (.pointer (some ⟨bl, 0, none⟩))
  c2 : w.cell? ⟨bg, 2, none⟩ = some (.pointer (some ⟨bc, 0, none⟩))
  c3 : w.cell? ⟨bg, 3, none⟩ = some (.int .i64 root)
  c4 : w.cell? ⟨bg, 4, none⟩ = some (.int .i64 walks)
  fz : ∀ o, w.frozen? ⟨bg, o, none⟩ = false
theorem GCell.lt {w : World} {bg bp bl bc : Nat} {r k : Int} (h : GCell w bg bp bl bc r k) : bg < w.heap.size := World.block_lt_of_cell? w _ h.c0
theorem GCell.upd {S : Nat → Prop} {w w' : World} {bg bp bl bc : Nat} {r k : Int} (h : GCell w bg bp bl bc r k) (u : Upd S w w') (hx : ¬ S bg) : GCell w' bg bp bl bc r k :=
  ⟨u.cell h.c0 hx, u.cell h.c1 hx, u.cell h.c2 hx, u.cell h.c3 hx, u.cell h.c4 hx, fun o => by rw [World.frozen?_of_block (w := w) (u.block bg h.lt hx)]; exact h.fz o⟩
theorem GCell.setRoot {w : World} {bg bp bl bc : Nat} {r k : Int} (h : GCell w bg bp bl bc r k) (n : Int) : GCell (w.setCell ⟨bg, 3, none⟩ (.int .i64 n)) bg bp bl bc n k := by
  refine ⟨?_, ?_, ?_, World.cell?_setCell_same _ _ _ h.c3, ?_, fun o => by rw [World.frozen?_setCell]; exact h.fz o⟩
  all_goals rw [World.cell?_setCell_other _ _ _ _ (addr_ne (Or.inr (by omega)))]
  · exact h.c0
  · exact h.c1
  · exact h.c2
  · exact h.c4
theorem GCell.setWalks {w : World} {bg bp bl bc : Nat} {r k : Int} (h : GCell w bg bp bl bc r k) (n : Int) : GCell (w.setCell ⟨bg, 4, none⟩ (.int .i64 n)) bg bp bl bc r n := by
  refine ⟨?_, ?_, ?_, ?_, World.cell?_setCell_same _ _ _ h.c4, fun o => by rw [World.frozen?_setCell]; exact h.fz o⟩
  all_goals rw [World.cell?_setCell_other _ _ _ _ (addr_ne (Or.inr (by omega)))]
  · exact h.c0
  · exact h.c1
  · exact h.c2
  · exact h.c3

/-- A page is changed: by a method value, or by a closure. -/
def ByOk (w : World) (bp bf bl : Nat) (f : Nat) (av : Array Value) (code : Int) (s' : Pl) (m' : Mp) (S : Nat → Prop) (R : World → Prop) : Prop :=
  Calls Tryz.prog f av w fun e w1 => e = .returned (errV code) ∧ PoolAt w1 bp bf s' ∧ LvAt w1 bl bp m' ∧ R w1 ∧ Upd S w w1
/-- What a change ends with. -/
def ChPost (w : World) (bp bf bl bc : Nat) (code : Int) (s' : Pl) (m' : Mp) (c : List En) (S : Nat → Prop) (R : World → Prop) (e : Ending) (w' : World) : Prop :=
  e = .returned (errV code) ∧ PoolAt w' bp bf s' ∧ LvAt w' bl bp m' ∧ CaL w' bc (shows m' c) ∧ R w' ∧ Upd (fun k => S k ∨ k = bc) w w'
/-- The blocks of a guest are apart. -/
def GAp (bg bp bf bl bc : Nat) : Prop := bg ≠ bp ∧ bg ≠ bf ∧ bg ≠ bl ∧ bg ≠ bc ∧ bl ≠ bp ∧ bl ≠ bf ∧ bl ≠ bc ∧ bc ≠ bp ∧ bc ≠ bf ∧ bp ≠ bf
theorem gLeaf_on (w : World) (bl bp k : Nat) (m : Mp) (h : LvAt w bl bp m) (hk : k < 16) :
    Calls Tryz.prog 144 #[.pointer (some ⟨bl, 0, none⟩), .int .i64 k] w fun e w' => e = .returned (.tuple #[.agg #[.bool (m.lf k).there, .bool (m.lf k).wr, .int .i64 (m.lf k).fr], .nilIface]) ∧ Upd (fun _ => False) w w' := by
  have e1 : onB (k : Int) = true := by simp [onB]; omega
  have e2 : lfR m (k : Int) = (m.lf k, 0) := by simp [lfR, e1]
  have := lvLeaf w bl bp k m h
  rwa [e2, errV_zero] at this

theorem change_any (w : World) (bg bp bf bl bc : Nat) (n r k : Int) (f : Nat) (bd lb : Array Value) (code : Int) (s' : Pl) (m m' : Mp) (c : List En) (S : Nat → Prop) (R : World → Prop) (h : GCell w bg bp bl bc r k) (hc : CaL w bc (shows m c)) (ha : GAp bg bp bf bl bc)
    (eg : ∀ args w, (callFunc f args).run Tryz.prog w = .ok (.enter f args) w) (hby : ByOk w bp bf bl f (bd.push (.int .i64 n) ++ lb) code s' m' S R) (hSg : ¬ S bg) (hSc : ¬ S bc) (hlf : ∀ k, k ≠ n.toNat → m'.lf k = m.lf k) (hno : code ≠ 0 → m' = m) (hon : code = 0 → onB n = true) (hen : ∀ x ∈ c, 0 ≤ x.dest) (hn : 0 < s'.n)
    (hR : ∀ w1 w2, R w1 → Upd (fun k => k = bc) w1 w2 → R w2) :
    Calls Tryz.prog 115 #[.pointer (some ⟨bg, 0, none⟩), .int .i64 n, .func (.func f) bd lb] w (ChPost w bp bf bl bc code s' m' c S R) := by
  have HC : Hid (CaL w bc (shows m c)) := hc
  have HH : Hid _ := h
  have HA : Hid (GAp bg bp bf bl bc) := ha
  have HR : Hid _ := hR
  have HS : Hid (¬ S bg ∧ ¬ S bc) := ⟨hSg, hSc⟩
  unfold ByOk at hby
  clear hc h ha hR hSg hSc
  by_cases h0 : code = 0
  · subst h0
    rw [errV_zero] at hby
    have HBY : Hid _ := hby
    have ho := hon rfl
    obtain ⟨q0, q1⟩ := (onB_iff n).1 ho
    obtain ⟨j, rfl⟩ := Int.eq_ofNat_of_zero_le q0
    have hj : j < 16 := by omega
    have HLF : Hid _ := hlf
    have HEN : Hid _ := hen
    clear ho hon hno q0 q1 hlf hen hby
    go_enter Tryz.func115, Tryz.ntmps115
    go_wp2_with (go_at_fn f; refine Calls.mono HBY.out ?_; rintro e w1 ⟨rfl, hp1, hl1, hr1, hu1⟩; have g1 := (HH.out.upd hu1 HS.out.1).c1; have HL1 : Hid _ := hl1; have HP1 : Hid _ := hp1; have HR1 : Hid _ := hr1; have HU1 : Hid _ := hu1; clear hl1 hp1 hr1 hu1)
    refine (gLeaf_on w1 bl bp j m' HL1.out hj).mono ?_
    rintro e w2 ⟨rfl, hu2⟩
    have hla := LfAt.new w2 92 (m'.lf j)
    have hu3 := hu2.alloc (.cells #[.bool (m'.lf j).there, .bool (m'.lf j).wr, .int .i64 (m'.lf j).fr] 92)
    have hz : bc < w2.heap.size := Nat.lt_of_lt_of_le HC.out.lt (Nat.le_trans HU1.out.size hu2.size)
    clear g1 hu2
    go_wp2_with fail
    revert hla hu3 hz
    generalize w2.alloc (.cells #[.bool (m'.lf j).there, .bool (m'.lf j).wr, .int .i64 (m'.lf j).fr] 92) = w3
    generalize w2.heap.size = q
    intro hla hu3 hz
    have hu13 := HU1.out.trans (T := fun _ => False) hu3 (fun _ _ f => f.elim)
    have g2 := (HH.out.upd hu13 HS.out.1).c2
    have HC3 : Hid (CaL w3 bc (shows m c)) := HC.out.upd hu13 HS.out.2
    have HU3 : Hid _ := hu3
    have HU13 : Hid _ := hu13
    obtain ⟨y0, y1, y2⟩ := hla
    have nq : ¬ q = bc := by omega
    clear hu3 hu13
    go_region_held3 (fun w' => w'.cell? ⟨bg, 2, none⟩ = some (.pointer (some ⟨bc, 0, none⟩)) ∧ w'.cell? ⟨q, 0, none⟩ = some (.bool (m'.lf j).there) ∧ w'.cell? ⟨q, 1, none⟩ = some (.bool (m'.lf j).wr) ∧ w'.cell? ⟨q, 2, none⟩ = some (.int .i64 (m'.lf j).fr)) (first | exact ⟨g2, y0, y1, y2⟩ | exact h4c)
      ((go_at_call 146; refine (kPoint_any _ bc (shows m c) (j : Int) (m'.lf j) (by first | exact HC3.out | exact HC3.out.upd (Upd.refl (fun _ => False) w3).drew (fun f => f))).mono ?_; rintro e w4 ⟨rfl, hc4, hu4⟩; have h4c : w4.cell? ⟨bg, 2, none⟩ = some (.pointer (some ⟨bc, 0, none⟩)) ∧ w4.cell? ⟨q, 0, none⟩ = some (.bool (m'.lf j).there) ∧ w4.cell? ⟨q, 1, none⟩ = some (.bool (m'.lf j).wr) ∧ w4.cell? ⟨q, 2, none⟩ = some (.int .i64 (m'.lf j).fr) := ⟨hu4.cell g2 (fun e => HA.out.2.2.2.1 e), hu4.cell y0 nq, hu4.cell y1 nq, hu4.cell y2 nq⟩))
    have hu4' : Upd (fun k => k = bc) w1 w4 := ((HU3.out.wide (T := fun k => k = bc) (fun _ f => f.elim)).drew).trans hu4 (fun _ _ e => e)
    have hpt := shows_point m m' c j (fun k hk => HLF.out k (by simpa using hk)) HEN.out
    rw [hpt] at hc4
    have HC4 : Hid (CaL w4 bc (shows m' c)) := hc4
    have HU4 : Hid _ := hu4'
    clear hc4 hu4 hu4' hpt h4c g2 y0 y1 y2
    go_wp2_with fail
    go_ret
    have d := HA.out
    unfold GAp at d
    have hlt : bf < w1.heap.size := HP1.out.lt hn
    exact ⟨by rw [errV_zero]; rfl, HP1.out.upd HU4.out (fun e => by omega) (fun e => by omega) hlt, HL1.out.upd HU4.out (fun e => by omega), HC4.out, HR.out _ _ HR1.out HU4.out, (HU1.out.wide (T := fun k => S k ∨ k = bc) (fun _ e => Or.inl e)).trans HU4.out (fun _ _ e => Or.inr e)⟩
  · have hb := hno h0
    subst hb
    have he : errV code = .iface 37 (.int .i64 code) := by simp [errV, h0]
    unfold ChPost
    rw [he] at hby ⊢
    have HBY : Hid _ := hby
    clear hby hno hon hlf hen he
    go_enter Tryz.func115, Tryz.ntmps115
    go_wp2_with (go_at_fn f; refine Calls.mono HBY.out ?_; rintro e w1 ⟨rfl, hp1, hl1, hr1, hu1⟩)
    go_ret
    exact ⟨rfl, hp1, hl1, HC.out.upd hu1 HS.out.2, hr1, hu1.wide (fun _ e => Or.inl e)⟩
end Go.Proofs.YtadpibcgjgcjhabGreatDoor
