/- Package cache: remove, Drop, Forget, Find. -/
import Derived.Test.YtadpibcgjgcjhabGreatPart04
namespace Go.Proofs.YtadpibcgjgcjhabGreat
open Go.ChangeShapes Go.WideShapes Go.ChangeAt Go.RowKit
set_option maxRecDepth 100000
attribute [local go_sem ↓] Go.wp_at_zero Go.wp_at_succ

theorem CaL.upd {S : Nat → Prop} {w w' : World} {b : Nat} {es : List En} (h : CaL w b es) (u : Upd S w w') (hb : ¬ S b) : CaL w' b es := by
  obtain ⟨c, h1, h2⟩ := h
  exact ⟨c, h1.upd u hb, h2⟩
theorem CaL.lt {w : World} {b : Nat} {es : List En} (h : CaL w b es) : b < w.heap.size := by
  obtain ⟨c, h1, h2⟩ := h
  exact h1.lt
theorem CaL.le {w : World} {b : Nat} {es : List En} (h : CaL w b es) : es.length ≤ 4 := by
  obtain ⟨c, h1, h2⟩ := h
  exact h1.le
theorem enters91 : ∀ args w, (callFunc 97 args).run Tryz.prog w = .ok (.enter 97 args) w := enters_of Tryz.func97 (by kernel_rfl) rfl
theorem enters87 : ∀ args w, (callFunc 85 args).run Tryz.prog w = .ok (.enter 85 args) w := enters_of Tryz.func85 (by kernel_rfl) rfl
theorem kOf_pred (w : World) (b : Nat) (hb : b < w.heap.size) (r p : Int) :
    Calls Tryz.prog 84 #[.int .i64 r, .int .i64 p] w fun e w' => ∃ lb, e = .returned (.func (.func 97) #[] lb) ∧ PredOn b w' 97 lb (isAt r p) ∧ Upd (fun _ => False) w w' := by
  refine (kOf_any w r p).mono ?_
  rintro e w' ⟨rfl, rfl⟩
  refine ⟨_, rfl, fun W x hu => ?_, ((Upd.refl _ _).alloc _).alloc _⟩
  have c1 : ((w.alloc (.cells #[.int .i64 r] 3)).alloc (.cells #[.int .i64 p] 3)).cell? ⟨w.heap.size, 0, none⟩ = some (.int .i64 r) := by
    rw [World.cell?_alloc_old _ _ _ (by simp), World.cell?_alloc_new]; rfl
  have c2 : ((w.alloc (.cells #[.int .i64 r] 3)).alloc (.cells #[.int .i64 p] 3)).cell? ⟨w.heap.size + 1, 0, none⟩ = some (.int .i64 p) := by
    have := World.cell?_alloc_new (w.alloc (.cells #[.int .i64 r] 3)) #[.int .i64 p] 3 0
    simp only [World.size_alloc] at this
    rw [this]; rfl
  exact kOf1_any W _ _ r p x (hu.cell c1 (by simp only; omega)) (hu.cell c2 (by simp only; omega))
theorem kRemove_any (w : World) (b : Nat) (es : List En) (g : Nat) (lb : Array Value) (p : En → Bool) (h : CaL w b es) (hp : PredOn b w g lb p) (eg : ∀ args w, (callFunc g args).run Tryz.prog w = .ok (.enter g args) w) :
    Calls Tryz.prog 83 #[.pointer (some ⟨b, 0, none⟩), .func (.func g) #[] lb] w fun e w' => e = .returned (.int .i64 ((es.length - (flt p es).length : Nat) : Int)) ∧ CaL w' b (flt p es) ∧ Upd (fun k => k = b) w w' := by
  obtain ⟨cur, h, hes⟩ := h
  have hc := h.cnt
  have hle := h.le
  have hfl := flt_length p es
  have HH : Hid _ := h
  have HE : Hid _ := hes
  have HP : Hid (PredOn b w g lb p) := hp
  clear h hes hp
  go_enter Tryz.func83, Tryz.ntmps83
  go_wp2_with fail
  refine (kLive_any w b cur es.length HH.out).mono ?_
  rintro e w1 ⟨rfl, m, rfl⟩
  have hu1 := (Upd.refl (fun _ => False) w).drewN m
  have HA : Hid _ := HH.out.upd hu1 (fun f => f)
  have HP1 : Hid (PredOn b (w.drewN m) g lb p) := PredOn.trans HP.out hu1.free
  have HU1 : Hid _ := hu1
  clear hu1
  go_wp2_with fail
  refine (kDelete_any _ b cur es g lb p HA.out HE.out HP1.out eg).mono ?_
  rintro e w2 ⟨rfl, hu2, c, hc2, hl2⟩
  have d0 := hc2.cnt
  have dz := hc2.fz 28
  have HC2 : Hid _ := hc2
  have HL2 : Hid _ := hl2
  have HU2 : Hid _ := HU1.out.free.trans hu2 (fun _ _ e => e)
  clear hc hc2 hl2 hu2 HP HP1 HA HH HE HU1
  generalize hm : (flt p es).length = k at hfl
  have HM : Hid _ := hm
  clear hm
  go_wp2_with fail
  go_ret
  refine ⟨?_, ⟨c, by rw [HM.out]; exact HC2.out.setCnt k (by omega), fun i hi => HL2.out i hi⟩, HU2.out.trans (Upd.one _ _ _ _) (fun _ _ e => e)⟩
  show Ending.returned (Value.int .i64 _) = _
  congr 2
  rw [HM.out]; omega
theorem kDrop_any (w : World) (b : Nat) (es : List En) (r p : Int) (h : CaL w b es) :
    Calls Tryz.prog 65 #[.pointer (some ⟨b, 0, none⟩), .int .i64 r, .int .i64 p] w fun e w' => e = .returned (.bool (decide ((0 : Int) < ((es.length - (flt (isAt r p) es).length : Nat) : Int)))) ∧ CaL w' b (flt (isAt r p) es) ∧ Upd (fun k => k = b) w w' := by
  have HH : Hid (CaL w b es) := h
  clear h
  go_enter Tryz.func65, Tryz.ntmps65
  go_wp2_with fail
  refine (kOf_pred w b HH.out.lt r p).mono ?_
  rintro e w1 ⟨lb, rfl, hp, hu1⟩
  have HP : Hid (PredOn b w1 97 lb (isAt r p)) := hp
  have HU1 : Hid _ := hu1
  clear hp hu1
  go_wp2_with fail
  refine (kRemove_any w1 b es _ lb _ (HH.out.upd HU1.out (fun f => f)) HP.out enters91).mono ?_
  rintro e w2 ⟨rfl, hc2, hu2⟩
  have HC2 : Hid (CaL w2 b (flt (isAt r p) es)) := hc2
  have HU2 : Hid _ := HU1.out.free.trans hu2 (fun _ _ e => e)
  clear hc2 hu2
  generalize hk : es.length - (flt (isAt r p) es).length = k
  have HK : Hid _ := hk
  clear hk
  go_wp2_with fail
  go_ret
  exact ⟨by rw [HK.out]; first | rfl | simp, HC2.out, HU2.out⟩
theorem kForget_any (w : World) (b : Nat) (es : List En) (r : Int) (h : CaL w b es) :
    Calls Tryz.prog 66 #[.pointer (some ⟨b, 0, none⟩), .int .i64 r] w fun e w' => e = .returned (.int .i64 ((es.length - (flt (fun x => x.root == r) es).length : Nat) : Int)) ∧ CaL w' b (flt (fun x => x.root == r) es) ∧ Upd (fun k => k = b) w w' := by
  have hlt := h.lt
  have hu1 := (Upd.refl (fun _ => False) w).alloc (.cells #[.int .i64 r] 3)
  have c1 : (w.alloc (.cells #[.int .i64 r] 3)).cell? ⟨w.heap.size, 0, none⟩ = some (.int .i64 r) := by
    rw [World.cell?_alloc_new]; rfl
  have hp : PredOn b (w.alloc (.cells #[.int .i64 r] 3)) 85 #[.pointer (some ⟨w.heap.size, 0, none⟩)] (fun x => x.root == r) := fun W x hu => kForget1_any W _ r x (hu.cell c1 (by simp only; omega))
  have HC : Hid _ := kRemove_any _ b es _ _ _ (h.upd hu1 (fun f => f)) hp enters87
  have HU1 : Hid _ := hu1
  clear h hu1 c1 hp
  go_enter Tryz.func66, Tryz.ntmps66
  go_wp2_with fail
  refine Calls.mono HC.out ?_
  rintro e w2 ⟨rfl, hc2, hu2⟩
  have HC2 : Hid (CaL w2 b (flt (fun x => x.root == r) es)) := hc2
  have HU2 : Hid _ := HU1.out.free.trans hu2 (fun _ _ e => e)
  clear hc2 hu2 HC HU1
  generalize hk : es.length - (flt (fun x => x.root == r) es).length = k
  have HK : Hid _ := hk
  clear hk
  go_wp2_with fail
  go_ret
  exact ⟨by rw [HK.out]; rfl, HC2.out, HU2.out⟩
theorem kFind_yes (w : World) (b : Nat) (es : List En) (r p : Int) (h : CaL w b es) (k : Nat) (hk : k < es.length) (hi : idxP (isAt r p) es = k) :
    Calls Tryz.prog 92 #[.pointer (some ⟨b, 0, none⟩), .int .i64 r, .int .i64 p] w fun e w' => e = .returned (.tuple #[.agg #[.int .i64 (atE es k).root, .int .i64 (atE es k).page, .int .i64 (atE es k).dest, .bool (atE es k).may, .bool (atE es k).lf.there, .bool (atE es k).lf.wr, .int .i64 (atE es k).lf.fr], .bool true]) ∧ Upd (fun _ => False) w w' := by
  obtain ⟨cur, h, hes⟩ := h
  have hle := h.le
  have hu0 := (Upd.refl (fun _ => False) w).alloc (.cells #[.int .i64 0, .int .i64 0, .int .i64 0, .bool false, .bool false, .bool false, .int .i64 0] 94)
  have HA0 : Hid _ := h.upd hu0 (fun f => f)
  have hz : ∀ j, (w.alloc (.cells #[.int .i64 0, .int .i64 0, .int .i64 0, .bool false, .bool false, .bool false, .int .i64 0] 94)).cell? ⟨w.heap.size, j, none⟩ = (enCells en0)[j]? := fun j => by
    rw [World.cell?_alloc_new]
    show (enCells en0).toArray[j]? = _
    simp
  have hzf : ∀ j, (w.alloc (.cells #[.int .i64 0, .int .i64 0, .int .i64 0, .bool false, .bool false, .bool false, .int .i64 0] 94)).frozen? ⟨w.heap.size, j, none⟩ = false := fun j => World.frozen?_alloc_new _ _ _ _
  have HZ : Hid _ := hz
  have HZF : Hid _ := hzf
  have HU0 : Hid _ := hu0
  have HE : Hid _ := hes
  have HI : Hid _ := hi
  have hsz : (w.alloc (.cells #[.int .i64 0, .int .i64 0, .int .i64 0, .bool false, .bool false, .bool false, .int .i64 0] 94)).heap.size = w.heap.size + 1 := by simp
  have HSZ : Hid _ := hsz
  clear h hes hu0 hi hsz hz hzf
  go_enter Tryz.func92, Tryz.ntmps92
  go_wp2_with fail
  refine (kLive_any _ b cur es.length HA0.out).mono ?_
  rintro e w1 ⟨rfl, m, rfl⟩
  have hu1 := HU0.out.drewN m
  have HU1 : Hid _ := hu1
  have HA1 : Hid _ := HA0.out.upd ((Upd.refl (fun _ => False) _).drewN m) (fun f => f)
  clear hu1
  go_wp2_with fail
  refine (kOf_pred _ b HA1.out.lt r p).mono ?_
  rintro e w2 ⟨lb, rfl, hp, hu2⟩
  have HP : Hid (PredOn b w2 97 lb (isAt r p)) := hp
  have HU2 : Hid _ := hu2
  clear hp hu2
  go_wp2_with fail
  refine (kIndex_any w2 b cur es _ lb _ (HA1.out.upd HU2.out (fun f => f)) HE.out HP.out enters91).mono ?_
  rintro e w3 ⟨rfl, hu3⟩
  have hu4 := ((Upd.refl (fun _ => False) (w.alloc (.cells #[.int .i64 0, .int .i64 0, .int .i64 0, .bool false, .bool false, .bool false, .int .i64 0] 94))).drewN m).trans (HU2.out.trans hu3 (fun _ _ f => f)) (fun _ _ f => f)
  have HU4 : Hid _ := hu4
  have q0 := hu4.cell (show _ = some (.int .i64 0) from HZ.out 0) (fun f => f)
  have q1 := hu4.cell (show _ = some (.int .i64 0) from HZ.out 1) (fun f => f)
  have q2 := hu4.cell (show _ = some (.int .i64 0) from HZ.out 2) (fun f => f)
  have q3 := hu4.cell (show _ = some (.bool false) from HZ.out 3) (fun f => f)
  have q4 := hu4.cell (show _ = some (.bool false) from HZ.out 4) (fun f => f)
  have q5 := hu4.cell (show _ = some (.bool false) from HZ.out 5) (fun f => f)
  have q6 := hu4.cell (show _ = some (.int .i64 0) from HZ.out 6) (fun f => f)
  have qf : ∀ j, w3.frozen? ⟨w.heap.size, j, none⟩ = false := fun j => by rw [World.frozen?_of_block (hu4.block w.heap.size (by rw [HSZ.out]; omega) (fun f => f))]; exact HZF.out j
  have hA4 := HA0.out.upd hu4 (fun f => f)
  have ek := HE.out k hk
  have c0 : w3.cell? ⟨b, k * 7, none⟩ = some (.int .i64 (atE es k).root) := by have := hA4.cells k 0 (by omega) (by omega); rw [ek] at this; exact this
  have c1 : w3.cell? ⟨b, k * 7 + 1, none⟩ = some (.int .i64 (atE es k).page) := by have := hA4.cells k 1 (by omega) (by omega); rw [ek] at this; exact this
  have c2 : w3.cell? ⟨b, k * 7 + 2, none⟩ = some (.int .i64 (atE es k).dest) := by have := hA4.cells k 2 (by omega) (by omega); rw [ek] at this; exact this
  have c3 : w3.cell? ⟨b, k * 7 + 3, none⟩ = some (.bool (atE es k).may) := by have := hA4.cells k 3 (by omega) (by omega); rw [ek] at this; exact this
  have c4 : w3.cell? ⟨b, k * 7 + 4, none⟩ = some (.bool (atE es k).lf.there) := by have := hA4.cells k 4 (by omega) (by omega); rw [ek] at this; exact this
  have c5 : w3.cell? ⟨b, k * 7 + 5, none⟩ = some (.bool (atE es k).lf.wr) := by have := hA4.cells k 5 (by omega) (by omega); rw [ek] at this; exact this
  have c6 : w3.cell? ⟨b, k * 7 + 6, none⟩ = some (.int .i64 (atE es k).lf.fr) := by have := hA4.cells k 6 (by omega) (by omega); rw [ek] at this; exact this
  have kk0 : (0 : Int) ≤ (k : Int) := by omega
  have kk4 : (k : Int) < 4 := by omega
  have kn : decide ((k : Int) < 0) = false := by simp
  rw [HI.out]
  generalize hx : atE es k = x at *
  have HX : Hid _ := hx
  clear hx hu4 hA4 ek hu3 HP HU2 HA1 HU1 HE HI HSZ HZ HZF HA0
  go_wp2_with fail
  refine bodyPost_ret (v := .tuple #[.agg #[.int .i64 x.root, .int .i64 x.page, .int .i64 x.dest, .bool x.may, .bool x.lf.there, .bool x.lf.wr, .int .i64 x.lf.fr], .bool true]) (by simp [results, Tryz.results92, go_sem, q0, q1, q2, q3, q4, q5, q6]) rfl ⟨by rw [HX.out], ?_⟩
  have := HU0.out.trans HU4.out (fun _ _ f => f)
  refine this.trans (T := fun k => k = w.heap.size) (Upd.row w3 w.heap.size 0 (enCells x)) (fun i hi e => by subst e; omega)
end Go.Proofs.YtadpibcgjgcjhabGreat
/- Package cache: Find of what isn't there, Copy, Put, Point. -/
namespace Go.Proofs.YtadpibcgjgcjhabGreat
open Go.ChangeShapes Go.WideShapes Go.ChangeAt Go.RowKit
set_option maxRecDepth 100000
attribute [local go_sem ↓] Go.wp_at_zero Go.wp_at_succ

theorem kFind_no (w : World) (b : Nat) (es : List En) (r p : Int) (h : CaL w b es) (hi : idxP (isAt r p) es = -1) :
    Calls Tryz.prog 92 #[.pointer (some ⟨b, 0, none⟩), .int .i64 r, .int .i64 p] w fun e w' => e = .returned (.tuple #[.agg #[.int .i64 0, .int .i64 0, .int .i64 0, .bool false, .bool false, .bool false, .int .i64 0], .bool false]) ∧ Upd (fun _ => False) w w' := by
  obtain ⟨cur, h, hes⟩ := h
  have hle := h.le
  have hu0 := (Upd.refl (fun _ => False) w).alloc (.cells #[.int .i64 0, .int .i64 0, .int .i64 0, .bool false, .bool false, .bool false, .int .i64 0] 94)
  have HA0 : Hid _ := h.upd hu0 (fun f => f)
  have hz : ∀ j, (w.alloc (.cells #[.int .i64 0, .int .i64 0, .int .i64 0, .bool false, .bool false, .bool false, .int .i64 0] 94)).cell? ⟨w.heap.size, j, none⟩ = (enCells en0)[j]? := fun j => by
    rw [World.cell?_alloc_new]
    show (enCells en0).toArray[j]? = _
    simp
  have hzf : ∀ j, (w.alloc (.cells #[.int .i64 0, .int .i64 0, .int .i64 0, .bool false, .bool false, .bool false, .int .i64 0] 94)).frozen? ⟨w.heap.size, j, none⟩ = false := fun j => World.frozen?_alloc_new _ _ _ _
  have HZ : Hid _ := hz
  have HZF : Hid _ := hzf
  have HU0 : Hid _ := hu0
  have HE : Hid _ := hes
  have HI : Hid _ := hi
  have hsz : (w.alloc (.cells #[.int .i64 0, .int .i64 0, .int .i64 0, .bool false, .bool false, .bool false, .int .i64 0] 94)).heap.size = w.heap.size + 1 := by simp
  have HSZ : Hid _ := hsz
  clear h hes hu0 hi hsz hz hzf
  go_enter Tryz.func92, Tryz.ntmps92
  go_wp2_with fail
  refine (kLive_any _ b cur es.length HA0.out).mono ?_
  rintro e w1 ⟨rfl, m, rfl⟩
  have hu1 := HU0.out.drewN m
  have HU1 : Hid _ := hu1
  have HA1 : Hid _ := HA0.out.upd ((Upd.refl (fun _ => False) _).drewN m) (fun f => f)
  clear hu1
  go_wp2_with fail
  refine (kOf_pred _ b HA1.out.lt r p).mono ?_
  rintro e w2 ⟨lb, rfl, hp, hu2⟩
  have HP : Hid (PredOn b w2 97 lb (isAt r p)) := hp
  have HU2 : Hid _ := hu2
  clear hp hu2
  go_wp2_with fail
  refine (kIndex_any w2 b cur es _ lb _ (HA1.out.upd HU2.out (fun f => f)) HE.out HP.out enters91).mono ?_
  rintro e w3 ⟨rfl, hu3⟩
  have hu4 := ((Upd.refl (fun _ => False) (w.alloc (.cells #[.int .i64 0, .int .i64 0, .int .i64 0, .bool false, .bool false, .bool false, .int .i64 0] 94))).drewN m).trans (HU2.out.trans hu3 (fun _ _ f => f)) (fun _ _ f => f)
  have HU4 : Hid _ := hu4
  have q0 := hu4.cell (show _ = some (.int .i64 0) from HZ.out 0) (fun f => f)
  have q1 := hu4.cell (show _ = some (.int .i64 0) from HZ.out 1) (fun f => f)
  have q2 := hu4.cell (show _ = some (.int .i64 0) from HZ.out 2) (fun f => f)
  have q3 := hu4.cell (show _ = some (.bool false) from HZ.out 3) (fun f => f)
  have q4 := hu4.cell (show _ = some (.bool false) from HZ.out 4) (fun f => f)
  have q5 := hu4.cell (show _ = some (.bool false) from HZ.out 5) (fun f => f)
  have q6 := hu4.cell (show _ = some (.int .i64 0) from HZ.out 6) (fun f => f)
  have qf : ∀ j, w3.frozen? ⟨w.heap.size, j, none⟩ = false := fun j => by rw [World.frozen?_of_block (hu4.block w.heap.size (by rw [HSZ.out]; omega) (fun f => f))]; exact HZF.out j
  rw [HI.out]
  clear hu4 hu3 HP HU2 HA1 HU1 HE HI HSZ HZ HZF HA0
  go_wp2_with fail
  refine bodyPost_ret (v := .tuple #[.agg #[.int .i64 0, .int .i64 0, .int .i64 0, .bool false, .bool false, .bool false, .int .i64 0], .bool false]) (by simp [results, Tryz.results92, go_sem, q0, q1, q2, q3, q4, q5, q6]) rfl ⟨rfl, ?_⟩
  have := HU0.out.trans HU4.out (fun _ _ f => f)
  refine this.trans (T := fun k => k = w.heap.size) (Upd.row w3 w.heap.size 0 (enCells en0)) (fun i hi e => by subst e; omega)
/-- The cells of a cache, in their order. -/
def caCells (c : Nat → En) (n : Nat) : List Value := enCells (c 0) ++ enCells (c 1) ++ enCells (c 2) ++ enCells (c 3) ++ [.int .i64 n]
theorem caCells_get (c : Nat → En) (n i j : Nat) (hi : i < 4) (hj : j < 7) : (caCells c n)[i * 7 + j]? = (enCells (c i))[j]? := by
  rcases i with _ | _ | _ | _ | i
  all_goals first | omega | (rcases j with _ | _ | _ | _ | _ | _ | _ | j; all_goals first | rfl | omega)
theorem CaAt.range {w : World} {b : Nat} {c : Nat → En} {n : Nat} (h : CaAt w b c n) : w.rangeAt b 0 (caCells c n) := by
  intro j v hv
  have hlt : j < 29 := (List.getElem?_eq_some_iff.1 hv).1
  rw [Nat.zero_add]
  by_cases e : j = 28
  · subst e
    have : (caCells c n)[28]? = some (.int .i64 n) := rfl
    rw [this] at hv
    rw [h.cnt]; exact hv
  · have := caCells_get c n (j / 7) (j % 7) (by omega) (by omega)
    rw [show j / 7 * 7 + j % 7 = j by omega] at this
    have h2 := h.cells (j / 7) (j % 7) (by omega) (by omega)
    rw [show j / 7 * 7 + j % 7 = j by omega] at h2
    rw [h2, ← this]; exact hv
theorem CaAt.of_range {w : World} {b : Nat} {c : Nat → En} {n : Nat} (h : w.rangeAt b 0 (caCells c n)) (hf : ∀ o, w.frozen? ⟨b, o, none⟩ = false) (hn : n ≤ 4) : CaAt w b c n where
  cells := fun i j hi hj => by
    obtain ⟨v, hv⟩ := enCells_some (c i) j hj
    have := h (i * 7 + j) v ((caCells_get c n i j hi hj).trans hv)
    rw [Nat.zero_add] at this
    rw [this, hv]
  cnt := h 28 _ rfl
  fz := hf
  le := hn
def zeroCa : Array Value := #[.int .i64 0, .int .i64 0, .int .i64 0, .bool false, .bool false, .bool false, .int .i64 0, .int .i64 0, .int .i64 0, .int .i64 0, .bool false, .bool false, .bool false, .int .i64 0, .int .i64 0, .int .i64 0, .int .i64 0, .bool false, .bool false, .bool false, .int .i64 0, .int .i64 0, .int .i64 0, .int .i64 0, .bool false, .bool false, .bool false, .int .i64 0, .int .i64 0]
theorem zeroCa_is : zeroCa = (caCells (fun _ => en0) 0).toArray := rfl
theorem zero_at (w : World) (ty : TypeId) : CaAt (w.alloc (.cells zeroCa ty)) w.heap.size (fun _ => en0) 0 :=
  CaAt.of_range (fun j v hv => by rw [Nat.zero_add, World.cell?_alloc_new, zeroCa_is, ← hv]; simp) (fun o => World.frozen?_alloc_new _ _ _ _) (by omega)
theorem caCells_one (c : Nat → En) (n : Nat) : ∀ v ∈ caCells c n, v.oneCell' = true := by
  intro v hv
  simp only [caCells, List.mem_append, List.mem_singleton] at hv
  rcases hv with (((hv | hv) | hv) | hv) | rfl
  · exact enAll_one [c 0] v (by simpa [enAll] using hv)
  · exact enAll_one [c 1] v (by simpa [enAll] using hv)
  · exact enAll_one [c 2] v (by simpa [enAll] using hv)
  · exact enAll_one [c 3] v (by simpa [enAll] using hv)
  · rfl
theorem ca_there (w : World) (ty : TypeId) (j : Nat) (hj : j < 29) : ((w.alloc (.cells zeroCa ty)).cell? ⟨w.heap.size, j, none⟩).isSome = true ∧ (w.alloc (.cells zeroCa ty)).frozen? ⟨w.heap.size, j, none⟩ = false := by
  refine ⟨?_, World.frozen?_alloc_new _ _ _ _⟩
  rw [World.cell?_alloc_new, Array.getElem?_eq_getElem (show j < zeroCa.size from hj)]
  rfl
theorem ca_store (w : World) (ty : TypeId) (c : Nat → En) (n : Nat) :
    (storeCells ⟨w.heap.size, 0, none⟩ (caCells c n)).run Tryz.prog (w.alloc (.cells zeroCa ty)) = .ok () ((w.alloc (.cells zeroCa ty)).setCells w.heap.size 0 (caCells c n)) := by
  have := run_storeCells_cells (P := Tryz.prog) w.heap.size 0 (caCells c n) 0 (w.alloc (.cells zeroCa ty)) (fun j hj => by first | exact (ca_there w ty j hj).1 | (rw [Nat.zero_add]; exact (ca_there w ty j hj).1)) (fun j hj => by first | exact (ca_there w ty j hj).2 | (rw [Nat.zero_add]; exact (ca_there w ty j hj).2)) (caCells_one c n)
  exact this
theorem ca_stored (w : World) (ty : TypeId) (c : Nat → En) (n : Nat) (hn : n ≤ 4) : CaAt ((w.alloc (.cells zeroCa ty)).setCells w.heap.size 0 (caCells c n)) w.heap.size c n :=
  CaAt.of_range (World.rangeAt_setCells_same _ _ _ _ (fun j hj => by rw [Nat.zero_add]; exact ca_there w ty j hj)) (fun o => by rw [World.frozen?_setCells]; exact World.frozen?_alloc_new _ _ _ _) hn
theorem info88 : (Tryz.prog.info? 97).map (·.size) = some 29 := by kernel_rfl
theorem kCopy_any (w : World) (b : Nat) (es : List En) (h : CaL w b es) :
    Calls Tryz.prog 74 #[.pointer (some ⟨b, 0, none⟩)] w fun e w' => ∃ b', e = .returned (.pointer (some ⟨b', 0, none⟩)) ∧ w.heap.size ≤ b' ∧ CaL w' b' es ∧ Upd (fun _ => False) w w' := by
  obtain ⟨c, h, hes⟩ := h
  have hr := h.range
  have hle := h.le
  have HE : Hid _ := hes
  have hlen : (caCells c es.length).length = 29 := rfl
  have hst := ca_store w 97 c es.length
  simp only [zeroCa] at hst
  clear hes
  go_enter Tryz.func74, Tryz.ntmps74
  go_wp2_with (refine wpList_load_mid (by rfl) 97 _ (by rfl) b 0 (by rfl) (caCells c es.length) _ hr Tryz.underlying97 (by rfl) info88 ?_)
  go_ret
  exact ⟨_, rfl, Nat.le_refl _, ⟨c, ca_stored w _ c es.length hle, HE.out⟩, Upd.setCells _ (fun h => absurd h (by omega)) _ _ ((Upd.refl _ _).alloc _)⟩
end Go.Proofs.YtadpibcgjgcjhabGreat
/- Package cache: Put. -/
namespace Go.Proofs.YtadpibcgjgcjhabGreat
open Go.ChangeShapes Go.WideShapes Go.ChangeAt Go.RowKit
set_option maxRecDepth 100000
attribute [local go_sem ↓] Go.wp_at_zero Go.wp_at_succ

/-- Put as the program does it, plainly. -/
def cut1 (l : List En) : List En := if l.length = 4 then flt (isAt (atE l 0).root (atE l 0).page) l else l
def putK (es : List En) (x : En) : List En := cut1 (flt (isAt x.root x.page) es) ++ [x]
theorem flt_first (l : List En) (h : 0 < l.length) : (flt (isAt (atE l 0).root (atE l 0).page) l).length < l.length := by
  rcases l with _ | ⟨e, l⟩
  · simp at h
  · have hx : isAt (atE (e :: l) 0).root (atE (e :: l) 0).page e = true := by simp [isAt, atE]
    have := List.length_filter_le (fun y => !isAt (atE (e :: l) 0).root (atE (e :: l) 0).page y) l
    unfold flt
    rw [List.filter_cons_of_neg (by rw [hx]; simp)]
    simp only [List.length_cons]
    omega
theorem cut1_length (l : List En) (h : l.length ≤ 4) : (cut1 l).length ≤ 3 := by
  unfold cut1
  split
  · next h4 => have := flt_first l (by omega); omega
  · omega
theorem CaL.of {w : World} {b : Nat} {c : Nat → En} {es : List En} {n : Nat} (h : CaAt w b c n) (hn : n = es.length) (hes : ∀ i, i < es.length → c i = atE es i) : CaL w b es := ⟨c, by rw [← hn]; exact h, hes⟩
theorem atE_snoc (l : List En) (x : En) (c : Nat → En) (h : ∀ i, i < l.length → c i = atE l i) : ∀ i, i < (l ++ [x]).length → setAt c l.length x i = atE (l ++ [x]) i := by
  intro i hi
  rw [List.length_append] at hi
  by_cases e : i = l.length
  · subst e
    simp [setAt, atE, List.getD_eq_getElem?_getD]
  · have hlt : i < l.length := by simp at hi; omega
    rw [setAt_other _ _ _ _ e, h i hlt]
    simp [atE, List.getD_eq_getElem?_getD, List.getElem?_append_left hlt]
/-- The last of it: the entry is laid behind all. -/
theorem kPut_any (w : World) (b : Nat) (es : List En) (x : En) (h : CaL w b es) :
    Calls Tryz.prog 101 #[.pointer (some ⟨b, 0, none⟩), .agg #[.int .i64 x.root, .int .i64 x.page, .int .i64 x.dest, .bool x.may, .bool x.lf.there, .bool x.lf.wr, .int .i64 x.lf.fr]] w fun e w' => e = .returned (.tuple #[]) ∧ CaL w' b (putK es x) ∧ Upd (fun k => k = b) w w' := by
  have hlt := h.lt
  have hu0 := (Upd.refl (fun _ => False) w).alloc (.cells #[.int .i64 x.root, .int .i64 x.page, .int .i64 x.dest, .bool x.may, .bool x.lf.there, .bool x.lf.wr, .int .i64 x.lf.fr] 94)
  have hq : ∀ j, (w.alloc (.cells #[.int .i64 x.root, .int .i64 x.page, .int .i64 x.dest, .bool x.may, .bool x.lf.there, .bool x.lf.wr, .int .i64 x.lf.fr] 94)).cell? ⟨w.heap.size, j, none⟩ = (enCells x)[j]? := fun j => by
    rw [World.cell?_alloc_new]
    show (enCells x).toArray[j]? = _
    simp
  have HQ : Hid _ := hq
  have HU0 : Hid _ := hu0
  have HH : Hid (CaL _ b es) := h.upd hu0 (fun f => f)
  clear h hu0 hq
  go_enter Tryz.func101, Tryz.ntmps101
  go_wp2_with fail
  refine (kDrop_any _ b es x.root x.page HH.out).mono ?_
  rintro e w1 ⟨rfl, hc1, hu1⟩
  have hput : putK es x = cut1 (flt (isAt x.root x.page) es) ++ [x] := rfl
  have HPU : Hid _ := hput
  have hl1 := hc1.le
  have hu01 := HU0.out.free.trans hu1 (fun _ _ e => e)
  have q0 := hu1.cell (show _ = some (.int .i64 x.root) from HQ.out 0) (by simp only; omega)
  have q1 := hu1.cell (show _ = some (.int .i64 x.page) from HQ.out 1) (by simp only; omega)
  have q2 := hu1.cell (show _ = some (.int .i64 x.dest) from HQ.out 2) (by simp only; omega)
  have q3 := hu1.cell (show _ = some (.bool x.may) from HQ.out 3) (by simp only; omega)
  have q4 := hu1.cell (show _ = some (.bool x.lf.there) from HQ.out 4) (by simp only; omega)
  have q5 := hu1.cell (show _ = some (.bool x.lf.wr) from HQ.out 5) (by simp only; omega)
  have q6 := hu1.cell (show _ = some (.int .i64 x.lf.fr) from HQ.out 6) (by simp only; omega)
  have hc1' := hc1
  obtain ⟨c, hca, hce⟩ := hc1'
  have n0 := hca.cnt
  have HC1 : Hid (CaL w1 b (flt (isAt x.root x.page) es)) := hc1
  have HCA : Hid _ := hca
  have HCE : Hid _ := hce
  have HU1 : Hid _ := hu01
  clear hput HQ HU0 HH hu01 hu1 hc1 hca hce
  generalize flt (isAt x.root x.page) es = l at *
  generalize hdd : decide ((0 : Int) < ((es.length - l.length : Nat) : Int)) = dd
  clear hdd
  by_cases h4 : l.length = 4
  · have hb4 : (((l.length : Nat) : Int) == 4) = true := by rw [h4]; rfl
    have e0 := HCE.out 0 (by omega)
    have hA := HCA.out
    have c0 : w1.cell? ⟨b, 0, none⟩ = some (.int .i64 (atE l 0).root) := by have := hA.cells 0 0 (by omega) (by omega); rw [e0] at this; exact this
    have c1 : w1.cell? ⟨b, 1, none⟩ = some (.int .i64 (atE l 0).page) := by have := hA.cells 0 1 (by omega) (by omega); rw [e0] at this; exact this
    have c2 : w1.cell? ⟨b, 2, none⟩ = some (.int .i64 (atE l 0).dest) := by have := hA.cells 0 2 (by omega) (by omega); rw [e0] at this; exact this
    have c3 : w1.cell? ⟨b, 3, none⟩ = some (.bool (atE l 0).may) := by have := hA.cells 0 3 (by omega) (by omega); rw [e0] at this; exact this
    have c4 : w1.cell? ⟨b, 4, none⟩ = some (.bool (atE l 0).lf.there) := by have := hA.cells 0 4 (by omega) (by omega); rw [e0] at this; exact this
    have c5 : w1.cell? ⟨b, 5, none⟩ = some (.bool (atE l 0).lf.wr) := by have := hA.cells 0 5 (by omega) (by omega); rw [e0] at this; exact this
    have c6 : w1.cell? ⟨b, 6, none⟩ = some (.int .i64 (atE l 0).lf.fr) := by have := hA.cells 0 6 (by omega) (by omega); rw [e0] at this; exact this
    have hcut : cut1 l = flt (isAt (atE l 0).root (atE l 0).page) l := by unfold cut1; rw [if_pos h4]
    have HCUT : Hid _ := hcut
    clear hcut hA e0
    generalize atE l 0 = y at *
    have hu2 := (Upd.refl (fun _ => False) w1).alloc (.cells #[.int .i64 y.root, .int .i64 y.page, .int .i64 y.dest, .bool y.may, .bool y.lf.there, .bool y.lf.wr, .int .i64 y.lf.fr] 94)
    have HU2 : Hid _ := hu2
    clear hu2
    go_wp2_with fail
    refine (kDrop_any _ b l y.root y.page (HC1.out.upd HU2.out (fun f => f))).mono ?_
    rintro e w2 ⟨rfl, hc2, hu2⟩
    have hu12 := HU2.out.free.trans hu2 (fun _ _ e => e)
    have HU3 : Hid _ := HU1.out.trans hu12 (fun _ _ e => e)
    have q0 := hu12.cell q0 (by simp only; omega)
    have q1 := hu12.cell q1 (by simp only; omega)
    have q2 := hu12.cell q2 (by simp only; omega)
    have q3 := hu12.cell q3 (by simp only; omega)
    have q4 := hu12.cell q4 (by simp only; omega)
    have q5 := hu12.cell q5 (by simp only; omega)
    have q6 := hu12.cell q6 (by simp only; omega)
    have hle := cut1_length l hl1
    rw [HCUT.out] at hle
    rw [HCUT.out] at HPU
    generalize hdd : decide ((0 : Int) < ((l.length - (flt (isAt y.root y.page) l).length : Nat) : Int)) = d2
    clear hdd hu2 hu12 c0 c1 c2 c3 c4 c5 c6 n0 HC1 HCA HCE HU1 HU2 HCUT hb4 h4 hl1
    generalize flt (isAt y.root y.page) l = z at *
    obtain ⟨c, hca, hce⟩ := hc2
    have n0 := hca.cnt
    have fz := hca.fz
    have e0 : w2.cell? ⟨b, z.length * 7, none⟩ = some (.int .i64 (c z.length).root) := hca.cells z.length 0 (by omega) (by omega)
    have e1 : w2.cell? ⟨b, z.length * 7 + 1, none⟩ = some (.int .i64 (c z.length).page) := hca.cells z.length 1 (by omega) (by omega)
    have e2 : w2.cell? ⟨b, z.length * 7 + 2, none⟩ = some (.int .i64 (c z.length).dest) := hca.cells z.length 2 (by omega) (by omega)
    have e3 : w2.cell? ⟨b, z.length * 7 + 3, none⟩ = some (.bool (c z.length).may) := hca.cells z.length 3 (by omega) (by omega)
    have e4 : w2.cell? ⟨b, z.length * 7 + 4, none⟩ = some (.bool (c z.length).lf.there) := hca.cells z.length 4 (by omega) (by omega)
    have e5 : w2.cell? ⟨b, z.length * 7 + 5, none⟩ = some (.bool (c z.length).lf.wr) := hca.cells z.length 5 (by omega) (by omega)
    have e6 : w2.cell? ⟨b, z.length * 7 + 6, none⟩ = some (.int .i64 (c z.length).lf.fr) := hca.cells z.length 6 (by omega) (by omega)
    have i0 : (0 : Int) ≤ (z.length : Int) := by omega
    have i1 : (z.length : Int) < 4 := by omega
    have HCA : Hid _ := hca
    have HCE : Hid _ := hce
    clear hca hce
    generalize c z.length = o at e0 e1 e2 e3 e4 e5 e6
    go_wp2_with fail
    go_region
    have hA := HCA.out.set7 (i := z.length) (by omega) x
    have hU := Upd.set7 w2 b z.length x
    revert hA hU
    generalize (((((((w2.setCell ⟨b, z.length * 7, none⟩ (.int .i64 x.root)).setCell ⟨b, z.length * 7 + 1, none⟩ (.int .i64 x.page)).setCell ⟨b, z.length * 7 + 2, none⟩ (.int .i64 x.dest)).setCell ⟨b, z.length * 7 + 3, none⟩ (.bool x.may)).setCell ⟨b, z.length * 7 + 4, none⟩ (.bool x.lf.there)).setCell ⟨b, z.length * 7 + 5, none⟩ (.bool x.lf.wr)).setCell ⟨b, z.length * 7 + 6, none⟩ (.int .i64 x.lf.fr)) = w7
    intro hA hU
    have n1 : w7.drew.cell? ⟨b, 28, none⟩ = some (.int .i64 z.length) := hA.cnt
    have f1 : w7.drew.frozen? ⟨b, 28, none⟩ = false := hA.fz 28
    have HA : Hid _ := hA.upd ((Upd.refl (fun _ => False) w7).drew) (fun f => f)
    have HU : Hid _ := HU3.out.trans hU.drew (fun _ _ e => e)
    clear hA hU n0 fz e0 e1 e2 e3 e4 e5 e6 q0 q1 q2 q3 q4 q5 q6
    go_wp2_with fail
    go_end0
    refine ⟨by first | rfl | trivial, ?_, HU.out.trans (Upd.one _ _ _ _) (fun _ _ e => e)⟩
    rw [HPU.out]
    exact CaL.of (HA.out.setCnt (z.length + 1) (by omega)) (by simp) (atE_snoc z x c HCE.out)
  · have hb4 : (((l.length : Nat) : Int) == 4) = false := beq_eq_false_iff_ne.2 (by omega)
    have hcut : cut1 l = l := by unfold cut1; rw [if_neg h4]
    rw [hcut] at HPU
    have HU3 : Hid _ := HU1.out
    have hle : l.length ≤ 3 := by omega
    have hc2 := HC1.out
    clear hcut n0 HC1 HCA HCE HU1 hl1 h4
    generalize l = z at *
    generalize w1 = w2 at *
    obtain ⟨c, hca, hce⟩ := hc2
    have n0 := hca.cnt
    have fz := hca.fz
    have e0 : w2.cell? ⟨b, z.length * 7, none⟩ = some (.int .i64 (c z.length).root) := hca.cells z.length 0 (by omega) (by omega)
    have e1 : w2.cell? ⟨b, z.length * 7 + 1, none⟩ = some (.int .i64 (c z.length).page) := hca.cells z.length 1 (by omega) (by omega)
    have e2 : w2.cell? ⟨b, z.length * 7 + 2, none⟩ = some (.int .i64 (c z.length).dest) := hca.cells z.length 2 (by omega) (by omega)
    have e3 : w2.cell? ⟨b, z.length * 7 + 3, none⟩ = some (.bool (c z.length).may) := hca.cells z.length 3 (by omega) (by omega)
    have e4 : w2.cell? ⟨b, z.length * 7 + 4, none⟩ = some (.bool (c z.length).lf.there) := hca.cells z.length 4 (by omega) (by omega)
    have e5 : w2.cell? ⟨b, z.length * 7 + 5, none⟩ = some (.bool (c z.length).lf.wr) := hca.cells z.length 5 (by omega) (by omega)
    have e6 : w2.cell? ⟨b, z.length * 7 + 6, none⟩ = some (.int .i64 (c z.length).lf.fr) := hca.cells z.length 6 (by omega) (by omega)
    have i0 : (0 : Int) ≤ (z.length : Int) := by omega
    have i1 : (z.length : Int) < 4 := by omega
    have HCA : Hid _ := hca
    have HCE : Hid _ := hce
    clear hca hce
    generalize c z.length = o at e0 e1 e2 e3 e4 e5 e6
    go_wp2_with fail
    go_region
    have hA := HCA.out.set7 (i := z.length) (by omega) x
    have hU := Upd.set7 w2 b z.length x
    revert hA hU
    generalize (((((((w2.setCell ⟨b, z.length * 7, none⟩ (.int .i64 x.root)).setCell ⟨b, z.length * 7 + 1, none⟩ (.int .i64 x.page)).setCell ⟨b, z.length * 7 + 2, none⟩ (.int .i64 x.dest)).setCell ⟨b, z.length * 7 + 3, none⟩ (.bool x.may)).setCell ⟨b, z.length * 7 + 4, none⟩ (.bool x.lf.there)).setCell ⟨b, z.length * 7 + 5, none⟩ (.bool x.lf.wr)).setCell ⟨b, z.length * 7 + 6, none⟩ (.int .i64 x.lf.fr)) = w7
    intro hA hU
    have n1 : w7.drew.cell? ⟨b, 28, none⟩ = some (.int .i64 z.length) := hA.cnt
    have f1 : w7.drew.frozen? ⟨b, 28, none⟩ = false := hA.fz 28
    have HA : Hid _ := hA.upd ((Upd.refl (fun _ => False) w7).drew) (fun f => f)
    have HU : Hid _ := HU3.out.trans hU.drew (fun _ _ e => e)
    clear hA hU n0 fz e0 e1 e2 e3 e4 e5 e6 q0 q1 q2 q3 q4 q5 q6
    go_wp2_with fail
    go_end0
    refine ⟨by first | rfl | trivial, ?_, HU.out.trans (Upd.one _ _ _ _) (fun _ _ e => e)⟩
    rw [HPU.out]
    exact CaL.of (HA.out.setCnt (z.length + 1) (by omega)) (by simp) (atE_snoc z x c HCE.out)
end Go.Proofs.YtadpibcgjgcjhabGreat
/- Package cache: Point. -/
namespace Go.Proofs.YtadpibcgjgcjhabGreat
open Go.ChangeShapes Go.WideShapes Go.ChangeAt Go.RowKit
set_option maxRecDepth 100000
attribute [local go_sem ↓] Go.wp_at_zero Go.wp_at_succ

def lfCells (l : Lf) : List Value := [.bool l.there, .bool l.wr, .int .i64 l.fr]
theorem CaAt.setLf {w : World} {b : Nat} {cur : Nat → En} {n : Nat} (h : CaAt w b cur n) {i : Nat} (hi : i < 4) (l : Lf) :
    CaAt (((w.setCell ⟨b, i * 7 + 4, none⟩ (.bool l.there)).setCell ⟨b, i * 7 + 4 + 1, none⟩ (.bool l.wr)).setCell ⟨b, i * 7 + 4 + 2, none⟩ (.int .i64 l.fr)) b (setAt cur i { cur i with lf := l }) n := by
  have hw : (((w.setCell ⟨b, i * 7 + 4, none⟩ (.bool l.there)).setCell ⟨b, i * 7 + 4 + 1, none⟩ (.bool l.wr)).setCell ⟨b, i * 7 + 4 + 2, none⟩ (.int .i64 l.fr)) = w.setCells b (i * 7 + 4) (lfCells l) := rfl
  rw [hw]
  have h3 : (lfCells l).length = 3 := rfl
  refine ⟨fun k j hk hj => ?_, ?_, fun o => by rw [World.frozen?_setCells]; exact h.fz o, h.le⟩
  · by_cases e : k = i
    · subst e
      rw [setAt_same]
      by_cases hj4 : j < 4
      · rw [World.cell?_setCells_out _ _ _ _ _ (fun _ _ => by simp only [h3]; omega), h.cells k j hk hj]
        rcases j with _ | _ | _ | _ | j
        all_goals first | rfl | omega
      · obtain ⟨v, hv⟩ : ∃ v, (lfCells l)[j - 4]? = some v := ⟨_, List.getElem?_eq_getElem (show j - 4 < (lfCells l).length by omega)⟩
        have := World.rangeAt_setCells_same w b (k * 7 + 4) (lfCells l) (fun o ho => h.there _ (by omega)) (j - 4) v hv
        rw [show k * 7 + 4 + (j - 4) = k * 7 + j by omega] at this
        rw [this, ← hv]
        obtain ⟨t, rfl⟩ : ∃ t, j = t + 4 := ⟨j - 4, by omega⟩
        rw [Nat.add_sub_cancel]
        rcases t with _ | _ | _ | t
        all_goals first | rfl | omega
    · rw [World.cell?_setCells_out _ _ _ _ _ (fun _ _ => by simp only [h3]; omega), h.cells k j hk hj, setAt_other _ _ _ _ e]
  · rw [World.cell?_setCells_out _ _ _ _ _ (fun _ _ => by simp only [h3]; omega)]; exact h.cnt
theorem Upd.setLf (w : World) (b i : Nat) (l : Lf) : Upd (fun k => k = b) w (((w.setCell ⟨b, i * 7 + 4, none⟩ (.bool l.there)).setCell ⟨b, i * 7 + 4 + 1, none⟩ (.bool l.wr)).setCell ⟨b, i * 7 + 4 + 2, none⟩ (.int .i64 l.fr)) := Upd.row w b (i * 7 + 4) (lfCells l)
theorem pntTo_get (d : Int) (l : Lf) (es : List En) : ∀ k, ∀ t, t < k → atE (pntTo d l es k) t = pnt d l (atE es t)
  | 0, _, h => absurd h (by omega)
  | k + 1, t, h => by
    have hl := pntTo_length d l es k
    unfold pntTo
    by_cases e : t = k
    · subst e
      simp [atE, List.getD_eq_getElem?_getD, hl]
    · have := pntTo_get d l es k t (by omega)
      rw [← this]
      simp [atE, List.getD_eq_getElem?_getD, List.getElem?_append_left (show t < (pntTo d l es k).length by omega)]
theorem kPoint_any (w : World) (b : Nat) (es : List En) (d : Int) (l : Lf) (h : CaL w b es) :
    Calls Tryz.prog 75 #[.pointer (some ⟨b, 0, none⟩), .int .i64 d, .agg #[.bool l.there, .bool l.wr, .int .i64 l.fr]] w fun e w' => e = .returned (.int .i64 (pntN d es es.length)) ∧ CaL w' b (pntTo d l es es.length) ∧ Upd (fun k => k = b) w w' := by
  obtain ⟨cur, h, hes⟩ := h
  have hle := h.le
  have hlt := h.lt
  have u0 := (Upd.refl (fun _ => False) w).alloc (.cells #[.bool l.there, .bool l.wr, .int .i64 l.fr] 38)
  have p0 : (w.alloc (.cells #[.bool l.there, .bool l.wr, .int .i64 l.fr] 38)).cell? ⟨w.heap.size, 0, none⟩ = some (.bool l.there) := by rw [World.cell?_alloc_new]; rfl
  have p1 : (w.alloc (.cells #[.bool l.there, .bool l.wr, .int .i64 l.fr] 38)).cell? ⟨w.heap.size, 1, none⟩ = some (.bool l.wr) := by rw [World.cell?_alloc_new]; rfl
  have p2 : (w.alloc (.cells #[.bool l.there, .bool l.wr, .int .i64 l.fr] 38)).cell? ⟨w.heap.size, 2, none⟩ = some (.int .i64 l.fr) := by rw [World.cell?_alloc_new]; rfl
  have HA0 : Hid _ := h.upd u0 (fun f => f)
  have HE : Hid _ := hes
  have U0 : Hid _ := u0
  have P0 : Hid _ := p0
  have P1 : Hid _ := p1
  have P2 : Hid _ := p2
  clear h hes u0 p0 p1 p2
  go_enter Tryz.func75, Tryz.ntmps75
  go_wp2_with fail
  refine (kLive_any _ b cur es.length HA0.out).mono ?_
  rintro e w1 ⟨rfl, m, rfl⟩
  have u1 := (Upd.refl (fun _ => False) (w.alloc (.cells #[.bool l.there, .bool l.wr, .int .i64 l.fr] 38))).drewN m
  have p0 := u1.cell P0.out (fun f => f)
  have p1 := u1.cell P1.out (fun f => f)
  have p2 := u1.cell P2.out (fun f => f)
  have HA1 : Hid _ := HA0.out.upd u1 (fun f => f)
  have U1 : Hid _ := U0.out.trans u1 (fun _ _ f => f)
  clear u1 U0 HA0 P0 P1 P2
  revert p0 p1 p2 HA1 U1
  generalize (w.alloc (.cells #[.bool l.there, .bool l.wr, .int .i64 l.fr] 38)).drewN m = w1
  generalize hB : w.heap.size = B
  have HB : Hid _ := hB
  intro p0 p1 p2 HA1 U1
  have hbB : b ≠ B := by omega
  clear hB hlt
  go_wp2_with fail
  go_loopg [7, 14] es.length (fun gg s7 s14 wi => ∃ (k : Nat) (c : Nat → En), k + gg = es.length ∧ s14 = .int .i64 k ∧ s7 = .int .i64 (pntN d es k) ∧ Hid (CaAt wi b c es.length) ∧ Hid (∀ t, t < k → c t = pnt d l (atE es t)) ∧ Hid (∀ t, k ≤ t → t < es.length → c t = atE es t) ∧ Hid (Upd (fun k => k = b) w1 wi))
  case atStart => exact ⟨0, cur, by omega, rfl, rfl, HA1.out, fun t ht => absurd ht (by omega), fun t _ ht => HE.out t ht, Upd.refl _ _⟩
  case round =>
    obtain ⟨k, c, hk, rfl, rfl, HA, HT1, HT2, HU⟩ := hrel
    have HK : Hid _ := hk
    by_cases hlt : k < es.length
    · clear hk
      have hA := HA.out
      have ek := HT2.out k (Nat.le_refl _) hlt
      have fz := hA.fz
      have c2 : wr.cell? ⟨b, k * 7 + 2, none⟩ = some (.int .i64 (atE es k).dest) := by have := hA.cells k 2 (by omega) (by omega); rw [ek] at this; exact this
      have c4 : wr.cell? ⟨b, k * 7 + 4, none⟩ = some (.bool (atE es k).lf.there) := by have := hA.cells k 4 (by omega) (by omega); rw [ek] at this; exact this
      have c5 : wr.cell? ⟨b, k * 7 + 4 + 1, none⟩ = some (.bool (atE es k).lf.wr) := by have := hA.cells k 5 (by omega) (by omega); rw [ek] at this; exact this
      have c6 : wr.cell? ⟨b, k * 7 + 4 + 2, none⟩ = some (.int .i64 (atE es k).lf.fr) := by have := hA.cells k 6 (by omega) (by omega); rw [ek] at this; exact this
      have q0 := HU.out.cell p0 (by simp only; omega)
      have q1 := HU.out.cell p1 (by simp only; omega)
      have q2 := HU.out.cell p2 (by simp only; omega)
      have hN : pntN d es (k + 1) = pntN d es k + if (atE es k).dest == d then 1 else 0 := rfl
      have hle2 := pntN_le d es k
      have HN : Hid _ := hN
      have HEK : Hid _ := ek
      clear hN hA ek p0 p1 p2
      generalize hx : atE es k = x at *
      have HX : Hid _ := hx
      clear hx
      have k0 : (0 : Int) ≤ (k : Int) := by omega
      have k1 : (k : Int) < es.length := by omega
      cases hd : (x.dest == d) with
      | true =>
        rw [hd] at HN
        generalize pntN d es k = v at *
        go_wp2_with fail
        go_roundg (es.length - (k + 1))
        case rel =>
          refine ⟨k + 1, setAt c k { c k with lf := l }, by have := HK.out; omega, by go_num, ?_, HA.out.setLf (by omega) l, (show Hid _ from fun t ht => ?_), (show Hid _ from fun t h1 h2 => ?_), HU.out.trans (Upd.setLf wr b k l) (fun _ _ e => e)⟩
          · rw [HN.out]; simp only [if_true]; first | rfl | go_num | (simp; go_num)
          · by_cases e : t = k
            · subst e
              rw [setAt_same, HEK.out, HX.out]
              simp [pnt, hd]
            · rw [setAt_other _ _ _ _ e]; exact HT1.out t (by omega)
          · rw [setAt_other _ _ _ _ (by omega)]; exact HT2.out t (by omega) h2
        case measure => have := HK.out; omega
      | false =>
        rw [hd] at HN
        generalize pntN d es k = v at *
        go_wp2_with fail
        go_roundg (es.length - (k + 1))
        case rel =>
          refine ⟨k + 1, c, by have := HK.out; omega, by go_num, ?_, HA.out, (show Hid _ from fun t ht => ?_), (show Hid _ from fun t h1 h2 => HT2.out t (by omega) h2), HU.out⟩
          · rw [HN.out]; simp
          · by_cases e : t = k
            · subst e
              rw [HEK.out, HX.out]
              simp [pnt, hd]
            · exact HT1.out t (by omega)
        case measure => have := HK.out; omega
    · have ek : k = es.length := by omega
      subst ek
      clear hk p0 p1 p2
      go_wp2_with fail
      go_ret
      refine ⟨rfl, ?_, (U1.out.free (S := fun k => k = b)).trans HU.out (fun _ _ e => e)⟩
      exact CaL.of HA.out (pntTo_length d l es es.length).symm (fun t ht => by rw [pntTo_length] at ht; rw [pntTo_get d l es es.length t ht]; exact HT1.out t ht)
end Go.Proofs.YtadpibcgjgcjhabGreat
