/- Package cache: remove, Drop, Forget, Find. -/
import Derived.Test.YtadpibcgjgcjhabGreatDoorCkC
namespace Go.Proofs.YtadpibcgjgcjhabGreatDoor
open Go.ChangeShapes Go.WideShapes Go.ChangeAt Go.RowKit
set_option maxRecDepth 100000
attribute [local go_sem ↓] Go.wp_at_zero Go.wp_at_succ

theorem CaL.upd {S : Nat → Prop} {w w' : World} {b : Nat} {es : List En} (h : CaL w b es) (u : Upd S w w') (hb : ¬ S b) : CaL w' b es := by
  obtain ⟨c, h1, h2⟩ := h
  exact ⟨c, h1.upd u hb, h2⟩
theorem CaL.lt {w : World} {b : Nat} {es : List En} (h : CaL w b es) : b < w.heap.size := by
  obtain ⟨c, h1, h2⟩ := h
  exact h1.lt
theorem CaL.le {w : World} {b : Nat} {es : List En} (h : CaL w b es) : es.length ≤ 4 := by
  obtain ⟨c, h1, h2⟩ := h
  exact h1.le
theorem enters91 : ∀ args w, (callFunc 197 args).run Tryz.prog w = .ok (.enter 197 args) w := enters_of Tryz.func197 (by kernel_rfl) rfl
theorem enters87 : ∀ args w, (callFunc 183 args).run Tryz.prog w = .ok (.enter 183 args) w := enters_of Tryz.func183 (by kernel_rfl) rfl
theorem kOf_pred (w : World) (b : Nat) (hb : b < w.heap.size) (r p : Int) :
    Calls Tryz.prog 182 #[.int .i64 r, .int .i64 p] w fun e w' => ∃ lb, e = .returned (.func (.func 197) #[] lb) ∧ PredOn b w' 197 lb (isAt r p) ∧ Upd (fun _ => False) w w' := by
  refine (kOf_any w r p).mono ?_
  rintro e w' ⟨rfl, rfl⟩
  refine ⟨_, rfl, fun W x hu => ?_, ((Upd.refl _ _).alloc _).alloc _⟩
  have c1 : ((w.alloc (.cells #[.int .i64 r] 3)).alloc (.cells #[.int .i64 p] 3)).cell? ⟨w.heap.size, 0, none⟩ = some (.int .i64 r) := by
    rw [World.cell?_alloc_old _ _ _ (by simp), World.cell?_alloc_new]; rfl
  have c2 : ((w.alloc (.cells #[.int .i64 r] 3)).alloc (.cells #[.int .i64 p] 3)).cell? ⟨w.heap.size + 1, 0, none⟩ = some (.int .i64 p) := by
    have := World.cell?_alloc_new (w.alloc (.cells #[.int .i64 r] 3)) #[.int .i64 p] 3 0
    simp only [World.size_alloc] at this
    rw [this]; rfl
  exact kOf1_any W _ _ r p x (hu.cell c1 (by simp only; omega)) (hu.cell c2 (by simp only; omega))
theorem kRemove_any (w : World) (b : Nat) (es : List En) (g : Nat) (lb : Array Value) (p : En → Bool) (h : CaL w b es) (hp : PredOn b w g lb p) (eg : ∀ args w, (callFunc g args).run Tryz.prog w = .ok (.enter g args) w) :
    Calls Tryz.prog 181 #[.pointer (some ⟨b, 0, none⟩), .func (.func g) #[] lb] w fun e w' => e = .returned (.int .i64 ((es.length - (flt p es).length : Nat) : Int)) ∧ CaL w' b (flt p es) ∧ Upd (fun k => k = b) w w' := by
  obtain ⟨cur, h, hes⟩ := h
  have hc := h.cnt
  have hle := h.le
  have hfl := flt_length p es
  have HH : Hid _ := h
  have HE : Hid _ := hes
  have HP : Hid (PredOn b w g lb p) := hp
  clear h hes hp
  go_enter Tryz.func181, Tryz.ntmps181
  go_wp2_with fail
  refine (kLive_any w b cur es.length HH.out).mono ?_
  rintro e w1 ⟨rfl, m, rfl⟩
  have hu1 := (Upd.refl (fun _ => False) w).drewN m
  have HA : Hid _ := HH.out.upd hu1 (fun f => f)
  have HP1 : Hid (PredOn b (w.drewN m) g lb p) := PredOn.trans HP.out hu1.free
  have HU1 : Hid _ := hu1
  clear hu1
  go_wp2_with fail
  refine (kDelete_any _ b cur es g lb p HA.out HE.out HP1.out eg).mono ?_
  rintro e w2 ⟨rfl, hu2, c, hc2, hl2⟩
  have d0 := hc2.cnt
  have dz := hc2.fz 28
  have HC2 : Hid _ := hc2
  have HL2 : Hid _ := hl2
  have HU2 : Hid _ := HU1.out.free.trans hu2 (fun _ _ e => e)
  clear hc hc2 hl2 hu2 HP HP1 HA HH HE HU1
  generalize hm : (flt p es).length = k at hfl
  have HM : Hid _ := hm
  clear hm
  go_wp2_with fail
  go_ret
  refine ⟨?_, ⟨c, by rw [HM.out]; exact HC2.out.setCnt k (by omega), fun i hi => HL2.out i hi⟩, HU2.out.trans (Upd.one _ _ _ _) (fun _ _ e => e)⟩
  show Ending.returned (Value.int .i64 _) = _
  congr 2
  rw [HM.out]; omega
theorem kDrop_any (w : World) (b : Nat) (es : List En) (r p : Int) (h : CaL w b es) :
    Calls Tryz.prog 159 #[.pointer (some ⟨b, 0, none⟩), .int .i64 r, .int .i64 p] w fun e w' => e = .returned (.bool (decide ((0 : Int) < ((es.length - (flt (isAt r p) es).length : Nat) : Int)))) ∧ CaL w' b (flt (isAt r p) es) ∧ Upd (fun k => k = b) w w' := by
  have HH : Hid (CaL w b es) := h
  clear h
  go_enter Tryz.func159, Tryz.ntmps159
  go_wp2_with fail
  refine (kOf_pred w b HH.out.lt r p).mono ?_
  rintro e w1 ⟨lb, rfl, hp, hu1⟩
  have HP : Hid (PredOn b w1 197 lb (isAt r p)) := hp
  have HU1 : Hid _ := hu1
  clear hp hu1
  go_wp2_with fail
  refine (kRemove_any w1 b es _ lb _ (HH.out.upd HU1.out (fun f => f)) HP.out enters91).mono ?_
  rintro e w2 ⟨rfl, hc2, hu2⟩
  have HC2 : Hid (CaL w2 b (flt (isAt r p) es)) := hc2
  have HU2 : Hid _ := HU1.out.free.trans hu2 (fun _ _ e => e)
  clear hc2 hu2
  generalize hk : es.length - (flt (isAt r p) es).length = k
  have HK : Hid _ := hk
  clear hk
  go_wp2_with fail
  go_ret
  exact ⟨by rw [HK.out]; first | rfl | simp, HC2.out, HU2.out⟩
theorem kForget_any (w : World) (b : Nat) (es : List En) (r : Int) (h : CaL w b es) :
    Calls Tryz.prog 160 #[.pointer (some ⟨b, 0, none⟩), .int .i64 r] w fun e w' => e = .returned (.int .i64 ((es.length - (flt (fun x => x.root == r) es).length : Nat) : Int)) ∧ CaL w' b (flt (fun x => x.root == r) es) ∧ Upd (fun k => k = b) w w' := by
  have hlt := h.lt
  have hu1 := (Upd.refl (fun _ => False) w).alloc (.cells #[.int .i64 r] 3)
  have c1 : (w.alloc (.cells #[.int .i64 r] 3)).cell? ⟨w.heap.size, 0, none⟩ = some (.int .i64 r) := by
    rw [World.cell?_alloc_new]; rfl
  have hp : PredOn b (w.alloc (.cells #[.int .i64 r] 3)) 183 #[.pointer (some ⟨w.heap.size, 0, none⟩)] (fun x => x.root == r) := fun W x hu => kForget1_any W _ r x (hu.cell c1 (by simp only; omega))
  have HC : Hid _ := kRemove_any _ b es _ _ _ (h.upd hu1 (fun f => f)) hp enters87
  have HU1 : Hid _ := hu1
  clear h hu1 c1 hp
  go_enter Tryz.func160, Tryz.ntmps160
  go_wp2_with fail
  refine Calls.mono HC.out ?_
  rintro e w2 ⟨rfl, hc2, hu2⟩
  have HC2 : Hid (CaL w2 b (flt (fun x => x.root == r) es)) := hc2
  have HU2 : Hid _ := HU1.out.free.trans hu2 (fun _ _ e => e)
  clear hc2 hu2 HC HU1
  generalize hk : es.length - (flt (fun x => x.root == r) es).length = k
  have HK : Hid _ := hk
  clear hk
  go_wp2_with fail
  go_ret
  exact ⟨by rw [HK.out]; rfl, HC2.out, HU2.out⟩
theorem kFind_yes (w : World) (b : Nat) (es : List En) (r p : Int) (h : CaL w b es) (k : Nat) (hk : k < es.length) (hi : idxP (isAt r p) es = k) :
    Calls Tryz.prog 174 #[.pointer (some ⟨b, 0, none⟩), .int .i64 r, .int .i64 p] w fun e w' => e = .returned (.tuple #[.agg #[.int .i64 (atE es k).root, .int .i64 (atE es k).page, .int .i64 (atE es k).dest, .bool (atE es k).may, .bool (atE es k).lf.there, .bool (atE es k).lf.wr, .int .i64 (atE es k).lf.fr], .bool true]) ∧ Upd (fun _ => False) w w' := by
  obtain ⟨cur, h, hes⟩ := h
  have hle := h.le
  have hu0 := (Upd.refl (fun _ => False) w).alloc (.cells #[.int .i64 0, .int .i64 0, .int .i64 0, .bool false, .bool false, .bool false, .int .i64 0] 151)
  have HA0 : Hid _ := h.upd hu0 (fun f => f)
  have hz : ∀ j, (w.alloc (.cells #[.int .i64 0, .int .i64 0, .int .i64 0, .bool false, .bool false, .bool false, .int .i64 0] 151)).cell? ⟨w.heap.size, j, none⟩ = (enCells en0)[j]? := fun j => by
    rw [World.cell?_alloc_new]
    show (enCells en0).toArray[j]? = _
    simp
  have hzf : ∀ j, (w.alloc (.cells #[.int .i64 0, .int .i64 0, .int .i64 0, .bool false, .bool false, .bool false, .int .i64 0] 151)).frozen? ⟨w.heap.size, j, none⟩ = false := fun j => World.frozen?_alloc_new _ _ _ _
  have HZ : Hid _ := hz
  have HZF : Hid _ := hzf
  have HU0 : Hid _ := hu0
  have HE : Hid _ := hes
  have HI : Hid _ := hi
  have hsz : (w.alloc (.cells #[.int .i64 0, .int .i64 0, .int .i64 0, .bool false, .bool false, .bool false, .int .i64 0] 151)).heap.size = w.heap.size + 1 := by simp
  have HSZ : Hid _ := hsz
  clear h hes hu0 hi hsz hz hzf
  go_enter Tryz.func174, Tryz.ntmps174
  go_wp2_with fail
  refine (kLive_any _ b cur es.length HA0.out).mono ?_
  rintro e w1 ⟨rfl, m, rfl⟩
  have hu1 := HU0.out.drewN m
  have HU1 : Hid _ := hu1
  have HA1 : Hid _ := HA0.out.upd ((Upd.refl (fun _ => False) _).drewN m) (fun f => f)
  clear hu1
  go_wp2_with fail
  refine (kOf_pred _ b HA1.out.lt r p).mono ?_
  rintro e w2 ⟨lb, rfl, hp, hu2⟩
  have HP : Hid (PredOn b w2 197 lb (isAt r p)) := hp
  have HU2 : Hid _ := hu2
  clear hp hu2
  go_wp2_with fail
  refine (kIndex_any w2 b cur es _ lb _ (HA1.out.upd HU2.out (fun f => f)) HE.out HP.out enters91).mono ?_
  rintro e w3 ⟨rfl, hu3⟩
  have hu4 := ((Upd.refl (fun _ => False) (w.alloc (.cells #[.int .i64 0, .int .i64 0, .int .i64 0, .bool false, .bool false, .bool false, .int .i64 0] 151))).drewN m).trans (HU2.out.trans hu3 (fun _ _ f => f)) (fun _ _ f => f)
  have HU4 : Hid _ := hu4
  have q0 := hu4.cell (show _ = some (.int .i64 0) from HZ.out 0) (fun f => f)
  have q1 := hu4.cell (show _ = some (.int .i64 0) from HZ.out 1) (fun f => f)
  have q2 := hu4.cell (show _ = some (.int .i64 0) from HZ.out 2) (fun f => f)
  have q3 := hu4.cell (show _ = some (.bool false) from HZ.out 3) (fun f => f)
  have q4 := hu4.cell (show _ = some (.bool false) from HZ.out 4) (fun f => f)
  have q5 := hu4.cell (show _ = some (.bool false) from HZ.out 5) (fun f => f)
  have q6 := hu4.cell (show _ = some (.int .i64 0) from HZ.out 6) (fun f => f)
  have qf : ∀ j, w3.frozen? ⟨w.heap.size, j, none⟩ = false := fun j => by rw [World.frozen?_of_block (hu4.block w.heap.size (by rw [HSZ.out]; omega) (fun f => f))]; exact HZF.out j
  have hA4 := HA0.out.upd hu4 (fun f => f)
  have ek := HE.out k hk
  have c0 : w3.cell? ⟨b, k * 7, none⟩ = some (.int .i64 (atE es k).root) := by have := hA4.cells k 0 (by omega) (by omega); rw [ek] at this; exact this
  have c1 : w3.cell? ⟨b, k * 7 + 1, none⟩ = some (.int .i64 (atE es k).page) := by have := hA4.cells k 1 (by omega) (by omega); rw [ek] at this; exact this
  have c2 : w3.cell? ⟨b, k * 7 + 2, none⟩ = some (.int .i64 (atE es k).dest) := by have := hA4.cells k 2 (by omega) (by omega); rw [ek] at this; exact this
  have c3 : w3.cell? ⟨b, k * 7 + 3, none⟩ = some (.bool (atE es k).may) := by have := hA4.cells k 3 (by omega) (by omega); rw [ek] at this; exact this
  have c4 : w3.cell? ⟨b, k * 7 + 4, none⟩ = some (.bool (atE es k).lf.there) := by have := hA4.cells k 4 (by omega) (by omega); rw [ek] at this; exact this
  have c5 : w3.cell? ⟨b, k * 7 + 5, none⟩ = some (.bool (atE es k).lf.wr) := by have := hA4.cells k 5 (by omega) (by omega); rw [ek] at this; exact this
  have c6 : w3.cell? ⟨b, k * 7 + 6, none⟩ = some (.int .i64 (atE es k).lf.fr) := by have := hA4.cells k 6 (by omega) (by omega); rw [ek] at this; exact this
  have kk0 : (0 : Int) ≤ (k : Int) := by omega
  have kk4 : (k : Int) < 4 := by omega
  have kn : decide ((k : Int) < 0) = false := by simp
  rw [HI.out]
  generalize hx : atE es k = x at *
  have HX : Hid _ := hx
  clear hx hu4 hA4 ek hu3 HP HU2 HA1 HU1 HE HI HSZ HZ HZF HA0
  go_wp2_with fail
  refine bodyPost_ret (v := .tuple #[.agg #[.int .i64 x.root, .int .i64 x.page, .int .i64 x.dest, .bool x.may, .bool x.lf.there, .bool x.lf.wr, .int .i64 x.lf.fr], .bool true]) (by simp [results, Tryz.results174, go_sem, q0, q1, q2, q3, q4, q5, q6]) rfl ⟨by rw [HX.out], ?_⟩
  have := HU0.out.trans HU4.out (fun _ _ f => f)
  refine this.trans (T := fun k => k = w.heap.size) (Upd.row w3 w.heap.size 0 (enCells x)) (fun i hi e => by subst e; omega)
end Go.Proofs.YtadpibcgjgcjhabGreatDoor
