/- Package cache: Find of what isn't there, Copy, Put, Point. -/
import Derived.Test.YtehdddmpjimfhaaCkD
namespace Go.Proofs.Ytehdddmpjimfhaa
open Go.ChangeShapes Go.WideShapes Go.ChangeAt Go.RowKit
set_option maxRecDepth 100000
attribute [local go_sem ↓] Go.wp_at_zero Go.wp_at_succ

theorem kFind_no (w : World) (b : Nat) (es : List En) (r p : Int) (h : CaL w b es) (hi : idxP (isAt r p) es = -1) :
    Calls Try.prog 46 #[.pointer (some ⟨b, 0, none⟩), .int .i64 r, .int .i64 p] w fun e w' => e = .returned (.tuple #[.agg #[.int .i64 0, .int .i64 0, .int .i64 0, .bool false, .bool false, .bool false, .int .i64 0], .bool false]) ∧ Upd (fun _ => False) w w' := by
  obtain ⟨cur, h, hes⟩ := h
  have hle := h.le
  have hu0 := (Upd.refl (fun _ => False) w).alloc (.cells #[.int .i64 0, .int .i64 0, .int .i64 0, .bool false, .bool false, .bool false, .int .i64 0] 85)
  have HA0 : Hid _ := h.upd hu0 (fun f => f)
  have hz : ∀ j, (w.alloc (.cells #[.int .i64 0, .int .i64 0, .int .i64 0, .bool false, .bool false, .bool false, .int .i64 0] 85)).cell? ⟨w.heap.size, j, none⟩ = (enCells en0)[j]? := fun j => by
    rw [World.cell?_alloc_new]
    show (enCells en0).toArray[j]? = _
    simp
  have hzf : ∀ j, (w.alloc (.cells #[.int .i64 0, .int .i64 0, .int .i64 0, .bool false, .bool false, .bool false, .int .i64 0] 85)).frozen? ⟨w.heap.size, j, none⟩ = false := fun j => World.frozen?_alloc_new _ _ _ _
  have HZ : Hid _ := hz
  have HZF : Hid _ := hzf
  have HU0 : Hid _ := hu0
  have HE : Hid _ := hes
  have HI : Hid _ := hi
  have hsz : (w.alloc (.cells #[.int .i64 0, .int .i64 0, .int .i64 0, .bool false, .bool false, .bool false, .int .i64 0] 85)).heap.size = w.heap.size + 1 := by simp
  have HSZ : Hid _ := hsz
  clear h hes hu0 hi hsz hz hzf
  go_enter Try.func46, Try.ntmps46
  go_wp2_with fail
  refine (kLive_any _ b cur es.length HA0.out).mono ?_
  rintro e w1 ⟨rfl, m, rfl⟩
  have hu1 := HU0.out.drewN m
  have HU1 : Hid _ := hu1
  have HA1 : Hid _ := HA0.out.upd ((Upd.refl (fun _ => False) _).drewN m) (fun f => f)
  clear hu1
  go_wp2_with fail
  refine (kOf_pred _ b HA1.out.lt r p).mono ?_
  rintro e w2 ⟨lb, rfl, hp, hu2⟩
  have HP : Hid (PredOn b w2 91 lb (isAt r p)) := hp
  have HU2 : Hid _ := hu2
  clear hp hu2
  go_wp2_with fail
  refine (kIndex_any w2 b cur es _ lb _ (HA1.out.upd HU2.out (fun f => f)) HE.out HP.out enters91).mono ?_
  rintro e w3 ⟨rfl, hu3⟩
  have hu4 := ((Upd.refl (fun _ => False) (w.alloc (.cells #[.int .i64 0, .int .i64 0, .int .i64 0, .bool false, .bool false, .bool false, .int .i64 0] 85))).drewN m).trans (HU2.out.trans hu3 (fun _ _ f => f)) (fun _ _ f => f)
  have HU4 : Hid _ := hu4
  have q0 := hu4.cell (show _ = some (.int .i64 0) from HZ.out 0) (fun f => f)
  have q1 := hu4.cell (show _ = some (.int .i64 0) from HZ.out 1) (fun f => f)
  have q2 := hu4.cell (show _ = some (.int .i64 0) from HZ.out 2) (fun f => f)
  have q3 := hu4.cell (show _ = some (.bool false) from HZ.out 3) (fun f => f)
  have q4 := hu4.cell (show _ = some (.bool false) from HZ.out 4) (fun f => f)
  have q5 := hu4.cell (show _ = some (.bool false) from HZ.out 5) (fun f => f)
  have q6 := hu4.cell (show _ = some (.int .i64 0) from HZ.out 6) (fun f => f)
  have qf : ∀ j, w3.frozen? ⟨w.heap.size, j, none⟩ = false := fun j => by rw [World.frozen?_of_block (hu4.block w.heap.size (by rw [HSZ.out]; omega) (fun f => f))]; exact HZF.out j
  rw [HI.out]
  clear hu4 hu3 HP HU2 HA1 HU1 HE HI HSZ HZ HZF HA0
  go_wp2_with fail
  refine bodyPost_ret (v := .tuple #[.agg #[.int .i64 0, .int .i64 0, .int .i64 0, .bool false, .bool false, .bool false, .int .i64 0], .bool false]) (by simp [results, Try.results46, go_sem, q0, q1, q2, q3, q4, q5, q6]) rfl ⟨rfl, ?_⟩
  have := HU0.out.trans HU4.out (fun _ _ f => f)
  refine this.trans (T := fun k => k = w.heap.size) (Upd.row w3 w.heap.size 0 (enCells en0)) (fun i hi e => by subst e; omega)
/-- The cells of a cache, in their order. -/
def caCells (c : Nat → En) (n : Nat) : List Value := enCells (c 0) ++ enCells (c 1) ++ enCells (c 2) ++ enCells (c 3) ++ [.int .i64 n]
theorem caCells_get (c : Nat → En) (n i j : Nat) (hi : i < 4) (hj : j < 7) : (caCells c n)[i * 7 + j]? = (enCells (c i))[j]? := by
  rcases i with _ | _ | _ | _ | i
  all_goals first | omega | (rcases j with _ | _ | _ | _ | _ | _ | _ | j; all_goals first | rfl | omega)
theorem CaAt.range {w : World} {b : Nat} {c : Nat → En} {n : Nat} (h : CaAt w b c n) : w.rangeAt b 0 (caCells c n) := by
  intro j v hv
  have hlt : j < 29 := (List.getElem?_eq_some_iff.1 hv).1
  rw [Nat.zero_add]
  by_cases e : j = 28
  · subst e
    have : (caCells c n)[28]? = some (.int .i64 n) := rfl
    rw [this] at hv
    rw [h.cnt]; exact hv
  · have := caCells_get c n (j / 7) (j % 7) (by omega) (by omega)
    rw [show j / 7 * 7 + j % 7 = j by omega] at this
    have h2 := h.cells (j / 7) (j % 7) (by omega) (by omega)
    rw [show j / 7 * 7 + j % 7 = j by omega] at h2
    rw [h2, ← this]; exact hv
theorem CaAt.of_range {w : World} {b : Nat} {c : Nat → En} {n : Nat} (h : w.rangeAt b 0 (caCells c n)) (hf : ∀ o, w.frozen? ⟨b, o, none⟩ = false) (hn : n ≤ 4) : CaAt w b c n where
  cells := fun i j hi hj => by
    obtain ⟨v, hv⟩ := enCells_some (c i) j hj
    have := h (i * 7 + j) v ((caCells_get c n i j hi hj).trans hv)
    rw [Nat.zero_add] at this
    rw [this, hv]
  cnt := h 28 _ rfl
  fz := hf
  le := hn
def zeroCa : Array Value := #[.int .i64 0, .int .i64 0, .int .i64 0, .bool false, .bool false, .bool false, .int .i64 0, .int .i64 0, .int .i64 0, .int .i64 0, .bool false, .bool false, .bool false, .int .i64 0, .int .i64 0, .int .i64 0, .int .i64 0, .bool false, .bool false, .bool false, .int .i64 0, .int .i64 0, .int .i64 0, .int .i64 0, .bool false, .bool false, .bool false, .int .i64 0, .int .i64 0]
theorem zeroCa_is : zeroCa = (caCells (fun _ => en0) 0).toArray := rfl
theorem zero_at (w : World) (ty : TypeId) : CaAt (w.alloc (.cells zeroCa ty)) w.heap.size (fun _ => en0) 0 :=
  CaAt.of_range (fun j v hv => by rw [Nat.zero_add, World.cell?_alloc_new, zeroCa_is, ← hv]; simp) (fun o => World.frozen?_alloc_new _ _ _ _) (by omega)
theorem caCells_one (c : Nat → En) (n : Nat) : ∀ v ∈ caCells c n, v.oneCell' = true := by
  intro v hv
  simp only [caCells, List.mem_append, List.mem_singleton] at hv
  rcases hv with (((hv | hv) | hv) | hv) | rfl
  · exact enAll_one [c 0] v (by simpa [enAll] using hv)
  · exact enAll_one [c 1] v (by simpa [enAll] using hv)
  · exact enAll_one [c 2] v (by simpa [enAll] using hv)
  · exact enAll_one [c 3] v (by simpa [enAll] using hv)
  · rfl
theorem ca_there (w : World) (ty : TypeId) (j : Nat) (hj : j < 29) : ((w.alloc (.cells zeroCa ty)).cell? ⟨w.heap.size, j, none⟩).isSome = true ∧ (w.alloc (.cells zeroCa ty)).frozen? ⟨w.heap.size, j, none⟩ = false := by
  refine ⟨?_, World.frozen?_alloc_new _ _ _ _⟩
  rw [World.cell?_alloc_new, Array.getElem?_eq_getElem (show j < zeroCa.size from hj)]
  rfl
theorem ca_store (w : World) (ty : TypeId) (c : Nat → En) (n : Nat) :
    (storeCells ⟨w.heap.size, 0, none⟩ (caCells c n)).run Try.prog (w.alloc (.cells zeroCa ty)) = .ok () ((w.alloc (.cells zeroCa ty)).setCells w.heap.size 0 (caCells c n)) := by
  have := run_storeCells_cells (P := Try.prog) w.heap.size 0 (caCells c n) 0 (w.alloc (.cells zeroCa ty)) (fun j hj => by first | exact (ca_there w ty j hj).1 | (rw [Nat.zero_add]; exact (ca_there w ty j hj).1)) (fun j hj => by first | exact (ca_there w ty j hj).2 | (rw [Nat.zero_add]; exact (ca_there w ty j hj).2)) (caCells_one c n)
  exact this
theorem ca_stored (w : World) (ty : TypeId) (c : Nat → En) (n : Nat) (hn : n ≤ 4) : CaAt ((w.alloc (.cells zeroCa ty)).setCells w.heap.size 0 (caCells c n)) w.heap.size c n :=
  CaAt.of_range (World.rangeAt_setCells_same _ _ _ _ (fun j hj => by rw [Nat.zero_add]; exact ca_there w ty j hj)) (fun o => by rw [World.frozen?_setCells]; exact World.frozen?_alloc_new _ _ _ _) hn
theorem info88 : (Try.prog.info? 88).map (·.size) = some 29 := by kernel_rfl
theorem kCopy_any (w : World) (b : Nat) (es : List En) (h : CaL w b es) :
    Calls Try.prog 55 #[.pointer (some ⟨b, 0, none⟩)] w fun e w' => ∃ b', e = .returned (.pointer (some ⟨b', 0, none⟩)) ∧ w.heap.size ≤ b' ∧ CaL w' b' es ∧ Upd (fun _ => False) w w' := by
  obtain ⟨c, h, hes⟩ := h
  have hr := h.range
  have hle := h.le
  have HE : Hid _ := hes
  have hlen : (caCells c es.length).length = 29 := rfl
  have hst := ca_store w 88 c es.length
  simp only [zeroCa] at hst
  clear hes
  go_enter Try.func55, Try.ntmps55
  go_wp2_with (refine wpList_load_mid (by rfl) 88 _ (by rfl) b 0 (by rfl) (caCells c es.length) _ hr Try.underlying88 (by rfl) info88 ?_)
  go_ret
  exact ⟨_, rfl, Nat.le_refl _, ⟨c, ca_stored w _ c es.length hle, HE.out⟩, Upd.setCells _ (fun h => absurd h (by omega)) _ _ ((Upd.refl _ _).alloc _)⟩
end Go.Proofs.Ytehdddmpjimfhaa
