/- Package cache: Find of what isn't there, Copy, Put, Point. -/
import Derived.Test.YtadpibcgjgcjhabGreatDoorCkD
namespace Go.Proofs.YtadpibcgjgcjhabGreatDoor
open Go.ChangeShapes Go.WideShapes Go.ChangeAt Go.RowKit
set_option maxRecDepth 100000
attribute [local go_sem ↓] Go.wp_at_zero Go.wp_at_succ

theorem kFind_no (w : World) (b : Nat) (es : List En) (r p : Int) (h : CaL w b es) (hi : idxP (isAt r p) es = -1) :
    Calls Tryz.prog 174 #[.pointer (some ⟨b, 0, none⟩), .int .i64 r, .int .i64 p] w fun e w' => e = .returned (.tuple #[.agg #[.int .i64 0, .int .i64 0, .int .i64 0, .bool false, .bool false, .bool false, .int .i64 0], .bool false]) ∧ Upd (fun _ => False) w w' := by
  obtain ⟨cur, h, hes⟩ := h
  have hle := h.le
  have hu0 := (Upd.refl (fun _ => False) w).alloc (.cells #[.int .i64 0, .int .i64 0, .int .i64 0, .bool false, .bool false, .bool false, .int .i64 0] 151)
  have HA0 : Hid _ := h.upd hu0 (fun f => f)
  have hz : ∀ j, (w.alloc (.cells #[.int .i64 0, .int .i64 0, .int .i64 0, .bool false, .bool false, .bool false, .int .i64 0] 151)).cell? ⟨w.heap.size, j, none⟩ = (enCells en0)[j]? := fun j => by
    rw [World.cell?_alloc_new]
    show (enCells en0).toArray[j]? = _
    simp
  have hzf : ∀ j, (w.alloc (.cells #[.int .i64 0, .int .i64 0, .int .i64 0, .bool false, .bool false, .bool false, .int .i64 0] 151)).frozen? ⟨w.heap.size, j, none⟩ = false := fun j => World.frozen?_alloc_new _ _ _ _
  have HZ : Hid _ := hz
  have HZF : Hid _ := hzf
  have HU0 : Hid _ := hu0
  have HE : Hid _ := hes
  have HI : Hid _ := hi
  have hsz : (w.alloc (.cells #[.int .i64 0, .int .i64 0, .int .i64 0, .bool false, .bool false, .bool false, .int .i64 0] 151)).heap.size = w.heap.size + 1 := by simp
  have HSZ : Hid _ := hsz
  clear h hes hu0 hi hsz hz hzf
  go_enter Tryz.func174, Tryz.ntmps174
  go_wp2_with fail
  refine (kLive_any _ b cur es.length HA0.out).mono ?_
  rintro e w1 ⟨rfl, m, rfl⟩
  have hu1 := HU0.out.drewN m
  have HU1 : Hid _ := hu1
  have HA1 : Hid _ := HA0.out.upd ((Upd.refl (fun _ => False) _).drewN m) (fun f => f)
  clear hu1
  go_wp2_with fail
  refine (kOf_pred _ b HA1.out.lt r p).mono ?_
  rintro e w2 ⟨lb, rfl, hp, hu2⟩
  have HP : Hid (PredOn b w2 197 lb (isAt r p)) := hp
  have HU2 : Hid _ := hu2
  clear hp hu2
  go_wp2_with fail
  refine (kIndex_any w2 b cur es _ lb _ (HA1.out.upd HU2.out (fun f => f)) HE.out HP.out enters91).mono ?_
  rintro e w3 ⟨rfl, hu3⟩
  have hu4 := ((Upd.refl (fun _ => False) (w.alloc (.cells #[.int .i64 0, .int .i64 0, .int .i64 0, .bool false, .bool false, .bool false, .int .i64 0] 151))).drewN m).trans (HU2.out.trans hu3 (fun _ _ f => f)) (fun _ _ f => f)
  have HU4 : Hid _ := hu4
  have q0 := hu4.cell (show _ = some (.int .i64 0) from HZ.out 0) (fun f => f)
  have q1 := hu4.cell (show _ = some (.int .i64 0) from HZ.out 1) (fun f => f)
  have q2 := hu4.cell (show _ = some (.int .i64 0) from HZ.out 2) (fun f => f)
  have q3 := hu4.cell (show _ = some (.bool false) from HZ.out 3) (fun f => f)
  have q4 := hu4.cell (show _ = some (.bool false) from HZ.out 4) (fun f => f)
  have q5 := hu4.cell (show _ = some (.bool false) from HZ.out 5) (fun f => f)
  have q6 := hu4.cell (show _ = some (.int .i64 0) from HZ.out 6) (fun f => f)
  have qf : ∀ j, w3.frozen? ⟨w.heap.size, j, none⟩ = false := fun j => by rw [World.frozen?_of_block (hu4.block w.heap.size (by rw [HSZ.out]; omega) (fun f => f))]; exact HZF.out j
  rw [HI.out]
  clear hu4 hu3 HP HU2 HA1 HU1 HE HI HSZ HZ HZF HA0
  go_wp2_with fail
  refine bodyPost_ret (v := .tuple #[.agg #[.int .i64 0, .int .i64 0, .int .i64 0, .bool false, .bool false, .bool false, .int .i64 0], .bool false]) (by simp [results, Tryz.results174, go_sem, q0, q1, q2, q3, q4, q5, q6]) rfl ⟨rfl, ?_⟩
  have := HU0.out.trans HU4.out (fun _ _ f => f)
  refine this.trans (T := fun k => k = w.heap.size) (Upd.row w3 w.heap.size 0 (enCells en0)) (fun i hi e => by subst e; omega)
/-- The cells of a cache, in their order. -/
def caCells (c : Nat → En) (n : Nat) : List Value := enCells (c 0) ++ enCells (c 1) ++ enCells (c 2) ++ enCells (c 3) ++ [.int .i64 n]
theorem caCells_get (c : Nat → En) (n i j : Nat) (hi : i < 4) (hj : j < 7) : (caCells c n)[i * 7 + j]? = (enCells (c i))[j]? := by
  rcases i with _ | _ | _ | _ | i
  all_goals first | omega | (rcases j with _ | _ | _ | _ | _ | _ | _ | j; all_goals first | rfl | omega)
theorem CaAt.of_range {w : World} {b : Nat} {c : Nat → En} {n : Nat} (h : w.rangeAt b 0 (caCells c n)) (hf : ∀ o, w.frozen? ⟨b, o, none⟩ = false) (hn : n ≤ 4) : CaAt w b c n where
  cells := fun i j hi hj => by
    obtain ⟨v, hv⟩ := enCells_some (c i) j hj
    have := h (i * 7 + j) v ((caCells_get c n i j hi hj).trans hv)
    rw [Nat.zero_add] at this
    rw [this, hv]
  cnt := h 28 _ rfl
  fz := hf
  le := hn
def zeroCa : Array Value := #[.int .i64 0, .int .i64 0, .int .i64 0, .bool false, .bool false, .bool false, .int .i64 0, .int .i64 0, .int .i64 0, .int .i64 0, .bool false, .bool false, .bool false, .int .i64 0, .int .i64 0, .int .i64 0, .int .i64 0, .bool false, .bool false, .bool false, .int .i64 0, .int .i64 0, .int .i64 0, .int .i64 0, .bool false, .bool false, .bool false, .int .i64 0, .int .i64 0]
theorem zeroCa_is : zeroCa = (caCells (fun _ => en0) 0).toArray := rfl
theorem zero_at (w : World) (ty : TypeId) : CaAt (w.alloc (.cells zeroCa ty)) w.heap.size (fun _ => en0) 0 :=
  CaAt.of_range (fun j v hv => by rw [Nat.zero_add, World.cell?_alloc_new, zeroCa_is, ← hv]; simp) (fun o => World.frozen?_alloc_new _ _ _ _) (by omega)
end Go.Proofs.YtadpibcgjgcjhabGreatDoor
