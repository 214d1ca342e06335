/- The document's guest as it is made. -/
import Derived.Test.YtadpibcgjgcjhabGreatDoorHrD
import Derived.Test.YtadpibcgjgcjhabGreatDoorBuild
namespace Go.Proofs.YtadpibcgjgcjhabGreatDoor
open Go.ChangeShapes Go.WideShapes Go.ChangeAt Go.RowKit
set_option maxRecDepth 100000

/-- Sixteen leaves that lead nowhere. -/
def leavesZ : Nat → List Value
  | 0 => []
  | k + 1 => .bool false :: .bool false :: .int .i64 0 :: leavesZ k
def mapTail (a b : Nat) : List Value := List.replicate a (.int .i64 0) ++ leavesZ b
theorem leavesZ_get : ∀ (b n j : Nat), n < b → j < 3 → (leavesZ b)[n * 3 + j]? = some (if j = 2 then .int .i64 0 else .bool false)
  | 0, _, _, h, _ => absurd h (by omega)
  | b + 1, 0, j, _, hj => by
    rcases j with _ | _ | _ | j
    · rfl
    · rfl
    · rfl
    · omega
  | b + 1, n + 1, j, h, hj => by
    have := leavesZ_get b n j (by omega) hj
    rw [show (n + 1) * 3 + j = (n * 3 + j) + 1 + 1 + 1 by omega]
    simpa [leavesZ] using this
theorem mapTail_st (a b n : Nat) (h : n < a) : (mapTail a b)[n]? = some (.int .i64 0) := by
  unfold mapTail
  rw [List.getElem?_append_left (by rw [List.length_replicate]; exact h), List.getElem?_replicate, if_pos h]
theorem mapTail_lf (a b n j : Nat) (h : n < b) (hj : j < 3) : (mapTail a b)[a + (n * 3 + j)]? = some (if j = 2 then .int .i64 0 else .bool false) := by
  unfold mapTail
  rw [List.getElem?_append_right (by rw [List.length_replicate]; omega), List.length_replicate, show a + (n * 3 + j) - a = n * 3 + j by omega]
  exact leavesZ_get b n j h hj
def rmZero (p : Value) : Array Value := (p :: mapTail 16 16).toArray
theorem zero72 (w : World) : (zeroValue 95).run Tryz.prog w = .ok (.agg (rmZero (.pointer none))) w := by kernel_rfl
theorem rmZero_ne : ¬ rmZero (.pointer none) = #[] := by
  unfold rmZero
  simp
theorem rmZero_set (v : Value) : (rmZero (.pointer none)).setIfInBounds 0 v = rmZero v := by
  unfold rmZero
  simp
theorem rmZero_0 (p : Value) : (rmZero p)[0]? = some p := by
  unfold rmZero
  simp
theorem rmZero_st (p : Value) (n : Nat) (h : n < 16) : (rmZero p)[1 + n]? = some (.int .i64 0) := by
  unfold rmZero
  rw [Nat.add_comm, List.getElem?_toArray, List.getElem?_cons_succ]
  exact mapTail_st 16 16 n h
theorem rmZero_lf (p : Value) (n j : Nat) (h : n < 16) (hj : j < 3) : (rmZero p)[17 + n * 3 + j]? = some (if j = 2 then .int .i64 0 else .bool false) := by
  unfold rmZero
  rw [show 17 + n * 3 + j = (16 + (n * 3 + j)) + 1 by omega, List.getElem?_toArray, List.getElem?_cons_succ]
  exact mapTail_lf 16 16 n j h hj
theorem RMap.new (w : World) (bm : Nat) : RMap (w.alloc (.cells (rmZero (.pointer (some ⟨bm, 0, none⟩))) 95)) w.heap.size bm mp0 where
  pool := by rw [World.cell?_alloc_new, rmZero_0]
  st := fun n hn => by rw [World.cell?_alloc_new, rmZero_st _ _ hn]; rfl
  th := fun n hn => by have := rmZero_lf (.pointer (some ⟨bm, 0, none⟩)) n 0 hn (by omega); rw [World.cell?_alloc_new]; exact this
  wr := fun n hn => by have := rmZero_lf (.pointer (some ⟨bm, 0, none⟩)) n 1 hn (by omega); rw [World.cell?_alloc_new]; exact this
  fr := fun n hn => by have := rmZero_lf (.pointer (some ⟨bm, 0, none⟩)) n 2 hn (by omega); rw [World.cell?_alloc_new]; exact this
  fz := fun o => World.frozen?_alloc_new _ _ _ _
  rs := fun o v _ hv => by cases hv

/-- The document's guest, as it is made. -/
def rgZero (p : Value) (r : Int) : Array Value := (p :: (mapTail 16 16 ++ [.slice none 0 0, .int .i64 r, .int .i64 0])).toArray
theorem zeroG (w : World) : (zeroValue 99).run Tryz.prog w = .ok (.agg (rgZero (.pointer none) 0)) w := by kernel_rfl
theorem rgZero_root (p : Value) (r : Int) : (rgZero p 0).setIfInBounds 66 (.int .i64 r) = rgZero p r := by kernel_rfl
theorem rgZero_0 (p : Value) (r : Int) : (rgZero p r)[0]? = some p := by
  unfold rgZero
  simp
theorem rgZero_in (p : Value) (r : Int) (i : Nat) (h : i < 64) : (rgZero p r)[i + 1]? = (mapTail 16 16)[i]? := by
  unfold rgZero
  rw [List.getElem?_toArray, List.getElem?_cons_succ, List.getElem?_append_left (by show i < 64; exact h)]
theorem rgZero_st (p : Value) (r : Int) (n : Nat) (h : n < 16) : (rgZero p r)[1 + n]? = some (.int .i64 0) := by
  rw [Nat.add_comm, rgZero_in p r n (by omega)]
  exact mapTail_st 16 16 n h
theorem rgZero_lf (p : Value) (r : Int) (n j : Nat) (h : n < 16) (hj : j < 3) : (rgZero p r)[17 + n * 3 + j]? = some (if j = 2 then .int .i64 0 else .bool false) := by
  rw [show 17 + n * 3 + j = (16 + (n * 3 + j)) + 1 by omega, rgZero_in p r _ (by omega)]
  exact mapTail_lf 16 16 n j h hj
theorem rgZero_65 (p : Value) (r : Int) : (rgZero p r)[65]? = some (.slice none 0 0) := rfl
theorem rgZero_66 (p : Value) (r : Int) : (rgZero p r)[66]? = some (.int .i64 r) := rfl
theorem rgZero_67 (p : Value) (r : Int) : (rgZero p r)[67]? = some (.int .i64 0) := rfl
theorem RGu.new (w : World) (bm base : Nat) : RGu (w.alloc (.cells (rgZero (.pointer (some ⟨bm, 0, none⟩)) (-1)) 99)) w.heap.size bm base (.slice none 0 0) gs0 where
  mp :=
    { pool := by rw [World.cell?_alloc_new, rgZero_0]
      st := fun n hn => by rw [World.cell?_alloc_new, rgZero_st _ _ _ hn]; rfl
      th := fun n hn => by have := rgZero_lf (.pointer (some ⟨bm, 0, none⟩)) (-1) n 0 hn (by omega); rw [World.cell?_alloc_new]; exact this
      wr := fun n hn => by have := rgZero_lf (.pointer (some ⟨bm, 0, none⟩)) (-1) n 1 hn (by omega); rw [World.cell?_alloc_new]; exact this
      fr := fun n hn => by have := rgZero_lf (.pointer (some ⟨bm, 0, none⟩)) (-1) n 2 hn (by omega); rw [World.cell?_alloc_new]; exact this
      fz := fun o => World.frozen?_alloc_new _ _ _ _
      rs := fun o v _ hv => by
        rw [World.cell?_alloc_new]
        simp only [gRest] at hv
        split at hv
        · next e => subst e; rw [rgZero_65]; exact hv
        · split at hv
          · next e => subst e; rw [rgZero_66]; exact hv
          · split at hv
            · next e => subst e; rw [rgZero_67]; exact hv
            · cases hv }
  sl := SlC.nil _ _
  nb := fun k hk => by simp [Value.ownBlock] at hk
end Go.Proofs.YtadpibcgjgcjhabGreatDoor
