/- How undercroftlaw.GuestSays sets the document's guest up. -/
import Derived.Test.YtadpibcgjgcjhaaGreatPart16
import Derived.Test.YtadpibcgjgcjhaaGreatPart03
namespace Go.Proofs.YtadpibcgjgcjhaaGreat
open Go.ChangeShapes Go.WideShapes Go.ChangeAt Go.RowKit
set_option maxRecDepth 100000
attribute [local go_sem ↓] Go.wp_at_zero Go.wp_at_succ

/-- Sixteen leaves that lead nowhere. -/
def leavesZ : Nat → List Value
  | 0 => []
  | k + 1 => .bool false :: .bool false :: .int .i64 0 :: leavesZ k
def mapTail (a b : Nat) : List Value := List.replicate a (.int .i64 0) ++ leavesZ b
theorem leavesZ_get : ∀ (b n j : Nat), n < b → j < 3 → (leavesZ b)[n * 3 + j]? = some (if j = 2 then .int .i64 0 else .bool false)
  | 0, _, _, h, _ => absurd h (by omega)
  | b + 1, 0, j, _, hj => by
    rcases j with _ | _ | _ | j
    · rfl
    · rfl
    · rfl
    · omega
  | b + 1, n + 1, j, h, hj => by
    have := leavesZ_get b n j (by omega) hj
    rw [show (n + 1) * 3 + j = (n * 3 + j) + 1 + 1 + 1 by omega]
    simpa [leavesZ] using this
theorem mapTail_st (a b n : Nat) (h : n < a) : (mapTail a b)[n]? = some (.int .i64 0) := by
  unfold mapTail
  rw [List.getElem?_append_left (by rw [List.length_replicate]; exact h), List.getElem?_replicate, if_pos h]
theorem mapTail_lf (a b n j : Nat) (h : n < b) (hj : j < 3) : (mapTail a b)[a + (n * 3 + j)]? = some (if j = 2 then .int .i64 0 else .bool false) := by
  unfold mapTail
  rw [List.getElem?_append_right (by rw [List.length_replicate]; omega), List.length_replicate, show a + (n * 3 + j) - a = n * 3 + j by omega]
  exact leavesZ_get b n j h hj
def rmZero (p : Value) : Array Value := (p :: mapTail 16 16).toArray
theorem zero72 (w : World) : (zeroValue 46).run Tryz.prog w = .ok (.agg (rmZero (.pointer none))) w := by kernel_rfl
theorem rmZero_ne : ¬ rmZero (.pointer none) = #[] := by
  unfold rmZero
  simp
theorem rmZero_set (v : Value) : (rmZero (.pointer none)).setIfInBounds 0 v = rmZero v := by
  unfold rmZero
  simp
theorem rmZero_0 (p : Value) : (rmZero p)[0]? = some p := by
  unfold rmZero
  simp
theorem rmZero_st (p : Value) (n : Nat) (h : n < 16) : (rmZero p)[1 + n]? = some (.int .i64 0) := by
  unfold rmZero
  rw [Nat.add_comm, List.getElem?_toArray, List.getElem?_cons_succ]
  exact mapTail_st 16 16 n h
theorem rmZero_lf (p : Value) (n j : Nat) (h : n < 16) (hj : j < 3) : (rmZero p)[17 + n * 3 + j]? = some (if j = 2 then .int .i64 0 else .bool false) := by
  unfold rmZero
  rw [show 17 + n * 3 + j = (16 + (n * 3 + j)) + 1 by omega, List.getElem?_toArray, List.getElem?_cons_succ]
  exact mapTail_lf 16 16 n j h hj
theorem RMap.new (w : World) (bm : Nat) : RMap (w.alloc (.cells (rmZero (.pointer (some ⟨bm, 0, none⟩))) 46)) w.heap.size bm mp0 where
  pool := by rw [World.cell?_alloc_new, rmZero_0]
  st := fun n hn => by rw [World.cell?_alloc_new, rmZero_st _ _ hn]; rfl
  th := fun n hn => by have := rmZero_lf (.pointer (some ⟨bm, 0, none⟩)) n 0 hn (by omega); rw [World.cell?_alloc_new]; exact this
  wr := fun n hn => by have := rmZero_lf (.pointer (some ⟨bm, 0, none⟩)) n 1 hn (by omega); rw [World.cell?_alloc_new]; exact this
  fr := fun n hn => by have := rmZero_lf (.pointer (some ⟨bm, 0, none⟩)) n 2 hn (by omega); rw [World.cell?_alloc_new]; exact this
  fz := fun o => World.frozen?_alloc_new _ _ _ _
  rs := fun o v _ hv => by cases hv

/-- The document's guest, as it is made. -/
def rgZero (p : Value) (r : Int) : Array Value := (p :: (mapTail 16 16 ++ [.slice none 0 0, .int .i64 r, .int .i64 0])).toArray
theorem zeroG (w : World) : (zeroValue 50).run Tryz.prog w = .ok (.agg (rgZero (.pointer none) 0)) w := by kernel_rfl
theorem rgZero_ne : ¬ rgZero (.pointer none) 0 = #[] := by
  unfold rgZero
  simp
theorem rmZero_size (p : Value) : (rmZero p).size = 65 := rfl
theorem rgZero_size (p : Value) (r : Int) : (rgZero p r).size = 68 := rfl
theorem rgZero_fold (p : Value) : List.foldl (fun (cs : Array Value) (x : Value × Nat) => cs.setIfInBounds x.snd x.fst) (rgZero (.pointer none) 0) (rmZero p).toList.zipIdx = rgZero p 0 := by kernel_rfl
theorem rgZero_root (p : Value) (r : Int) : (rgZero p 0).setIfInBounds 66 (.int .i64 r) = rgZero p r := by kernel_rfl
theorem wpList_run {P : Program} {ops : Array Oper} {rest : List Oper} {op : Oper} {a a' : Act} {w w' : World} {Q : Exit → Act → World → Prop} (v : Value) (hg : op.guard = none) (hr : (execOp a.eval op).run P w = .ok (.value v) w') (ha : a.put op.dst v = a') (h : wpList P ops Q rest a' w') : wpList P ops Q (op :: rest) a w :=
  wpList_plain hg fun K hK => by unfold Oper.wp; rw [hr, Oper.upon_value, ha]; exact hK _ _ h
theorem run_boxG (w : World) (p : Value) (r : Int) : (Instr.box 50 (.agg (rgZero p r))).run Tryz.prog w = .ok (.pointer (some ⟨w.heap.size, 0, none⟩)) (w.alloc (.cells (rgZero p r) 50)) := by kernel_rfl
noncomputable def gsRg14 : Code := (Tryz.f3.body.bind (rgnAt 14)).getD .skip
theorem gs_rg14 (c : Nat → Value) (w : World) (bm : Nat) {Q : Exit → Act → World → Prop} (hm : Q .normal ⟨#[c 0, c 1, c 2, c 3, c 4, c 5, c 6, c 7, c 8, c 9, .pointer (some ⟨bm, 0, none⟩), .pointer (some ⟨w.heap.size, 0, none⟩), c 12, c 13, c 14, c 15, c 16, c 17, c 18, c 19, c 20, c 21, c 22, c 23, c 24, c 25, c 26, c 27, c 28, c 29, c 30, c 31, c 32, c 33, c 34, c 35, c 36, c 37, c 38, c 39, c 40, c 41, c 42, c 43, c 44, c 45, c 46, c 47, c 48, c 49, c 50, c 51, c 52, c 53, c 54, c 55, c 56, c 57, c 58, .pointer (some ⟨bm, 0, none⟩), .agg (rmZero (.pointer (some ⟨bm, 0, none⟩))), .agg (rgZero (.pointer (some ⟨bm, 0, none⟩)) (-1)), .pointer (some ⟨w.heap.size, 0, none⟩), c 63, c 64, c 65, c 66, c 67, c 68, c 69, c 70, c 71, c 72, c 73, c 74, c 75, c 76, c 77, c 78, c 79, c 80, c 81, c 82, c 83, c 84, c 85, c 86, c 87, c 88, c 89, c 90, c 91, c 92, c 93, c 94, c 95, c 96, c 97, c 98, c 99, c 100, c 101, c 102, c 103, c 104, c 105, c 106, c 107, c 108, c 109, c 110, c 111, c 112, c 113, c 114, c 115, c 116, c 117, c 118, c 119, c 120, c 121], []⟩ (w.alloc (.cells (rgZero (.pointer (some ⟨bm, 0, none⟩)) (-1)) 50))) : Code.wp Tryz.prog gsRg14 Q ⟨#[c 0, c 1, c 2, c 3, c 4, c 5, c 6, c 7, c 8, c 9, .pointer (some ⟨bm, 0, none⟩), c 11, c 12, c 13, c 14, c 15, c 16, c 17, c 18, c 19, c 20, c 21, c 22, c 23, c 24, c 25, c 26, c 27, c 28, c 29, c 30, c 31, c 32, c 33, c 34, c 35, c 36, c 37, c 38, c 39, c 40, c 41, c 42, c 43, c 44, c 45, c 46, c 47, c 48, c 49, c 50, c 51, c 52, c 53, c 54, c 55, c 56, c 57, c 58, c 59, c 60, c 61, c 62, c 63, c 64, c 65, c 66, c 67, c 68, c 69, c 70, c 71, c 72, c 73, c 74, c 75, c 76, c 77, c 78, c 79, c 80, c 81, c 82, c 83, c 84, c 85, c 86, c 87, c 88, c 89, c 90, c 91, c 92, c 93, c 94, c 95, c 96, c 97, c 98, c 99, c 100, c 101, c 102, c 103, c 104, c 105, c 106, c 107, c 108, c 109, c 110, c 111, c 112, c 113, c 114, c 115, c 116, c 117, c 118, c 119, c 120, c 121], []⟩ w := by
  conv => arg 2; whnf
  refine wp_region_lit ?_
  refine wpList_run (w' := w) (a' := ⟨#[c 0, c 1, c 2, c 3, c 4, c 5, c 6, c 7, c 8, c 9, .pointer (some ⟨bm, 0, none⟩), c 11, c 12, c 13, c 14, c 15, c 16, c 17, c 18, c 19, c 20, c 21, c 22, c 23, c 24, c 25, c 26, c 27, c 28, c 29, c 30, c 31, c 32, c 33, c 34, c 35, c 36, c 37, c 38, c 39, c 40, c 41, c 42, c 43, c 44, c 45, c 46, c 47, c 48, c 49, c 50, c 51, c 52, c 53, c 54, c 55, c 56, c 57, c 58, .pointer (some ⟨bm, 0, none⟩), c 60, c 61, c 62, c 63, c 64, c 65, c 66, c 67, c 68, c 69, c 70, c 71, c 72, c 73, c 74, c 75, c 76, c 77, c 78, c 79, c 80, c 81, c 82, c 83, c 84, c 85, c 86, c 87, c 88, c 89, c 90, c 91, c 92, c 93, c 94, c 95, c 96, c 97, c 98, c 99, c 100, c 101, c 102, c 103, c 104, c 105, c 106, c 107, c 108, c 109, c 110, c 111, c 112, c 113, c 114, c 115, c 116, c 117, c 118, c 119, c 120, c 121], []⟩) (.pointer (some ⟨bm, 0, none⟩)) rfl (by kernel_rfl) (by kernel_rfl) ?_
  refine wpList_run (w' := w) (a' := ⟨#[c 0, c 1, c 2, c 3, c 4, c 5, c 6, c 7, c 8, c 9, .pointer (some ⟨bm, 0, none⟩), c 11, c 12, c 13, c 14, c 15, c 16, c 17, c 18, c 19, c 20, c 21, c 22, c 23, c 24, c 25, c 26, c 27, c 28, c 29, c 30, c 31, c 32, c 33, c 34, c 35, c 36, c 37, c 38, c 39, c 40, c 41, c 42, c 43, c 44, c 45, c 46, c 47, c 48, c 49, c 50, c 51, c 52, c 53, c 54, c 55, c 56, c 57, c 58, .pointer (some ⟨bm, 0, none⟩), .agg (rmZero (.pointer (some ⟨bm, 0, none⟩))), c 61, c 62, c 63, c 64, c 65, c 66, c 67, c 68, c 69, c 70, c 71, c 72, c 73, c 74, c 75, c 76, c 77, c 78, c 79, c 80, c 81, c 82, c 83, c 84, c 85, c 86, c 87, c 88, c 89, c 90, c 91, c 92, c 93, c 94, c 95, c 96, c 97, c 98, c 99, c 100, c 101, c 102, c 103, c 104, c 105, c 106, c 107, c 108, c 109, c 110, c 111, c 112, c 113, c 114, c 115, c 116, c 117, c 118, c 119, c 120, c 121], []⟩) (.agg (rmZero (.pointer (some ⟨bm, 0, none⟩)))) rfl (by kernel_rfl) (by kernel_rfl) ?_
  refine wpList_run (w' := w) (a' := ⟨#[c 0, c 1, c 2, c 3, c 4, c 5, c 6, c 7, c 8, c 9, .pointer (some ⟨bm, 0, none⟩), c 11, c 12, c 13, c 14, c 15, c 16, c 17, c 18, c 19, c 20, c 21, c 22, c 23, c 24, c 25, c 26, c 27, c 28, c 29, c 30, c 31, c 32, c 33, c 34, c 35, c 36, c 37, c 38, c 39, c 40, c 41, c 42, c 43, c 44, c 45, c 46, c 47, c 48, c 49, c 50, c 51, c 52, c 53, c 54, c 55, c 56, c 57, c 58, .pointer (some ⟨bm, 0, none⟩), .agg (rmZero (.pointer (some ⟨bm, 0, none⟩))), .agg (rgZero (.pointer (some ⟨bm, 0, none⟩)) (-1)), c 62, c 63, c 64, c 65, c 66, c 67, c 68, c 69, c 70, c 71, c 72, c 73, c 74, c 75, c 76, c 77, c 78, c 79, c 80, c 81, c 82, c 83, c 84, c 85, c 86, c 87, c 88, c 89, c 90, c 91, c 92, c 93, c 94, c 95, c 96, c 97, c 98, c 99, c 100, c 101, c 102, c 103, c 104, c 105, c 106, c 107, c 108, c 109, c 110, c 111, c 112, c 113, c 114, c 115, c 116, c 117, c 118, c 119, c 120, c 121], []⟩) (.agg (rgZero (.pointer (some ⟨bm, 0, none⟩)) (-1))) rfl (by kernel_rfl) (by kernel_rfl) ?_
  refine wpList_run (w' := (w.alloc (.cells (rgZero (.pointer (some ⟨bm, 0, none⟩)) (-1)) 50))) (a' := ⟨#[c 0, c 1, c 2, c 3, c 4, c 5, c 6, c 7, c 8, c 9, .pointer (some ⟨bm, 0, none⟩), c 11, c 12, c 13, c 14, c 15, c 16, c 17, c 18, c 19, c 20, c 21, c 22, c 23, c 24, c 25, c 26, c 27, c 28, c 29, c 30, c 31, c 32, c 33, c 34, c 35, c 36, c 37, c 38, c 39, c 40, c 41, c 42, c 43, c 44, c 45, c 46, c 47, c 48, c 49, c 50, c 51, c 52, c 53, c 54, c 55, c 56, c 57, c 58, .pointer (some ⟨bm, 0, none⟩), .agg (rmZero (.pointer (some ⟨bm, 0, none⟩))), .agg (rgZero (.pointer (some ⟨bm, 0, none⟩)) (-1)), .pointer (some ⟨w.heap.size, 0, none⟩), c 63, c 64, c 65, c 66, c 67, c 68, c 69, c 70, c 71, c 72, c 73, c 74, c 75, c 76, c 77, c 78, c 79, c 80, c 81, c 82, c 83, c 84, c 85, c 86, c 87, c 88, c 89, c 90, c 91, c 92, c 93, c 94, c 95, c 96, c 97, c 98, c 99, c 100, c 101, c 102, c 103, c 104, c 105, c 106, c 107, c 108, c 109, c 110, c 111, c 112, c 113, c 114, c 115, c 116, c 117, c 118, c 119, c 120, c 121], []⟩) (.pointer (some ⟨w.heap.size, 0, none⟩)) rfl (by kernel_rfl) (by kernel_rfl) ?_
  refine wpList_run (w' := (w.alloc (.cells (rgZero (.pointer (some ⟨bm, 0, none⟩)) (-1)) 50))) (a' := ⟨#[c 0, c 1, c 2, c 3, c 4, c 5, c 6, c 7, c 8, c 9, .pointer (some ⟨bm, 0, none⟩), .pointer (some ⟨w.heap.size, 0, none⟩), c 12, c 13, c 14, c 15, c 16, c 17, c 18, c 19, c 20, c 21, c 22, c 23, c 24, c 25, c 26, c 27, c 28, c 29, c 30, c 31, c 32, c 33, c 34, c 35, c 36, c 37, c 38, c 39, c 40, c 41, c 42, c 43, c 44, c 45, c 46, c 47, c 48, c 49, c 50, c 51, c 52, c 53, c 54, c 55, c 56, c 57, c 58, .pointer (some ⟨bm, 0, none⟩), .agg (rmZero (.pointer (some ⟨bm, 0, none⟩))), .agg (rgZero (.pointer (some ⟨bm, 0, none⟩)) (-1)), .pointer (some ⟨w.heap.size, 0, none⟩), c 63, c 64, c 65, c 66, c 67, c 68, c 69, c 70, c 71, c 72, c 73, c 74, c 75, c 76, c 77, c 78, c 79, c 80, c 81, c 82, c 83, c 84, c 85, c 86, c 87, c 88, c 89, c 90, c 91, c 92, c 93, c 94, c 95, c 96, c 97, c 98, c 99, c 100, c 101, c 102, c 103, c 104, c 105, c 106, c 107, c 108, c 109, c 110, c 111, c 112, c 113, c 114, c 115, c 116, c 117, c 118, c 119, c 120, c 121], []⟩) (.pointer (some ⟨w.heap.size, 0, none⟩)) rfl (by kernel_rfl) (by kernel_rfl) ?_
  exact wpList_nil hm
theorem same2 (w : World) : Calls Tryz.prog 11 #[errV 2, .int .i64 2] w fun e w' => e = .returned (.bool true) ∧ w' = w := sameE 2 w (by omega)
end Go.Proofs.YtadpibcgjgcjhaaGreat
/- undercroftlaw.GuestSays: its state between acts. -/
namespace Go.Proofs.YtadpibcgjgcjhaaGreat
open Go.ChangeShapes Go.WideShapes Go.ChangeAt Go.RowKit
set_option maxRecDepth 100000

theorem rgZero_0 (p : Value) (r : Int) : (rgZero p r)[0]? = some p := by
  unfold rgZero
  simp
theorem rgZero_in (p : Value) (r : Int) (i : Nat) (h : i < 64) : (rgZero p r)[i + 1]? = (mapTail 16 16)[i]? := by
  unfold rgZero
  rw [List.getElem?_toArray, List.getElem?_cons_succ, List.getElem?_append_left (by show i < 64; exact h)]
theorem rgZero_st (p : Value) (r : Int) (n : Nat) (h : n < 16) : (rgZero p r)[1 + n]? = some (.int .i64 0) := by
  rw [Nat.add_comm, rgZero_in p r n (by omega)]
  exact mapTail_st 16 16 n h
theorem rgZero_lf (p : Value) (r : Int) (n j : Nat) (h : n < 16) (hj : j < 3) : (rgZero p r)[17 + n * 3 + j]? = some (if j = 2 then .int .i64 0 else .bool false) := by
  rw [show 17 + n * 3 + j = (16 + (n * 3 + j)) + 1 by omega, rgZero_in p r _ (by omega)]
  exact mapTail_lf 16 16 n j h hj
theorem rgZero_65 (p : Value) (r : Int) : (rgZero p r)[65]? = some (.slice none 0 0) := rfl
theorem rgZero_66 (p : Value) (r : Int) : (rgZero p r)[66]? = some (.int .i64 r) := rfl
theorem rgZero_67 (p : Value) (r : Int) : (rgZero p r)[67]? = some (.int .i64 0) := rfl
theorem RGu.new (w : World) (bm base : Nat) : RGu (w.alloc (.cells (rgZero (.pointer (some ⟨bm, 0, none⟩)) (-1)) 50)) w.heap.size bm base (.slice none 0 0) gs0 where
  mp :=
    { pool := by rw [World.cell?_alloc_new, rgZero_0]
      st := fun n hn => by rw [World.cell?_alloc_new, rgZero_st _ _ _ hn]; rfl
      th := fun n hn => by have := rgZero_lf (.pointer (some ⟨bm, 0, none⟩)) (-1) n 0 hn (by omega); rw [World.cell?_alloc_new]; exact this
      wr := fun n hn => by have := rgZero_lf (.pointer (some ⟨bm, 0, none⟩)) (-1) n 1 hn (by omega); rw [World.cell?_alloc_new]; exact this
      fr := fun n hn => by have := rgZero_lf (.pointer (some ⟨bm, 0, none⟩)) (-1) n 2 hn (by omega); rw [World.cell?_alloc_new]; exact this
      fz := fun o => World.frozen?_alloc_new _ _ _ _
      rs := fun o v _ hv => by
        rw [World.cell?_alloc_new]
        simp only [gRest] at hv
        split at hv
        · next e => subst e; rw [rgZero_65]; exact hv
        · split at hv
          · next e => subst e; rw [rgZero_66]; exact hv
          · split at hv
            · next e => subst e; rw [rgZero_67]; exact hv
            · cases hv }
  sl := SlC.nil _ _
  nb := fun k hk => by simp [Value.ownBlock] at hk
/-- What holds in each round. -/
structure GS (W w : World) (bg bp bf bl bc bx bm base : Nat) (s : Pl) (g : Gs) (k : Int) : Prop where
  gl : GL w bg bp bf bl bc bx bm base s g k
  up : Upd (fun _ => False) W w
  ge : W.heap.size ≤ bg ∧ W.heap.size ≤ bf ∧ W.heap.size ≤ bl ∧ W.heap.size ≤ bc ∧ W.heap.size ≤ bx ∧ W.heap.size ≤ bm
variable {W w w' : World} {bg bp bf bl bc bx bm base : Nat} {s : Pl} {g : Gs} {k : Int}
theorem GS.same (h : GS W w bg bp bf bl bc bx bm base s g k) (u : Upd (fun _ => False) w w') : GS W w' bg bp bf bl bc bx bm base s g k := ⟨h.gl.same u, h.up.trans u (fun _ _ f => f), h.ge⟩
theorem GS.act {s2 : Pl} {g2 : Gs} {k2 : Int} (h : GS W w bg bp bf bl bc bx bm base s g k) (hg : GL w' bg bp bf bl bc bx bm base s2 g2 k2) (u : Upd (LFt bg bf bl bc bx bm) w w') : GS W w' bg bp bf bl bc bx bm base s2 g2 k2 :=
  ⟨hg, h.up.trans u (fun i hi e => by have := h.ge; unfold LFt GFt at e; omega), h.ge⟩
/-- A copy goes on. -/
theorem GS.copied {w2 : World} {cg cp cf cl cc : Nat} (h : GS W w bg bp bf bl bc bx bm base s g k) (u : Upd (fun _ => False) w w') (hp : PoolAt w' cp cf s) (hc : GCell w' cg cp cl cc g.root g.walks) (hl : LvAt w' cl cp g.m) (ha : CaL w' cc (shows g.m g.c))
    (z : w.heap.size ≤ cp ∧ w.heap.size ≤ cf ∧ w.heap.size ≤ cg ∧ w.heap.size ≤ cl ∧ w.heap.size ≤ cc) (hap : GAp cg cp cf cl cc) (u2 : Upd (GFt bg bf bl bc) w' w2) : GS W w2 cg cp cf cl cc bx bm base s g (k + 1) := by
  have hlt := h.gl.lts
  have hgl := h.gl.same u
  obtain ⟨v, h1, h2⟩ := hgl.rg
  obtain ⟨v0, h10, h20⟩ := h.gl.rg
  have hL := h.gl.ap
  unfold LAp at hL
  have hge := h.ge
  have hlt2 : cf < w'.heap.size := hp.lt h.gl.p.hn
  have hus := h.up.size
  refine ⟨⟨⟨hc.upd u2 (by unfold GFt; omega), hp.upd u2 (by unfold GFt; omega) (by unfold GFt; omega) hlt2, hl.upd u2 (by unfold GFt; omega), ha.upd u2 (by unfold GFt; omega), hap, h.gl.p.inv.more (by omega), h.gl.p.di, h.gl.p.hn⟩, hgl.ref.upd u2 (by unfold GFt; omega), ⟨v0, (h10.upd u (fun f => f) (fun _ _ f => f)).upd u2 (by unfold GFt; omega) (fun j hj e => by have := h20 j hj; unfold GFt at e; omega), fun j hj => ?_⟩, ?_, Nat.le_trans hgl.base u2.size⟩, ?_, ?_⟩
  · have := (h10.sl.ownLt hj).2
    omega
  · unfold LAp; omega
  · exact (h.up.trans u (fun _ _ f => f)).trans u2 (fun i hi e => by unfold GFt at e; omega)
  · omega
theorem GS.start {n N bg bl bc : Nat} (hn : 1 ≤ n) (hn2 : n ≤ 64) (hU : Upd (fun _ => False) W w) (hp : PoolAt w (N + 1) N (pl0 n)) (hc : GCell w bg (N + 1) bl bc (-1) 0) (hl : LvAt w bl (N + 1) mp0) (ha : CaL w bc []) (hN : W.heap.size ≤ N) (z : N + 2 ≤ bl ∧ N + 2 ≤ bg ∧ N + 2 ≤ bc) (n1 : bg ≠ bl) (n2 : bg ≠ bc) (n3 : bl ≠ bc) :
    GS W ((w.alloc (.cells (refZero n) 39)).alloc (.cells (rgZero (.pointer (some ⟨w.heap.size, 0, none⟩)) (-1)) 50)) bg (N + 1) N bl bc (w.heap.size + 1) w.heap.size (w.heap.size + 2) (pl0 n) gs0 0 := by
  have u1 := (Upd.refl (fun _ => False) w).alloc (.cells (refZero n) 39)
  have u2 := (Upd.refl (fun _ => False) (w.alloc (.cells (refZero n) 39))).alloc (.cells (rgZero (.pointer (some ⟨w.heap.size, 0, none⟩)) (-1)) 50)
  have g0 := GG.start (show 0 < n by omega) hp hc hl ha (by unfold GAp; omega)
  have hr := RefAt.new w n hn2
  have hg := RGu.new (w.alloc (.cells (refZero n) 39)) w.heap.size (w.heap.size + 2)
  rw [World.size_alloc] at hg
  have l := g0.lts
  refine ⟨⟨(g0.same u1).same u2, hr.upd u2 (fun f => f), ⟨_, hg, fun k hk => by simp [Value.ownBlock] at hk⟩, by unfold LAp; omega, by simp⟩, (hU.trans u1 (fun _ _ f => f)).trans u2 (fun _ _ f => f), by have := hU.size; omega⟩
end Go.Proofs.YtadpibcgjgcjhaaGreat
/- The walk of undercroftlaw.GuestSays. -/
namespace Go.Proofs.YtadpibcgjgcjhaaGreat
open Go.ChangeShapes Go.WideShapes Go.ChangeAt Go.RowKit
set_option maxRecDepth 100000
attribute [local go_sem ↓] Go.wp_at_zero Go.wp_at_succ

theorem guested_at (w : World) (bg bp bf bl bc bx bm base : Nat) (s : Pl) (g : Gs) (W : Int) (x : Ac) (v : Bool) (hon : x.on = v) (h : GL w bg bp bf bl bc bx bm base s g W) (hW : W ≤ 1000000) (hv0 : 0 ≤ x.v) (hv1 : x.v ≤ 255) :
    Calls Tryz.prog 18 #[.pointer (some ⟨bg, 0, none⟩), .pointer (some ⟨bx, 0, none⟩), .agg #[.string x.kind, .int .i64 x.n, .int .i64 x.a, .int .i64 x.b, .int .u8 x.v, .bool v]] w
      fun e w' => e = .returned (.bool true) ∧ ∃ s2 g2, GL w' bg bp bf bl bc bx bm base s2 g2 (W + 1) ∧ Upd (LFt bg bf bl bc bx bm) w w' := by
  subst hon
  exact guested_any w bg bp bf bl bc bx bm base s g W x h hW hv0 hv1
set_option maxHeartbeats 2000000 in
theorem guest_walk (W : World) (n : Nat) (a : Option Addr) (len cap : Nat) (acts : Nat → Ac) (hn : 1 ≤ n) (hn2 : n ≤ 64) (hl : len ≤ 80) (hacts : ActsAt W a len acts) (hvs : ∀ k, k < len → 0 ≤ (acts k).v ∧ (acts k).v ≤ 255) :
    Calls Tryz.prog 3 #[.int .i64 n, .slice a len cap] W fun e w' => e = .returned (.bool true) ∧ Upd (fun _ => False) W w' := by
  have HA : Hid _ := hacts
  have HV : Hid _ := hvs
  clear hacts hvs
  have z1 := zero36
  have z2 := refZero_ne
  have z3 := refZero_set
  go_enter Tryz.func3, Tryz.ntmps3
  go_wp2_with fail
  refine (runs_any _).mono ?_
  rintro e w0 ⟨rfl, hu0⟩
  go_wp2_with fail
  refine (light_yes _ _ _ _ hl).mono ?_
  rintro e w1 ⟨rfl, rfl⟩
  go_wp2_with fail
  refine (new_any _ n hn hn2).mono ?_
  rintro e w2 ⟨rfl, hp, hu, hz⟩
  go_wp2_with fail
  refine (gNil _).mono ?_
  rintro e w3 ⟨rfl, hu3⟩
  go_wp2_with fail
  refine (same2 _).mono ?_
  rintro e w4 ⟨rfl, rfl⟩
  go_wp2_with fail
  refine (gNew _ _).mono ?_
  rintro e w5 ⟨bg, bl, bc, rfl, hc, hlv, hca, z4, z5, z6, n1, n2, n3, hu5⟩
  have su3 := hu3.size
  have su5 := hu5.size
  have su0 := hu0.size
  have hp5 := (hp.upd hu3 (fun f => f) (fun f => f) (by omega)).upd hu5 (fun f => f) (fun f => f) (by omega)
  have hU5 := ((hu0.trans hu (fun _ _ f => f)).trans hu3 (fun _ _ f => f)).trans hu5 (fun _ _ f => f)
  have HS0 : Hid _ := GS.start hn hn2 hU5 hp5 hc hlv hca su0 ⟨by omega, by omega, by omega⟩ n1 n2 n3
  clear hc hlv hca z4 z5 z6 n1 n2 n3 hu5 hu3 hu hu0 hp hz su3 su5 su0 hp5 hU5
  go_upto_region 14 with fail
  refine wp_region_lit ?_
  refine wpList_run (w' := w5.alloc (.cells (refZero n) 39)) (.pointer (some ⟨w5.heap.size, 0, none⟩)) rfl (by kernel_rfl) rfl ?_
  simp only [Act.put, List.setIfInBounds_toArray, List.set_cons_zero, List.set_cons_succ]
  refine wpList_run (w' := w5.alloc (.cells (refZero n) 39)) (.agg (rmZero (.pointer (some ⟨w5.heap.size, 0, none⟩)))) rfl (by kernel_rfl) rfl ?_
  simp only [Act.put, List.setIfInBounds_toArray, List.set_cons_zero, List.set_cons_succ]
  refine wpList_run (w' := w5.alloc (.cells (refZero n) 39)) (.agg (rgZero (.pointer (some ⟨w5.heap.size, 0, none⟩)) (-1))) rfl (by kernel_rfl) rfl ?_
  simp only [Act.put, List.setIfInBounds_toArray, List.set_cons_zero, List.set_cons_succ]
  refine wpList_run (w' := (w5.alloc (.cells (refZero n) 39)).alloc (.cells (rgZero (.pointer (some ⟨w5.heap.size, 0, none⟩)) (-1)) 50)) (.pointer (some ⟨w5.heap.size + 1, 0, none⟩)) rfl (by rw [← World.size_alloc w5 (.cells (refZero n) 39)]; kernel_rfl) rfl ?_
  simp only [Act.put, List.setIfInBounds_toArray, List.set_cons_zero, List.set_cons_succ]
  refine wpList_run (w' := (w5.alloc (.cells (refZero n) 39)).alloc (.cells (rgZero (.pointer (some ⟨w5.heap.size, 0, none⟩)) (-1)) 50)) (.pointer (some ⟨w5.heap.size + 1, 0, none⟩)) rfl (by kernel_rfl) rfl ?_
  simp only [Act.put, List.setIfInBounds_toArray, List.set_cons_zero, List.set_cons_succ]
  refine wpList_nil ?_
  revert HS0
  generalize (w5.alloc (.cells (refZero n) 39)).alloc (.cells (rgZero (.pointer (some ⟨w5.heap.size, 0, none⟩)) (-1)) 50) = w6
  generalize w5.heap.size = B
  intro HS0
  clear z1 z2 z3
  go_wp2_with fail
  go_loopg [6, 9, 12] len (fun gk pp pg i w => ∃ (k bg bp bf bl bc : Nat) (s : Pl) (g : Gs), k + gk = len ∧ i = .int .i64 k ∧ pp = .pointer (some ⟨bp, 0, none⟩) ∧ pg = .pointer (some ⟨bg, 0, none⟩) ∧ GS W w bg bp bf bl bc (B + 1) B (B + 2) s g k)
  case atStart => exact ⟨0, bg, _, _, bl, bc, _, _, by omega, rfl, rfl, rfl, HS0.out⟩
  case round =>
    clear HS0
    obtain ⟨k, bg, bp, bf, bl, bc, s, g, hk, rfl, rfl, rfl, hI⟩ := hrel
    have HK : Hid _ := hk
    clear hk
    by_cases hlt : k < len
    · obtain ⟨b, o, rfl, hx⟩ := HA.out k hlt
      have hvk := HV.out k hlt
      have hk80 : (k : Int) ≤ 1000000 := by omega
      clear HA HV
      generalize acts k = x at hx hvk
      have hx' := hx.upd hI.up (fun f => f)
      obtain ⟨x1, x2, x3, x4, x5, x6⟩ := hx'
      clear hx
      have HI : Hid (GS W wr bg bp bf bl bc (B + 1) B (B + 2) s g k) := hI
      clear hI
      by_cases kc : (x.kind.toList == [99, 111, 112, 121]) = true
      · clear hvk x2 x3 x4 x5 x6
        go_wp2_with fail
        refine (copy_any wr bp bf s HI.out.gl.p.pool HI.out.gl.p.hn).mono ?_
        rintro e w7 ⟨cp, cf, rfl, hpc, gcp, gcf, lcp, lcf, hu7⟩
        have HG7 : Hid (GG w7 bg bp bf bl bc s g mp0 k) := HI.out.gl.p.same hu7
        have su7 := hu7.size
        clear x1 kc
        go_wp2_with fail
        refine (HG7.out.copy cp).mono ?_
        rintro e w8 ⟨cg, cl, cc, rfl, hcg, hcl, hcc, z1, z2, z3, n1, n2, n3, hu8⟩
        have HG8 : Hid (GG w8 bg bp bf bl bc s g mp0 k) := HG7.out.same hu8
        have HP8 : Hid (PoolAt w8 cp cf s) := hpc.upd hu8 (fun f => f) (fun f => f) lcf
        have hcpf : cp ≠ cf := HP8.out.ne
        have HC8 : Hid (GCell w8 cg cp cl cc g.root g.walks) := hcg
        have HL8 : Hid (LvAt w8 cl cp g.m) := hcl
        have HCC8 : Hid (CaL w8 cc (shows g.m g.c)) := hcc
        have HU8 : Hid _ := hu7.trans hu8 (fun _ _ f => f)
        have HZ8 : Hid (wr.heap.size ≤ cp ∧ wr.heap.size ≤ cf ∧ wr.heap.size ≤ cg ∧ wr.heap.size ≤ cl ∧ wr.heap.size ≤ cc) := show _ ∧ _ by omega
        have HA8 : Hid (GAp cg cp cf cl cc) := by show GAp _ _ _ _ _; unfold GAp; omega
        clear hcg hcl hcc z1 z2 z3 n1 n2 n3 hu8 hu7 gcp gcf lcp lcf hpc HG7 su7 hcpf
        go_wp2_with fail
        refine (HG8.out.store 3 77 (by omega) (by omega) hk80).mono ?_
        rintro e w9 ⟨rfl, hg9, hu9⟩
        have HG9 : Hid _ := hg9
        have HU9 : Hid _ := hu9
        clear hg9 hu9 HG8
        go_wp2_with fail
        refine (GG.unplug HG9.out 0).mono ?_
        rintro e w10 ⟨rfl, hg10, hu10⟩
        have HG10 : Hid _ := hg10
        have HU10 : Hid _ := HU9.out.trans hu10 (fun _ _ e => e)
        clear hg10 hu10 HG9 HU9
        go_wp2_with fail
        refine (GG.setRoot HG10.out 2).mono ?_
        rintro e w11 ⟨rfl, hg11, hu11⟩
        have HG11 : Hid _ := hg11
        have HU11 : Hid _ := HU10.out.trans hu11 (fun _ _ e => e)
        clear hg11 hu11 HG10 HU10
        go_wp2_with fail
        refine (GG.forgetAll HG11.out 1).mono ?_
        rintro e w12 ⟨rfl, hg12, hu12⟩
        have HU12 : Hid _ := HU11.out.trans hu12 (fun _ _ e => e)
        clear hg12 hu12 HG11 HU11
        have HS : Hid (GS W w12 cg cp cf cl cc (B + 1) B (B + 2) s g (k + 1)) := HI.out.copied HU8.out HP8.out HC8.out HL8.out HCC8.out HZ8.out HA8.out HU12.out
        go_wp2_with fail
        go_roundg (len - (k + 1))
        case rel => exact ⟨k + 1, cg, cp, cf, cl, cc, s, g, by omega, by go_num, rfl, rfl, by exact_mod_cast HS.out⟩
        case measure => have := HK.out; omega
      · have kc' : (x.kind.toList == [99, 111, 112, 121]) = false := by simpa using kc
        clear kc
        go_wp2_with fail
        refine (guested_any _ bg bp bf bl bc (B + 1) B (B + 2) s g k x HI.out.gl hk80 hvk.1 hvk.2).mono ?_
        rintro e w7 ⟨rfl, s2, g2, hL, hu⟩
        have HS : Hid (GS W w7 bg bp bf bl bc (B + 1) B (B + 2) s2 g2 (k + 1)) := HI.out.act hL hu
        have HG : Hid _ := asGuest_any hL
        clear hL hu HI x1 x2 x3 x4 x5 x6 kc' hvk
        have hwr : IntKind.i64.wrap ((k : Int) % 7) = (k : Int) % 7 := by rw [IntKind.wrap_i64]; omega
        by_cases h7 : (k : Int) % 7 = 0
        · have d7 : ((k : Int) % 7 == 0) = true := by simp; omega
          go_wp2_with (go_at_call 19; refine Calls.mono HG.out ?_; rintro e w8 ⟨rfl, hu8⟩)
          have HS8 : Hid _ := HS.out.same hu8
          go_roundg (len - (k + 1))
          case rel => exact ⟨k + 1, bg, bp, bf, bl, bc, s2, g2, by omega, by go_num, rfl, rfl, by exact_mod_cast HS8.out⟩
          case measure => have := HK.out; omega
        · have d7 : ((k : Int) % 7 == 0) = false := by simp; omega
          go_wp2_with fail
          go_roundg (len - (k + 1))
          case rel => exact ⟨k + 1, bg, bp, bf, bl, bc, s2, g2, by omega, by go_num, rfl, rfl, by exact_mod_cast HS.out⟩
          case measure => have := HK.out; omega
    · have HI : Hid (GS W wr bg bp bf bl bc (B + 1) B (B + 2) s g k) := hI
      clear HA HV hI
      have HG : Hid _ := asGuest_any HI.out.gl
      go_wp2_with fail
      refine Calls.mono HG.out ?_
      rintro e w8 ⟨rfl, hu8⟩
      have HI8 : Hid (GS W w8 bg bp bf bl bc (B + 1) B (B + 2) s g k) := HI.out.same hu8
      clear HG HI hu8
      go_wp2_with fail
      refine (asPool_any w8 bp bf B s HI8.out.gl.p.pool HI8.out.gl.ref HI8.out.gl.p.hn).mono ?_
      rintro e w9 ⟨rfl, hu9⟩
      have HI9 : Hid _ := HI8.out.same hu9
      clear HI8 hu9
      go_wp2_with fail
      go_ret
      exact ⟨rfl, HI9.out.up⟩
end Go.Proofs.YtadpibcgjgcjhaaGreat
/- undercroftlaw.GuestSays: long lists, numbers out of range, and all together. -/
namespace Go.Proofs.YtadpibcgjgcjhaaGreat.GSays
open Go.ChangeShapes Go.WideShapes Go.ChangeAt Go.RowKit
set_option maxRecDepth 100000

theorem long (W : World) (n : Int) (a : Option Addr) (len cap : Nat) (hl : 80 < len) :
    Calls Tryz.prog 3 #[.int .i64 n, .slice a len cap] W fun e w' => e = .returned (.bool true) ∧ Upd (fun _ => False) W w' := by
  go_enter Tryz.func3, Tryz.ntmps3
  go_wp2_with fail
  refine (runs_any _).mono ?_
  rintro e w0 ⟨rfl, hu0⟩
  go_wp2_with fail
  refine (light_no _ _ _ _ hl).mono ?_
  rintro e w1 ⟨rfl, rfl⟩
  go_wp2_with fail
  go_ret
  exact ⟨rfl, hu0⟩
theorem out (W : World) (n : Int) (a : Option Addr) (len cap : Nat) (hl : len ≤ 80) (hn : n < 1 ∨ 64 < n) :
    Calls Tryz.prog 3 #[.int .i64 n, .slice a len cap] W fun e w' => e = .returned (.bool true) ∧ Upd (fun _ => False) W w' := by
  go_enter Tryz.func3, Tryz.ntmps3
  go_wp2_with fail
  refine (runs_any _).mono ?_
  rintro e w0 ⟨rfl, hu0⟩
  go_wp2_with fail
  refine (light_yes _ _ _ _ hl).mono ?_
  rintro e w1 ⟨rfl, rfl⟩
  go_wp2_with fail
  refine (new_no _ _ hn).mono ?_
  rintro e w3 ⟨rfl, rfl⟩
  go_wp2_with fail
  go_ret
  exact ⟨rfl, hu0⟩
theorem walk (n : Int) (a : Option Addr) (len cap : Nat) (acts : Nat → Ac) (W : World) (h : ActsAt W a len acts) (hv : ∀ k, k < len → 0 ≤ (acts k).v ∧ (acts k).v ≤ 255) :
    Calls Tryz.prog 3 #[.int .i64 n, .slice a len cap] W fun e w' => e = .returned (.bool true) ∧ Below W.heap.size W w' := by
  by_cases hl : len ≤ 80
  · by_cases hn : n < 1 ∨ 64 < n
    · exact (out W n a len cap hl hn).mono fun _ _ ⟨he, hu⟩ => ⟨he, hu.below⟩
    · obtain ⟨m, rfl⟩ := Int.eq_ofNat_of_zero_le (show 0 ≤ n by omega)
      exact (guest_walk W m a len cap acts (by omega) (by omega) hl h hv).mono fun _ _ ⟨he, hu⟩ => ⟨he, hu.below⟩
  · exact (long W n a len cap (by omega)).mono fun _ _ ⟨he, hu⟩ => ⟨he, hu.below⟩
theorem byte_wf {v : Int} (h : (Lit.int .u8 v).wf = true) : 0 ≤ v ∧ v ≤ 255 := by
  simp [Lit.wf] at h
  have h1 : IntKind.u8.min = 0 := by decide
  have h2 : IntKind.u8.max = 255 := by decide
  rw [h1, h2] at h
  exact h
end Go.Proofs.YtadpibcgjgcjhaaGreat.GSays
