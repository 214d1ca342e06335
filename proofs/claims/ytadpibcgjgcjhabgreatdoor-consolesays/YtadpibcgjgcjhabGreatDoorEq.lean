/- '==' on two frames' bytes: as the bytes are. -/
import Derived.Test.YtadpibcgjgcjhabGreatDoorRefD
namespace Go.Proofs.YtadpibcgjgcjhabGreatDoor
open Go.ChangeShapes Go.WideShapes Go.ChangeAt Go.RowKit
set_option maxRecDepth 100000
theorem size5 (w : World) : (sizeOf 5).run Tryz.prog w = .ok 1 w := by kernel_rfl
theorem isAgg5 (w : World) : (isAgg 5).run Tryz.prog w = .ok false w := by kernel_rfl
theorem part_row (g : Nat → Int) (i : Nat) (hi : i < 16) (w : World) : (part 5 (rowOf g).toArray (i * 1)).run Tryz.prog w = .ok (.int .u8 (g i)) w := by
  unfold part
  rw [Sem.run_bind, isAgg5]
  simp [rowOf_get g i hi]
theorem eq_loop (d : Nat) (g h : Nat → Int) (w : World) : ∀ l : List Nat, (∀ i ∈ l, i < 16) →
    (forIn l ((none, ()) : Option Bool × Unit) fun i (_ : Option Bool × Unit) => do
            let a ← part 5 (rowOf g).toArray (i * 1)
            let b ← part 5 (rowOf h).toArray (i * 1)
            let r ← Op.equalIn (d + 1) 5 a b
            if (!r) = true then pure (ForInStep.done (some false, ())) else pure (ForInStep.yield (none, ()))).run Tryz.prog w =
      .ok (if l.all (fun i => g i == h i) then (none, ()) else (some false, ())) w
  | [], _ => by simp
  | i :: l, hl => by
    have hi := hl i (by simp)
    rw [List.forIn_cons]
    simp only [Sem.run_bind, part_row g i hi, part_row h i hi, Result.andThen_ok, run_equalIn_int w d 5 .u8 .u8 _ _ Tryz.underlying5]
    cases he : (g i == h i) with
    | false => simp [he]
    | true =>
      have := eq_loop d g h w l (fun j hj => hl j (by simp [hj]))
      simp only [Bool.not_true, Bool.false_eq_true, if_false, Sem.run_pure, Result.andThen_ok]
      rw [this]
      simp [he]
theorem equalIn_rows (d : Nat) (g h : Nat → Int) (w : World) : (Op.equalIn (d + 2) 44 (.agg (rowOf g).toArray) (.agg (rowOf h).toArray)).run Tryz.prog w = .ok (sameTo g h 16) w := by
  rw [Op.equalIn, Sem.run_bind, run_underlying Tryz.underlying44 w]
  simp only [Result.andThen_ok, Sem.run_bind, size5, Std.Legacy.Range.forIn_eq_forIn_range']
  rw [eq_loop d g h w _ (by intro i hi; simp [Std.Legacy.Range.size] at hi; omega)]
  have e : (List.range' (0 : Nat) 16).all (fun i => g i == h i) = sameTo g h 16 := by simp [sameTo, List.range_eq_range']
  have e2 : (List.range' 0 ([:16] : Std.Legacy.Range).size 1) = List.range' 0 16 := by simp [Std.Legacy.Range.size]
  simp only [e2, e]
  cases sameTo g h 16 <;> simp
theorem eql_rows (g h : Nat → Int) (w : World) : (binOp .eql 44 (.agg (rowOf g).toArray) (.agg (rowOf h).toArray)).run Tryz.prog w = .ok (.bool (sameTo g h 16)) w := by
  simp only [binOp]
  simp [Op.equal, Op.maxDepth, equalIn_rows 9998 g h w]
end Go.Proofs.YtadpibcgjgcjhabGreatDoor
