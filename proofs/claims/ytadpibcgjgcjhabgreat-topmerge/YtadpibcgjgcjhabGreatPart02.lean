/- Take, Same, Sum and Fill of the document's answer; Same, Sum and Fill of package frames. -/
import Derived.Test.YtadpibcgjgcjhabGreatPart01
import Derived.Deep.AppendLies
import Derived.Deep.DeepCutAuto
import Derived.Deep.LoopGhost
import Derived.Deep.CutBlock
namespace Go.Proofs.YtadpibcgjgcjhabGreat
open Go.ChangeShapes Go.WideShapes Go.ChangeAt Go.RowKit
set_option maxRecDepth 100000

theorem zeroRow_eq : (rowOf fun _ => 0).toArray = #[.int .u8 0, .int .u8 0, .int .u8 0, .int .u8 0, .int .u8 0, .int .u8 0, .int .u8 0, .int .u8 0, .int .u8 0, .int .u8 0, .int .u8 0, .int .u8 0, .int .u8 0, .int .u8 0, .int .u8 0, .int .u8 0] := rfl
theorem info32 : (Tryz.prog.info? 82).map (·.size) = some 16 := by kernel_rfl
theorem wpList_zeroRow {ops : Array Oper} {rest : List Oper} {op : Oper} {a : Act} {w : World} {Q : Exit → Act → World → Prop} (hgd : op.guard = none) (x y : Operand) (ho : op.op = .store 82 x y)
    (b o : Nat) (hx : a.eval x = .pointer (some ⟨b, o, none⟩)) (hy : a.eval y = .agg #[.int .u8 0, .int .u8 0, .int .u8 0, .int .u8 0, .int .u8 0, .int .u8 0, .int .u8 0, .int .u8 0, .int .u8 0, .int .u8 0, .int .u8 0, .int .u8 0, .int .u8 0, .int .u8 0, .int .u8 0, .int .u8 0])
    (ht : w.there b o 16) (h : wpList Tryz.prog ops Q rest (a.put op.dst undef) (w.setCells b o (rowOf fun _ => 0))) : wpList Tryz.prog ops Q (op :: rest) a w :=
  wpList_store_mid hgd 82 x y ho b o (rowOf fun _ => 0).toArray hx (by rw [zeroRow_eq]; exact hy) ht info32 (all_oneCell_toArray (rowOf_one _)) h

/-- The first k bytes are alike. -/
def sameTo (g h : Nat → Int) (k : Nat) : Bool := (List.range k).all fun i => g i == h i
theorem sameTo_succ (g h : Nat → Int) (k : Nat) : sameTo g h (k + 1) = (sameTo g h k && (g k == h k)) := by simp [sameTo, List.range_succ, List.all_append]

theorem ret_bool {a b : Bool} (h : a = b) : Ending.returned (.bool a) = .returned (.bool b) := by rw [h]
end Go.Proofs.YtadpibcgjgcjhabGreat
/- Sum and Fill of the document's answer and of package frames; Same of package frames. -/
namespace Go.Proofs.YtadpibcgjgcjhabGreat
open Go.ChangeShapes Go.WideShapes Go.ChangeAt Go.RowKit
set_option maxRecDepth 100000

/-- The sum of the first k bytes. -/
def sumTo (g : Nat → Int) : Nat → Int
  | 0 => 2166136261
  | k + 1 => bits .xor .u32 (sumTo g k) (g k % 4294967296) * 16777619 % 4294967296
theorem sumTo_succ (g : Nat → Int) (k : Nat) : sumTo g (k + 1) = bits .xor .u32 (sumTo g k) (g k % 4294967296) * 16777619 % 4294967296 := rfl
theorem u32_eq {a b : Int} (h : a = b) : Value.int .u32 a = .int .u32 b := by rw [h]
def Pl.sum (s : Pl) (f : Int) : Int × Int := if s.used f then (sumTo (s.byt f.toNat) 16, 0) else (0, 2)
theorem index_row (g : Nat → Int) (k : Nat) (hk : k < 16) (w : World) : (Instr.index 82 (.agg (rowOf g).toArray) (.int .i64 k)).run Tryz.prog w = .ok (.int .u8 (g k)) w := by
  rcases k with _ | _ | _ | _ | _ | _ | _ | _ | _ | _ | _ | _ | _ | _ | _ | _ | k
  · kernel_rfl
  · kernel_rfl
  · kernel_rfl
  · kernel_rfl
  · kernel_rfl
  · kernel_rfl
  · kernel_rfl
  · kernel_rfl
  · kernel_rfl
  · kernel_rfl
  · kernel_rfl
  · kernel_rfl
  · kernel_rfl
  · kernel_rfl
  · kernel_rfl
  · kernel_rfl
  · omega
theorem ret_sum {a b : Int} {v : Value} (h : a = b) : Ending.returned (.tuple #[.int .u32 a, v]) = .returned (.tuple #[.int .u32 b, v]) := by rw [h]

theorem fill_from (w : World) (bp bf : Nat) (f g : Int) (s : Pl) (h : PoolAt w bp bf s) (hg : s.used g = false) :
    Calls Tryz.prog 104 #[.pointer (some ⟨bp, 0, none⟩), .int .i64 f, .int .i64 g] w fun e w' => e = .returned (.iface 60 (.int .i64 2)) ∧ w' = w := by
  go_enter Tryz.func104, Tryz.ntmps104
  go_wp2_with (go_at_call 81; refine (used_none _ _ _ _ _ h hg).mono ?_; rintro e w' ⟨rfl, rfl⟩)
  go_ret
  exact ⟨rfl, rfl⟩
theorem fill_none (w : World) (bp bf : Nat) (f g : Int) (s : Pl) (h : PoolAt w bp bf s) (hg : s.used g = true) (hf : s.used f = false) :
    Calls Tryz.prog 104 #[.pointer (some ⟨bp, 0, none⟩), .int .i64 f, .int .i64 g] w fun e w' => e = .returned (.iface 60 (.int .i64 2)) ∧ w' = w := by
  go_enter Tryz.func104, Tryz.ntmps104
  go_wp2_with (first | (go_at_call 81; refine (used_some _ _ _ _ _ h hg).mono ?_; rintro e w' ⟨rfl, rfl⟩) | (go_at_call 82; refine (alone_none _ _ _ _ _ h hf).mono ?_; rintro e w' ⟨rfl, rfl⟩))
  go_ret
  exact ⟨rfl, rfl⟩
theorem fill_held (w : World) (bp bf : Nat) (f g : Int) (s : Pl) (h : PoolAt w bp bf s) (hg : s.used g = true) (hf : s.used f = true) (hr : 1 < s.refs f.toNat) :
    Calls Tryz.prog 104 #[.pointer (some ⟨bp, 0, none⟩), .int .i64 f, .int .i64 g] w fun e w' => e = .returned (.iface 60 (.int .i64 4)) ∧ w' = w := by
  go_enter Tryz.func104, Tryz.ntmps104
  go_wp2_with (first | (go_at_call 81; refine (used_some _ _ _ _ _ h hg).mono ?_; rintro e w' ⟨rfl, rfl⟩) | (go_at_call 82; refine (alone_held _ _ _ _ _ h hf hr).mono ?_; rintro e w' ⟨rfl, rfl⟩))
  go_ret
  exact ⟨rfl, rfl⟩
theorem wpList_storeRow {ops : Array Oper} {rest : List Oper} {op : Oper} {a : Act} {w : World} {Q : Exit → Act → World → Prop} (hgd : op.guard = none) (x y : Operand) (ho : op.op = .store 82 x y)
    (b o : Nat) (g : Nat → Int) (hx : a.eval x = .pointer (some ⟨b, o, none⟩)) (hy : a.eval y = .agg (rowOf g).toArray)
    (ht : w.there b o 16) (h : wpList Tryz.prog ops Q rest (a.put op.dst undef) (w.setCells b o (rowOf g))) : wpList Tryz.prog ops Q (op :: rest) a w :=
  wpList_store_mid hgd 82 x y ho b o (rowOf g).toArray hx hy (by simpa [rowOf_length] using ht) (by simpa [rowOf_length] using info32) (all_oneCell_toArray (rowOf_one _)) h
theorem fill_yes (w : World) (bp bf : Nat) (f g : Int) (s : Pl) (h : PoolAt w bp bf s) (hg : s.used g = true) (hf : s.used f = true) (hr : s.refs f.toNat ≤ 1) :
    Calls Tryz.prog 104 #[.pointer (some ⟨bp, 0, none⟩), .int .i64 f, .int .i64 g] w fun e w' => e = .returned .nilIface ∧ w' = w.setCells bf (f.toNat * 17 + 1) (rowOf (s.byt g.toNat)) := by
  obtain ⟨f0, f1, _⟩ := (s.used_iff f).1 hf
  obtain ⟨g0, g1, _⟩ := (s.used_iff g).1 hg
  have hrg := h.range (f := g.toNat) (by omega)
  have ht := h.there (f := f.toNat) (by omega)
  go_enter Tryz.func104, Tryz.ntmps104
  go_wp2_with (first | (go_at_call 81; refine (used_some _ _ _ _ _ h hg).mono ?_; rintro e w' ⟨rfl, rfl⟩) | (go_at_call 82; refine (alone_yes _ _ _ _ _ h hf hr).mono ?_; rintro e w' ⟨rfl, rfl⟩) | (refine wpList_load_mid (by rfl) 82 _ (by rfl) bf (g.toNat * 17 + 1) (by rfl) (rowOf (s.byt g.toNat)) _ hrg Tryz.underlying82 (by rfl) (by rw [rowOf_length]; exact info32) ?_) | (refine wpList_storeRow (by rfl) _ _ (by rfl) bf (f.toNat * 17 + 1) (s.byt g.toNat) (by rfl) (by rfl) ht ?_))
  go_ret
  exact ⟨rfl, rfl⟩
theorem fill_any (w : World) (bp bf : Nat) (f g : Int) (s : Pl) (h : PoolAt w bp bf s) :
    Calls Tryz.prog 104 #[.pointer (some ⟨bp, 0, none⟩), .int .i64 f, .int .i64 g] w fun e w' => e = .returned (errV (s.fill f g).1) ∧ PoolAt w' bp bf (s.fill f g).2 ∧ Upd (fun k => k = bf) w w' := by
  cases hg : s.used g with
  | false =>
    refine (fill_from w bp bf f g s h hg).mono ?_
    rintro e w' ⟨rfl, rfl⟩
    simp only [Pl.fill, hg, Bool.and_false, Bool.false_eq_true, if_false]
    exact ⟨by rw [errV2], h, Upd.refl _ _⟩
  | true =>
    cases hf : s.used f with
    | false =>
      refine (fill_none w bp bf f g s h hg hf).mono ?_
      rintro e w' ⟨rfl, rfl⟩
      simp only [Pl.fill, hf, Bool.false_and, Bool.false_eq_true, if_false]
      exact ⟨by rw [errV2], h, Upd.refl _ _⟩
    | true =>
      obtain ⟨f0, f1, _⟩ := (s.used_iff f).1 hf
      by_cases hr : 1 < s.refs f.toNat
      · refine (fill_held w bp bf f g s h hg hf hr).mono ?_
        rintro e w' ⟨rfl, rfl⟩
        simp only [Pl.fill, hf, hg, Bool.and_true, if_true, hr]
        exact ⟨by rw [errV4], h, Upd.refl _ _⟩
      · refine (fill_yes w bp bf f g s h hg hf (by omega)).mono ?_
        rintro e w' ⟨rfl, rfl⟩
        simp only [Pl.fill, hf, hg, Bool.and_true, if_true, hr, if_false]
        exact ⟨by rw [errV_zero], h.setRow (by omega) _, Upd.row _ _ _ _⟩
end Go.Proofs.YtadpibcgjgcjhabGreat
/- '==' on two frames' bytes: as the bytes are. -/
namespace Go.Proofs.YtadpibcgjgcjhabGreat
open Go.ChangeShapes Go.WideShapes Go.ChangeAt Go.RowKit
set_option maxRecDepth 100000
theorem size5 (w : World) : (sizeOf 5).run Tryz.prog w = .ok 1 w := by kernel_rfl
theorem isAgg5 (w : World) : (isAgg 5).run Tryz.prog w = .ok false w := by kernel_rfl
theorem part_row (g : Nat → Int) (i : Nat) (hi : i < 16) (w : World) : (part 5 (rowOf g).toArray (i * 1)).run Tryz.prog w = .ok (.int .u8 (g i)) w := by
  unfold part
  rw [Sem.run_bind, isAgg5]
  simp [rowOf_get g i hi]
theorem eq_loop (d : Nat) (g h : Nat → Int) (w : World) : ∀ l : List Nat, (∀ i ∈ l, i < 16) →
    (forIn l ((none, ()) : Option Bool × Unit) fun i (_ : Option Bool × Unit) => do
            let a ← part 5 (rowOf g).toArray (i * 1)
            let b ← part 5 (rowOf h).toArray (i * 1)
            let r ← Op.equalIn (d + 1) 5 a b
            if (!r) = true then pure (ForInStep.done (some false, ())) else pure (ForInStep.yield (none, ()))).run Tryz.prog w =
      .ok (if l.all (fun i => g i == h i) then (none, ()) else (some false, ())) w
  | [], _ => by simp
  | i :: l, hl => by
    have hi := hl i (by simp)
    rw [List.forIn_cons]
    simp only [Sem.run_bind, part_row g i hi, part_row h i hi, Result.andThen_ok, run_equalIn_int w d 5 .u8 .u8 _ _ Tryz.underlying5]
    cases he : (g i == h i) with
    | false => simp [he]
    | true =>
      have := eq_loop d g h w l (fun j hj => hl j (by simp [hj]))
      simp only [Bool.not_true, Bool.false_eq_true, if_false, Sem.run_pure, Result.andThen_ok]
      rw [this]
      simp [he]
theorem equalIn_rows (d : Nat) (g h : Nat → Int) (w : World) : (Op.equalIn (d + 2) 82 (.agg (rowOf g).toArray) (.agg (rowOf h).toArray)).run Tryz.prog w = .ok (sameTo g h 16) w := by
  rw [Op.equalIn, Sem.run_bind, run_underlying Tryz.underlying82 w]
  simp only [Result.andThen_ok, Sem.run_bind, size5, Std.Legacy.Range.forIn_eq_forIn_range']
  rw [eq_loop d g h w _ (by intro i hi; simp [Std.Legacy.Range.size] at hi; omega)]
  have e : (List.range' (0 : Nat) 16).all (fun i => g i == h i) = sameTo g h 16 := by simp [sameTo, List.range_eq_range']
  have e2 : (List.range' 0 ([:16] : Std.Legacy.Range).size 1) = List.range' 0 16 := by simp [Std.Legacy.Range.size]
  simp only [e2, e]
  cases sameTo g h 16 <;> simp
theorem eql_rows (g h : Nat → Int) (w : World) : (binOp .eql 82 (.agg (rowOf g).toArray) (.agg (rowOf h).toArray)).run Tryz.prog w = .ok (.bool (sameTo g h 16)) w := by
  simp only [binOp]
  simp [Op.equal, Op.maxDepth, equalIn_rows 9998 g h w]
end Go.Proofs.YtadpibcgjgcjhabGreat
/- Same of package frames. -/
namespace Go.Proofs.YtadpibcgjgcjhabGreat
open Go.ChangeShapes Go.WideShapes Go.ChangeAt Go.RowKit
set_option maxRecDepth 100000
attribute [local go_sem ↓] Go.wp_at_zero Go.wp_at_succ

/-- A whole row is read in a region that draws its order, the quiet walk's step. -/
theorem wpQuiet_loadRow {ops : Array Oper} {C : World → Prop} {Q : Act → Prop} {a : Act} {o : Oper} {rest : List Oper} (hw : Region.wanted o (yielded ops a.tmps) = true) (x : Operand) (ho : o.op = .load 82 x)
    (b off : Nat) (hx : a.eval x = .pointer (some ⟨b, off, none⟩)) (cs : List Value) (hc : ∀ w, C w → w.rangeAt b off cs) (hi : (Tryz.prog.info? 82).map (·.size) = some cs.length)
    (h : wpQuiet Tryz.prog ops C Q rest (a.put o.dst (.agg cs.toArray))) : wpQuiet Tryz.prog ops C Q (o :: rest) a := by
  unfold wpQuiet
  rw [if_pos hw]
  refine ⟨.agg cs.toArray, fun w hC => ?_, h⟩
  unfold Oper.quietAt execOp
  simp only [ho, hx, Instr.loadAt, Instr.sureAddr, Sem.run_bind, Sem.run_pure, Result.andThen_ok, run_loadVar_mid w b off 82 cs _ (hc w hC) Tryz.underlying82 rfl hi]
  exact ⟨rfl, rfl⟩
theorem same_no (w : World) (bp bf : Nat) (f g : Int) (s : Pl) (h : PoolAt w bp bf s) (hu : (s.used f && s.used g) = false) :
    Calls Tryz.prog 67 #[.pointer (some ⟨bp, 0, none⟩), .int .i64 f, .int .i64 g] w fun e w' => e = .returned (.bool false) ∧ ∃ m, w' = w.drewN m := by
  cases hf : s.used f with
  | false =>
    go_enter Tryz.func67, Tryz.ntmps67
    go_wp2_with fail
    refine (used_none _ _ _ _ _ h hf).mono ?_
    rintro e w' ⟨rfl, rfl⟩
    go_wp2_with fail
    refine (used_any _ _ _ _ _ h).mono ?_
    rintro e w' ⟨rfl, rfl⟩
    generalize (if s.used g then some (⟨bf, g.toNat * 17, none⟩ : Addr) else none) = pg
    go_wp2_with fail
    go_quiet (fail)
    go_wp2_with fail
    go_ret
    exact ⟨rfl, _, rfl⟩
  | true =>
    have hg : s.used g = false := by simpa [hf] using hu
    go_enter Tryz.func67, Tryz.ntmps67
    go_wp2_with fail
    refine (used_some _ _ _ _ _ h hf).mono ?_
    rintro e w' ⟨rfl, rfl⟩
    go_wp2_with fail
    refine (used_none _ _ _ _ _ h hg).mono ?_
    rintro e w' ⟨rfl, rfl⟩
    go_wp2_with fail
    go_quiet (fail)
    go_wp2_with fail
    go_ret
    exact ⟨rfl, _, rfl⟩
theorem same_yes (w : World) (bp bf : Nat) (f g : Int) (s : Pl) (h : PoolAt w bp bf s) (hf : s.used f = true) (hg : s.used g = true) :
    Calls Tryz.prog 67 #[.pointer (some ⟨bp, 0, none⟩), .int .i64 f, .int .i64 g] w fun e w' => e = .returned (.bool (sameTo (s.byt f.toNat) (s.byt g.toNat) 16)) ∧ ∃ m, w' = w.drewN m := by
  obtain ⟨f0, f1, _⟩ := (s.used_iff f).1 hf
  obtain ⟨g0, g1, _⟩ := (s.used_iff g).1 hg
  have hrf := h.range (f := f.toNat) (by omega)
  have hrg := h.range (f := g.toNat) (by omega)
  have e1 := rowOf_length (s.byt f.toNat)
  have e2 := rowOf_length (s.byt g.toNat)
  have he := eql_rows (s.byt f.toNat) (s.byt g.toNat)
  revert hrf hrg e1 e2 he
  generalize rowOf (s.byt f.toNat) = c1
  generalize rowOf (s.byt g.toNat) = c2
  generalize sameTo (s.byt f.toNat) (s.byt g.toNat) 16 = r
  intro hrf hrg e1 e2 he
  have i1 : (Tryz.prog.info? 82).map (·.size) = some c1.length := by rw [e1]; exact info32
  have i2 : (Tryz.prog.info? 82).map (·.size) = some c2.length := by rw [e2]; exact info32
  go_enter Tryz.func67, Tryz.ntmps67
  go_wp2_with fail
  refine (used_some _ _ _ _ _ h hf).mono ?_
  rintro e w' ⟨rfl, rfl⟩
  go_wp2_with fail
  refine (used_some _ _ _ _ _ h hg).mono ?_
  rintro e w' ⟨rfl, rfl⟩
  go_wp2_with fail
  refine wp_region_quiet_lit (by kernel_rfl) (by kernel_rfl) ?_
  repeat (first
    | (refine wpQuiet_loadRow (by rfl) _ (by rfl) bf (f.toNat * 17 + 1) (by rfl) c1 (by rintro _ ⟨n, rfl⟩; exact hrf) i1 ?_; simp only [Act.put, List.setIfInBounds_toArray, List.set_cons_zero, List.set_cons_succ])
    | (refine wpQuiet_loadRow (by rfl) _ (by rfl) bf (g.toNat * 17 + 1) (by rfl) c2 (by rintro _ ⟨n, rfl⟩; exact hrg) i2 ?_; simp only [Act.put, List.setIfInBounds_toArray, List.set_cons_zero, List.set_cons_succ])
    | go_big_quiet_step (fail))
  refine wpQuiet_nil ?_
  intro _ hw'
  obtain ⟨nq, hw''⟩ := hw'
  subst hw''
  go_wp2_with fail
  go_ret
  exact ⟨rfl, _, rfl⟩
theorem same_any (w : World) (bp bf : Nat) (f g : Int) (s : Pl) (h : PoolAt w bp bf s) :
    Calls Tryz.prog 67 #[.pointer (some ⟨bp, 0, none⟩), .int .i64 f, .int .i64 g] w fun e w' => e = .returned (.bool (s.same f g)) ∧ ∃ m, w' = w.drewN m := by
  cases hu : (s.used f && s.used g) with
  | false =>
    have e : s.same f g = false := by simp only [Pl.same, hu, Bool.false_and]
    rw [e]
    exact same_no w bp bf f g s h hu
  | true =>
    have e : s.same f g = sameTo (s.byt f.toNat) (s.byt g.toNat) 16 := by simp only [Pl.same, hu, Bool.true_and, sameTo]
    rw [e]
    simp only [Bool.and_eq_true] at hu
    exact same_yes w bp bf f g s h hu.1 hu.2
end Go.Proofs.YtadpibcgjgcjhabGreat
/- Copy of package frames, with slices.Clone beneath it. -/
namespace Go.Proofs.YtadpibcgjgcjhabGreat
open Go.ChangeShapes Go.WideShapes Go.ChangeAt Go.RowKit
set_option maxRecDepth 100000

/-- Cell number i of the frames' block. -/
def poolCell (s : Pl) (i : Nat) : Value := if i % 17 = 0 then .int .i64 (s.refs (i / 17)) else .int .u8 (s.byt (i / 17) (i % 17 - 1))
theorem PoolAt.cellAt {w : World} {bp bf : Nat} {s : Pl} (h : PoolAt w bp bf s) {i : Nat} (hi : i < s.n * 17) : w.cell? ⟨bf, i, none⟩ = some (poolCell s i) := by
  unfold poolCell
  split
  · have := h.refs (i / 17) (by omega)
    rw [show i / 17 * 17 = i by omega] at this
    exact this
  · have := h.byt (i / 17) (i % 17 - 1) (by omega) (by omega)
    rw [show i / 17 * 17 + 1 + (i % 17 - 1) = i by omega] at this
    exact this
def poolCells (s : Pl) : List Value := (List.range (s.n * 17)).map (poolCell s)
theorem poolCells_length (s : Pl) : (poolCells s).length = s.n * 17 := by simp [poolCells]
theorem poolCells_get (s : Pl) (i : Nat) (hi : i < s.n * 17) : (poolCells s)[i]? = some (poolCell s i) := by simp [poolCells, hi]
theorem poolCells_one (s : Pl) : ∀ v ∈ poolCells s, v.oneCell' = true := by
  intro v hv
  simp only [poolCells, List.mem_map] at hv
  obtain ⟨i, _, rfl⟩ := hv
  unfold poolCell
  split <;> rfl

set_option maxHeartbeats 400000 in
theorem clone_walk (w : World) (bp bf cap : Nat) (s : Pl) (h : PoolAt w bp bf s) (hn : 0 < s.n) :
    Calls Tryz.prog 72 #[.slice (some ⟨bf, 0, none⟩) s.n cap] w fun e w' => ∃ g cap', e = .returned (.slice (some ⟨g, 0, none⟩) s.n cap') ∧ w'.ownsRow w.heap.size 84 17 (.slice (some ⟨g, 0, none⟩) s.n cap') s.n (poolCells s) ∧ Upd (fun _ => False) w w' := by
  have hl := h.le
  have hq : (binOp .eql 68 (.slice (some ⟨bf, 0, none⟩) s.n cap) (.slice none 0 0)).run Tryz.prog w = .ok (.bool false) w := Lib.run_eql_slice_nil w 68 84 _ _ _ _ _ Tryz.underlying68
  obtain ⟨i, hi, he⟩ := Option.map_eq_some_iff.1 info68
  simp only [Prod.mk.injEq] at he
  obtain ⟨he1, he2, he3⟩ := he
  have hb : bf < w.heap.size := World.block_lt_of_cell? w _ (h.refs 0 hn)
  have hown : (w.alloc (.cells #[] 84)).ownsRow w.heap.size 84 17 (.slice (some ⟨w.heap.size, 0, none⟩) 0 0) 0 [] :=
    ⟨rfl, Or.inr ⟨w.heap.size, 0, #[], rfl, Nat.le_refl _, by show (w.heap.push _)[w.heap.size]? = _; simp, Nat.le_refl _, by unfold maxLen; omega, rfl, rfl⟩⟩
  have hnews : ∀ j u, (poolCells s)[j]? = some u → (w.alloc (.cells #[] 84)).cell? ((⟨bf, 0, none⟩ : Addr).add j) = some u := by
    intro j u hu
    have hj : j < s.n * 17 := by have := (List.getElem?_eq_some_iff.1 hu).1; rw [poolCells_length] at this; exact this
    rw [poolCells_get s j hj] at hu
    rw [Addr.add_mid, Nat.zero_add, World.cell?_alloc_lt _ _ _ hb, h.cellAt hj]
    exact hu
  have HE1 : Hid _ := he1
  have HE2 : Hid _ := he2
  have HE3 : Hid _ := he3
  have HI : Hid _ := hi
  have HN : Hid _ := hnews
  have HO : Hid _ := hown
  clear he1 he2 he3 hi hnews hown
  go_enter Tryz.func72, Tryz.ntmps72
  go_wp2_with (at_builtin; refine wpList_append_lies _ (by rfl) _ _ 68 (by rfl) w.heap.size 84 i (.agg zeroFrame) 17 24 Tryz.underlying68 HI.out HE3.out HE1.out HE2.out (by rfl) (by omega) (.slice (some ⟨w.heap.size, 0, none⟩) 0 0) 0 [] (by rfl) HO.out ⟨bf, 0, none⟩ s.n cap (poolCells s) (by rfl) (poolCells_length s) HN.out (poolCells_one s) hn (by unfold maxLen; omega) (by omega) (by simp) (w.heap.size + 1) (by simp) ?_; intro g cap' w1 hown1 hgrow hat hlt)
  rw [Nat.zero_add] at *
  go_ret
  refine ⟨g, cap', rfl, hown1, hgrow.os, hgrow.tape, hgrow.output, ?_, ?_⟩
  · have := hgrow.size
    simp only [World.size_alloc] at this
    omega
  · intro k hk _
    rw [hgrow.block k (by simp only [World.size_alloc]; omega) (by simp [Value.ownBlock]; omega)]
    exact Below.heap_alloc _ _ _ hk

theorem owned_pool {w : World} {base g cap bp : Nat} {s : Pl} (hg : w.ownsRow base 84 17 (.slice (some ⟨g, 0, none⟩) s.n cap) s.n (poolCells s))
    (hd : ∃ cap : Nat, w.cell? ⟨bp, 0, none⟩ = some (.slice (some ⟨g, 0, none⟩) s.n cap)) (ne : bp ≠ g) (le : s.n ≤ 64) (nn : ∀ f, f < s.n → 0 ≤ s.refs f) : PoolAt w bp g s := by
  rcases hg.2 with ⟨h0, _⟩ | ⟨g', cap', cur, hv, _, hb, _, _, _, ht⟩
  · cases h0
  · simp only [Value.slice.injEq, Option.some.injEq, Addr.mk.injEq, and_true, true_and] at hv
    obtain ⟨rfl, rfl⟩ := hv
    have hc : ∀ i, i < s.n * 17 → w.cell? ⟨g, i, none⟩ = some (poolCell s i) := by
      intro i hi
      rw [cell_of_row w g i cur 84 (0, 0) hb]
      have := poolCells_get s i hi
      rw [← ht, List.getElem?_take_of_lt hi] at this
      simpa using this
    refine ⟨hd, ?_, ?_, ?_, ne, le, nn⟩
    · intro f hf
      rw [hc _ (by omega)]
      unfold poolCell
      rw [if_pos (by omega), show f * 17 / 17 = f by omega]
    · intro f i hf hi
      rw [hc _ (by omega)]
      unfold poolCell
      rw [if_neg (by omega), show (f * 17 + 1 + i) / 17 = f by omega, show (f * 17 + 1 + i) % 17 - 1 = i by omega]
    · intro o
      simp [World.frozen?, hb]

theorem ownsRow_more {w : World} {base e size n : Nat} {v : Value} {xs : List Value} (h : w.ownsRow base e size v n xs) (o : Obj) : (w.alloc o).ownsRow base e size v n xs := by
  refine ⟨h.1, ?_⟩
  rcases h.2 with h0 | ⟨g, cap, cur, hv, hg, hb, r⟩
  · exact Or.inl h0
  · have hlt : g < w.heap.size := by
      rcases Nat.lt_or_ge g w.heap.size with hlt | hge
      · exact hlt
      · rw [Array.getElem?_eq_none hge] at hb; cases hb
    exact Or.inr ⟨g, cap, cur, hv, hg, by rw [Below.heap_alloc _ _ _ hlt]; exact hb, r⟩

theorem copy_any (w : World) (bp bf : Nat) (s : Pl) (h : PoolAt w bp bf s) (hn : 0 < s.n) :
    Calls Tryz.prog 49 #[.pointer (some ⟨bp, 0, none⟩)] w fun e w' => ∃ cp cf, e = .returned (.pointer (some ⟨cp, 0, none⟩)) ∧ PoolAt w' cp cf s ∧ w.heap.size ≤ cp ∧ w.heap.size ≤ cf ∧ cp < w'.heap.size ∧ cf < w'.heap.size ∧ Upd (fun _ => False) w w' := by
  obtain ⟨cap, h1⟩ := h.hd
  go_enter Tryz.func49, Tryz.ntmps49
  go_wp2_with fail
  refine (clone_walk _ bp bf cap s h hn).mono ?_
  rintro e w1 ⟨g, cap', rfl, hown, hu⟩
  go_wp2_with fail
  go_ret
  obtain ⟨g', cap2, hv, hge, hlt⟩ := hown.form hn
  simp only [Value.slice.injEq, Option.some.injEq, Addr.mk.injEq, and_true, true_and] at hv
  obtain ⟨rfl, rfl⟩ := hv
  refine ⟨w1.heap.size, g, rfl, owned_pool (ownsRow_more hown _) ⟨cap', ?_⟩ (by omega) h.le h.nn, hu.size, hge, by simp, by simp only [World.size_alloc]; omega, hu.alloc _⟩
  rw [World.cell?_alloc_new]
  rfl
end Go.Proofs.YtadpibcgjgcjhabGreat
/- The law's own helpers: same. -/
namespace Go.Proofs.YtadpibcgjgcjhabGreat
open Go.ChangeShapes Go.WideShapes Go.ChangeAt Go.RowKit
set_option maxRecDepth 100000

theorem assert61 (w : World) (v : Value) : (Instr.typeAssert (.iface 60 v) 25 60 true).run Tryz.prog w = .ok (.tuple #[v, .bool true]) w := by kernel_rfl
theorem PoolAt.drewN {w : World} {bp bf : Nat} {s : Pl} (h : PoolAt w bp bf s) (n : Nat) : PoolAt (w.drewN n) bp bf s := ⟨h.hd, h.refs, h.byt, h.fz, h.ne, h.le, h.nn⟩
theorem RefAt.drewN {w : World} {bm : Nat} {s : Pl} (h : RefAt w bm s) (n : Nat) : RefAt (w.drewN n) bm s := ⟨h.num, h.byt, h.refs, h.fz, h.le, h.nn⟩
theorem of_code (s : Pl) (f : Int) : 0 ≤ (s.of f).2.2 := by unfold Pl.of; split <;> simp
theorem sum_code (s : Pl) (f : Int) : 0 ≤ (s.sum f).2 := by unfold Pl.sum; split <;> simp
theorem get_code (s : Pl) (f i : Int) : 0 ≤ (s.get f i).2 := by
  unfold Pl.get
  split
  · simp
  · split <;> simp

theorem take3 (w : World) (bp bf : Nat) (h : PoolAt w bp bf (pl0 3)) :
    Calls Tryz.prog 103 #[.pointer (some ⟨bp, 0, none⟩)] w fun e w' => e = .returned (.tuple #[.int .i64 0, .nilIface]) ∧ PoolAt w' bp bf { pl0 3 with refs := setAt (pl0 3).refs 0 1, byt := setAt (pl0 3).byt 0 fun _ => 0 } ∧ Upd (fun k => k = bf) w w' := by
  refine (take_at w bp bf 0 (pl0 3) h (by decide) rfl (fun i hi => absurd hi (by omega))).mono ?_
  rintro e w' ⟨rfl, rfl⟩
  refine ⟨rfl, ?_, (Upd.row _ _ _ _).trans (Upd.one _ _ _ _) (fun _ _ e => e)⟩
  exact (h.setRow (f := 0) (by decide) (fun _ => 0)).setRef (f := 0) (by decide) (by omega)
theorem new3 (w : World) : Calls Tryz.prog 12 #[.int .i64 3] w fun e w' => e = .returned (.tuple #[.pointer (some ⟨w.heap.size + 1, 0, none⟩), .nilIface]) ∧ PoolAt w' (w.heap.size + 1) w.heap.size (pl0 3) ∧ Upd (fun _ => False) w w' ∧ w'.heap.size = w.heap.size + 2 :=
  new_any w 3 (by omega) (by omega)
theorem left2 (w : World) (bp bf : Nat) (h : PoolAt w bp bf { pl0 3 with refs := setAt (pl0 3).refs 0 1, byt := setAt (pl0 3).byt 0 fun _ => 0 }) :
    Calls Tryz.prog 25 #[.pointer (some ⟨bp, 0, none⟩)] w fun e w' => e = .returned (.int .i64 2) ∧ w' = w := left_any w bp bf _ h
theorem size3 (w : World) (bp bf : Nat) (h : PoolAt w bp bf { pl0 3 with refs := setAt (pl0 3).refs 0 1, byt := setAt (pl0 3).byt 0 fun _ => 0 }) :
    Calls Tryz.prog 56 #[.pointer (some ⟨bp, 0, none⟩)] w fun e w' => e = .returned (.int .i64 3) ∧ w' = w := size_any w bp bf _ h
end Go.Proofs.YtadpibcgjgcjhabGreat
/- The law's asPool: a pool has what its model has. -/
namespace Go.Proofs.YtadpibcgjgcjhabGreat
open Go.ChangeShapes Go.WideShapes Go.ChangeAt Go.RowKit
set_option maxRecDepth 100000

/-- The box of a frame's description. -/
structure FrAt (w : World) (q : Nat) (c r : Int) : Prop where
  c0 : w.cell? ⟨q, 0, none⟩ = some (.int .i64 c)
  c1 : w.cell? ⟨q, 1, none⟩ = some (.int .i64 r)
theorem FrAt.upd {S : Nat → Prop} {w w' : World} {q : Nat} {c r : Int} (h : FrAt w q c r) (u : Upd S w w') (hq : ¬ S q) : FrAt w' q c r := ⟨u.cell h.c0 hq, u.cell h.c1 hq⟩
theorem FrAt.new (w : World) (c r : Int) : FrAt (w.alloc (.cells #[.int .i64 c, .int .i64 r] 135)) w.heap.size c r := ⟨by rw [World.cell?_alloc_new]; rfl, by rw [World.cell?_alloc_new]; rfl⟩

end Go.Proofs.YtadpibcgjgcjhabGreat
/- The model's pool as it is made: a literal of 1,089 cells, by a law. -/
namespace Go.Proofs.YtadpibcgjgcjhabGreat
open Go.ChangeShapes Go.WideShapes Go.ChangeAt Go.RowKit
set_option maxRecDepth 100000

def refTail (a b : Nat) : List Value := List.replicate a (.int .u8 0) ++ List.replicate b (.int .i64 0)
theorem refTail_byt (a b i : Nat) (h : i < a) : (refTail a b)[i]? = some (.int .u8 0) := by
  unfold refTail
  rw [List.getElem?_append_left (by rw [List.length_replicate]; exact h), List.getElem?_replicate, if_pos h]
theorem refTail_refs (a b i : Nat) (h : i < b) : (refTail a b)[a + i]? = some (.int .i64 0) := by
  unfold refTail
  rw [List.getElem?_append_right (by rw [List.length_replicate]; omega), List.length_replicate, List.getElem?_replicate, if_pos (by omega)]
def refZero (n : Int) : Array Value := (.int .i64 n :: refTail 1024 64).toArray
theorem refZero_ne : ¬ refZero 0 = #[] := by
  unfold refZero
  simp
theorem refZero_set (v : Int) : (refZero 0).setIfInBounds 0 (.int .i64 v) = refZero v := by
  unfold refZero
  simp
theorem refZero_num (n : Int) : (refZero n)[0]? = some (.int .i64 n) := by
  unfold refZero
  simp
theorem refZero_byt (n : Int) (i : Nat) (h : i < 1024) : (refZero n)[1 + i]? = some (.int .u8 0) := by
  unfold refZero
  rw [Nat.add_comm, List.getElem?_toArray, List.getElem?_cons_succ]
  exact refTail_byt 1024 64 i h
theorem refZero_refs (n : Int) (i : Nat) (h : i < 64) : (refZero n)[1025 + i]? = some (.int .i64 0) := by
  unfold refZero
  rw [show 1025 + i = (1024 + i) + 1 by omega, List.getElem?_toArray, List.getElem?_cons_succ]
  exact refTail_refs 1024 64 i h
end Go.Proofs.YtadpibcgjgcjhabGreat
/- The walk of undercrofttop.TopPool. -/
namespace Go.Proofs.YtadpibcgjgcjhabGreat
open Go.ChangeShapes Go.WideShapes Go.ChangeAt Go.RowKit
set_option maxRecDepth 100000

theorem light_yes (w : World) (a : Option Addr) (len cap : Nat) (h : len ≤ 80) :
    Calls Tryz.prog 5 #[.slice a len cap, .int .i64 80] w fun e w' => e = .returned (.bool true) ∧ w' = w := by
  have hd : decide ((len : Int) ≤ 80) = true := by simp; omega
  go_enter Tryz.func5, Tryz.ntmps5
  go_wp2
  go_ret
  exact ⟨rfl, rfl⟩
theorem light_no (w : World) (a : Option Addr) (len cap : Nat) (h : 80 < len) :
    Calls Tryz.prog 5 #[.slice a len cap, .int .i64 80] w fun e w' => e = .returned (.bool false) ∧ w' = w := by
  have hd : decide ((len : Int) ≤ 80) = false := by simp; omega
  go_enter Tryz.func5, Tryz.ntmps5
  go_wp2
  go_ret
  exact ⟨rfl, rfl⟩

def zeroB : Array Value := Array.replicate 1024 (.int .u8 0)
def zeroR : Array Value := Array.replicate 64 (.int .i64 0)
/-- An act of a statement's input, and where it lies. -/
structure Ac where
  kind : ByteArray
  n : Int
  a : Int
  b : Int
  v : Int
  on : Bool
structure ActAt (w : World) (b o : Nat) (x : Ac) : Prop where
  c0 : w.cell? ⟨b, o, none⟩ = some (.string x.kind)
  c1 : w.cell? ⟨b, o + 1, none⟩ = some (.int .i64 x.n)
  c2 : w.cell? ⟨b, o + 2, none⟩ = some (.int .i64 x.a)
  c3 : w.cell? ⟨b, o + 3, none⟩ = some (.int .i64 x.b)
  c4 : w.cell? ⟨b, o + 4, none⟩ = some (.int .u8 x.v)
  c5 : w.cell? ⟨b, o + 5, none⟩ = some (.bool x.on)
def ActsAt (w : World) (a : Option Addr) (len : Nat) (acts : Nat → Ac) : Prop := ∀ k, k < len → ∃ b o, a = some ⟨b, o, none⟩ ∧ ActAt w b (o + k * 6) (acts k)
theorem ActAt.upd {S : Nat → Prop} {w w' : World} {b o : Nat} {x : Ac} (h : ActAt w b o x) (u : Upd S w w') (hb : ¬ S b) : ActAt w' b o x :=
  ⟨u.cell h.c0 hb, u.cell h.c1 hb, u.cell h.c2 hb, u.cell h.c3 hb, u.cell h.c4 hb, u.cell h.c5 hb⟩

/-- What holds in each round of TopPool: the pool is s, the law's own arrays say t. -/
structure TopI (W w : World) (n B : Nat) (s t : Pl) : Prop where
  pool : PoolAt w (W.heap.size + 1) W.heap.size s
  sn : s.n = n
  refs : ∀ f, f < n → w.cell? ⟨W.heap.size + 2 + 1, f, none⟩ = some (.int .i64 (t.refs f))
  byt : ∀ f i, f < n → i < 16 → w.cell? ⟨W.heap.size + 2, f * 16 + i, none⟩ = some (.int .u8 (t.byt f i))
  fz7 : ∀ o, w.frozen? ⟨W.heap.size + 2, o, none⟩ = false
  fz8 : ∀ o, w.frozen? ⟨W.heap.size + 2 + 1, o, none⟩ = false
  bd : ∀ f, f < n → s.refs f ≤ 1 + B
  upd : Upd (fun _ => False) W w
  sz : W.heap.size + 4 ≤ w.heap.size

theorem zeroB_get (i : Nat) (h : i < 1024) : zeroB[i]? = some (.int .u8 0) := by simp [zeroB, h]
theorem zeroR_get (i : Nat) (h : i < 64) : zeroR[i]? = some (.int .i64 0) := by simp [zeroR, h]
/-- A call on the pool. -/
theorem TopI.call {W w w' : World} {n B B' : Nat} {s s' t : Pl} (h : TopI W w n B s t) (hp : PoolAt w' (W.heap.size + 1) W.heap.size s') (u : Upd (fun k => k = W.heap.size) w w') (hs : s'.n = n) (hb : ∀ f, f < n → s'.refs f ≤ 1 + B') :
    TopI W w' n B' s' t where
  pool := hp
  sn := hs
  refs := fun f hf => u.cell (h.refs f hf) (by show ¬ (W.heap.size + 2 + 1 = W.heap.size); omega)
  byt := fun f i hf hi => u.cell (h.byt f i hf hi) (by show ¬ (W.heap.size + 2 = W.heap.size); omega)
  fz7 := fun o => by rw [World.frozen?_of_block (w := w) (u.block (W.heap.size + 2) (by have := h.sz; omega) (by omega))]; exact h.fz7 o
  fz8 := fun o => by rw [World.frozen?_of_block (w := w) (u.block (W.heap.size + 2 + 1) (by have := h.sz; omega) (by omega))]; exact h.fz8 o
  bd := hb
  upd := h.upd.trans u (fun i hi e => by omega)
  sz := by have := h.sz; have := u.size; omega

/-- What turns nothing that was there. -/
theorem TopI.keep {W w w' : World} {n B : Nat} {s t : Pl} (h : TopI W w n B s t) (u : Upd (fun _ => False) w w') : TopI W w' n B s t :=
  h.call (h.pool.upd u (fun f => f) (fun f => f) (by have := h.sz; omega)) ⟨u.os, u.tape, u.output, u.size, fun k hk _ => u.block k hk (fun f => f)⟩ h.sn h.bd

theorem TopI.more {W w : World} {n B B' : Nat} {s t : Pl} (h : TopI W w n B s t) (hb : B ≤ B') : TopI W w n B' s t := { h with bd := fun f hf => by have := h.bd f hf; omega }

/-- A store into the law's own arrays. -/
theorem TopI.own {W w w' : World} {n B : Nat} {s t t' : Pl} (h : TopI W w n B s t) (u : Upd (fun k => k = W.heap.size + 2 ∨ k = W.heap.size + 2 + 1) w w')
    (hr : ∀ f, f < n → w'.cell? ⟨W.heap.size + 2 + 1, f, none⟩ = some (.int .i64 (t'.refs f))) (hb : ∀ f i, f < n → i < 16 → w'.cell? ⟨W.heap.size + 2, f * 16 + i, none⟩ = some (.int .u8 (t'.byt f i)))
    (hf : ∀ a, w'.frozen? a = w.frozen? a) : TopI W w' n B s t' where
  pool := h.pool.upd u (by omega) (by omega) (by have := h.sz; omega)
  sn := h.sn
  refs := hr
  byt := hb
  fz7 := fun o => by rw [hf]; exact h.fz7 o
  fz8 := fun o => by rw [hf]; exact h.fz8 o
  bd := h.bd
  upd := h.upd.trans u (fun i hi e => by omega)
  sz := by have := h.sz; have := u.size; omega

theorem TopI.setRef {W w : World} {n B : Nat} {s t : Pl} (h : TopI W w n B s t) {f : Nat} (hf : f < n) (v : Int) :
    TopI W (w.setCell ⟨W.heap.size + 2 + 1, f, none⟩ (.int .i64 v)) n B s { t with refs := setAt t.refs f v } := by
  refine h.own (Upd.setCell (Upd.refl _ _) _ (fun _ => Or.inr rfl) _) ?_ ?_ (fun a => by rw [World.frozen?_setCell])
  · intro g hg
    by_cases e : g = f
    · subst e; rw [World.cell?_setCell_same _ _ _ (h.refs g hg)]; simp [setAt]
    · rw [World.cell?_setCell_other _ _ _ _ (addr_ne (Or.inr (Ne.symm e))), h.refs g hg]; simp [setAt, e]
  · intro g i hg hi
    rw [World.cell?_setCell_other _ _ _ _ (addr_ne (Or.inl (by omega)))]; exact h.byt g i hg hi
theorem TopI.setByte {W w : World} {n B : Nat} {s t : Pl} (h : TopI W w n B s t) {f i : Nat} (hf : f < n) (hi : i < 16) (v : Int) :
    TopI W (w.setCell ⟨W.heap.size + 2, f * 16 + i, none⟩ (.int .u8 v)) n B s { t with byt := setAt t.byt f (setAt (t.byt f) i v) } := by
  refine h.own (Upd.setCell (Upd.refl _ _) _ (fun _ => Or.inl rfl) _) ?_ ?_ (fun a => by rw [World.frozen?_setCell])
  · intro g hg
    rw [World.cell?_setCell_other _ _ _ _ (addr_ne (Or.inl (by omega)))]; exact h.refs g hg
  · intro g j hg hj
    by_cases e : g = f
    · subst e
      by_cases e2 : j = i
      · subst e2; rw [World.cell?_setCell_same _ _ _ (h.byt g j hg hj)]; simp [setAt]
      · rw [World.cell?_setCell_other _ _ _ _ (addr_ne (Or.inr (by omega))), h.byt g j hg hj]; simp [setAt, e2]
    · rw [World.cell?_setCell_other _ _ _ _ (addr_ne (Or.inr (by omega))), h.byt g j hg hj]; simp [setAt, e]
theorem TopI.there {W w : World} {n B : Nat} {s t : Pl} (h : TopI W w n B s t) {f : Nat} (hf : f < n) : w.there (W.heap.size + 2) (f * 16) 16 := fun j hj =>
  ⟨by rw [h.byt f j hf hj]; rfl, h.fz7 _⟩
theorem TopI.setRow {W w : World} {n B : Nat} {s t : Pl} (h : TopI W w n B s t) {f : Nat} (hf : f < n) (g : Nat → Int) :
    TopI W (w.setCells (W.heap.size + 2) (f * 16) (rowOf g)) n B s { t with byt := setAt t.byt f g } := by
  refine h.own (Upd.setCells _ (fun _ => Or.inl rfl) _ _ (Upd.refl _ _)) ?_ ?_ (fun a => by rw [World.frozen?_setCells])
  · intro k hk
    rw [World.cell?_setCells_out _ _ _ _ _ (fun e _ => by simp only at e; omega)]; exact h.refs k hk
  · intro k j hk hj
    by_cases e : k = f
    · subst e
      have := World.rangeAt_setCells_same w (W.heap.size + 2) (k * 16) (rowOf g) (by rw [rowOf_length]; exact h.there hf) j _ (rowOf_get g j hj)
      rw [this]; simp [setAt]
    · rw [World.cell?_setCells_out _ _ _ _ _ (fun _ _ => by simp only [rowOf_length]; omega), h.byt k j hk hj]; simp [setAt, e]

/-- The box of an act. -/
structure BoxAt (w : World) (q : Nat) (x : Ac) : Prop where
  c0 : w.cell? ⟨q, 0, none⟩ = some (.string x.kind)
  c1 : w.cell? ⟨q, 1, none⟩ = some (.int .i64 x.n)
  c2 : w.cell? ⟨q, 2, none⟩ = some (.int .i64 x.a)
  c3 : w.cell? ⟨q, 3, none⟩ = some (.int .i64 x.b)
  c4 : w.cell? ⟨q, 4, none⟩ = some (.int .u8 x.v)
  c5 : w.cell? ⟨q, 5, none⟩ = some (.bool x.on)
theorem BoxAt.upd {S : Nat → Prop} {w w' : World} {q : Nat} {x : Ac} (h : BoxAt w q x) (u : Upd S w w') (hb : ¬ S q) : BoxAt w' q x :=
  ⟨u.cell h.c0 hb, u.cell h.c1 hb, u.cell h.c2 hb, u.cell h.c3 hb, u.cell h.c4 hb, u.cell h.c5 hb⟩
theorem BoxAt.new (w : World) (x : Ac) : BoxAt (w.alloc (.cells #[.string x.kind, .int .i64 x.n, .int .i64 x.a, .int .i64 x.b, .int .u8 x.v, .bool x.on] 32)) w.heap.size x :=
  ⟨by rw [World.cell?_alloc_new]; rfl, by rw [World.cell?_alloc_new]; rfl, by rw [World.cell?_alloc_new]; rfl, by rw [World.cell?_alloc_new]; rfl, by rw [World.cell?_alloc_new]; rfl, by rw [World.cell?_alloc_new]; rfl⟩

end Go.Proofs.YtadpibcgjgcjhabGreat
/- What holds in each round of undercroftlaw.PoolSays. -/
namespace Go.Proofs.YtadpibcgjgcjhabGreat
open Go.ChangeShapes Go.WideShapes Go.ChangeAt Go.RowKit
set_option maxRecDepth 100000

theorem PoolAt.drew {w : World} {bp bf : Nat} {s : Pl} (h : PoolAt w bp bf s) : PoolAt w.drew bp bf s := ⟨h.hd, h.refs, h.byt, h.fz, h.ne, h.le, h.nn⟩
theorem RefAt.drew {w : World} {bm : Nat} {s : Pl} (h : RefAt w bm s) : RefAt w.drew bm s := ⟨h.num, h.byt, h.refs, h.fz, h.le, h.nn⟩
theorem PoolAt.lt {w : World} {bp bf : Nat} {s : Pl} (h : PoolAt w bp bf s) (hn : 0 < s.n) : bf < w.heap.size := World.block_lt_of_cell? w _ (h.refs 0 hn)
theorem PoolAt.ltp {w : World} {bp bf : Nat} {s : Pl} (h : PoolAt w bp bf s) : bp < w.heap.size := by
  obtain ⟨cap, hc⟩ := h.hd
  exact World.block_lt_of_cell? w _ hc

/-- The pool and its model have one state. -/
structure PI (W w : World) (bp bf bm n B : Nat) (s : Pl) : Prop where
  pool : PoolAt w bp bf s
  ref : RefAt w bm s
  sn : s.n = n
  bd : ∀ f, f < n → s.refs f ≤ 1 + B
  upd : Upd (fun _ => False) W w
  gp : W.heap.size ≤ bp
  gf : W.heap.size ≤ bf
  gm : W.heap.size ≤ bm
  mp : bm ≠ bp
  mf : bm ≠ bf
theorem PI.keep {W w w' : World} {bp bf bm n B : Nat} {s : Pl} (h : PI W w bp bf bm n B s) (hn : 0 < n) (u : Upd (fun _ => False) w w') : PI W w' bp bf bm n B s :=
  { h with pool := h.pool.upd u (fun f => f) (fun f => f) (h.pool.lt (by rw [h.sn]; exact hn)), ref := h.ref.upd u (fun f => f), upd := h.upd.trans u (fun _ _ f => f) }
theorem PI.more {W w : World} {bp bf bm n B B' : Nat} {s : Pl} (h : PI W w bp bf bm n B s) (hb : B ≤ B') : PI W w bp bf bm n B' s := { h with bd := fun f hf => by have := h.bd f hf; omega }
/-- Both have turned, one behind the other. -/
theorem PI.both {W w w1 w2 : World} {bp bf bm n B B' : Nat} {s s' : Pl} (h : PI W w bp bf bm n B s) (u1 : Upd (fun k => k = bf) w w1) (u2 : Upd (fun k => k = bm) w1 w2)
    (hp : PoolAt w2 bp bf s') (hr : RefAt w2 bm s') (hn : s'.n = n) (hb : ∀ f, f < n → s'.refs f ≤ 1 + B') : PI W w2 bp bf bm n B' s' :=
  { h with pool := hp, ref := hr, sn := hn, bd := hb, upd := (h.upd.trans u1 (fun i hi e => by have := h.gf; omega)).trans u2 (fun i hi e => by have := h.gm; omega) }

theorem PI.drew {W w : World} {bp bf bm n B : Nat} {s : Pl} (h : PI W w bp bf bm n B s) : PI W w.drew bp bf bm n B s :=
  { h with pool := h.pool.drew, ref := h.ref.drew, upd := h.upd.drew }
theorem PI.drewN {W w : World} {bp bf bm n B : Nat} {s : Pl} (h : PI W w bp bf bm n B s) (m : Nat) : PI W (w.drewN m) bp bf bm n B s :=
  { h with pool := h.pool.drewN m, ref := h.ref.drewN m, upd := h.upd.drewN m }
/-- Both calls of one act, the pool's and then the model's. -/
theorem PI.two {W w w1 w2 : World} {bp bf bm n B B' : Nat} {s s' : Pl} (h : PI W w bp bf bm n B s) (hn : 0 < n) (hp : PoolAt w1 bp bf s') (u1 : Upd (fun k => k = bf) w w1) (hr : RefAt w2 bm s') (u2 : Upd (fun k => k = bm) w1 w2)
    (hs : s'.n = n) (hb : ∀ f, f < n → s'.refs f ≤ 1 + B') : PI W w2 bp bf bm n B' s' :=
  h.both u1 u2 (hp.upd u2 (Ne.symm h.mp) (Ne.symm h.mf) (hp.lt (by rw [hs]; exact hn))) hr hs hb
/-- A copy goes on; what the old one does is not seen. -/
theorem PI.moved {W w w1 w2 : World} {bp bf bm n B cp cf : Nat} {s : Pl} (h : PI W w bp bf bm n B s) (hn : 0 < n) (hp : PoolAt w1 cp cf s) (u1 : Upd (fun _ => False) w w1) (gp : w.heap.size ≤ cp) (gf : w.heap.size ≤ cf) (lf : cf < w1.heap.size)
    (u2 : Upd (fun k => k = bf) w1 w2) : PI W w2 cp cf bm n (B + 1) s := by
  have hf : bf < w.heap.size := h.pool.lt (by rw [h.sn]; exact hn)
  have hm : bm < w.heap.size := World.block_lt_of_cell? _ _ h.ref.num
  have hz := h.upd.size
  refine ⟨hp.upd u2 (by omega) (by omega) lf, (h.ref.upd u1 (fun f => f)).upd u2 h.mf, h.sn, fun f hk => by have := h.bd f hk; omega, (h.upd.trans u1 (fun _ _ f => f)).trans u2 (fun i hi e => by have := h.gf; omega), by omega, by omega, h.gm, by omega, by omega⟩
theorem share_n (s : Pl) (f d : Int) : (s.share f d).2.n = s.n := by unfold Pl.share; split <;> rfl
theorem set_n (s : Pl) (f i v : Int) : (s.set f i v).2.n = s.n := by
  unfold Pl.set
  split
  · rfl
  · split
    · split <;> rfl
    · rfl
theorem fill_n (s : Pl) (f g : Int) : (s.fill f g).2.n = s.n := by
  unfold Pl.fill
  split
  · split <;> rfl
  · rfl
theorem take_n (s : Pl) : s.take.2.2.n = s.n := by unfold Pl.take; split <;> rfl
theorem setAt_le {refs : Nat → Int} {j : Nat} {v : Int} {n : Nat} {B : Int} (h : ∀ f, f < n → refs f ≤ B) (hv : v ≤ B) : ∀ f, f < n → setAt refs j v f ≤ B := by
  intro f hf
  by_cases e : f = j
  · subst e; simpa [setAt] using hv
  · simpa [setAt, e] using h f hf
theorem share_bd {s : Pl} {f d : Int} {n B : Nat} (hn : s.n = n) (h : ∀ f, f < n → s.refs f ≤ 1 + B) (hd : d ≤ 1) : ∀ k, k < n → (s.share f d).2.refs k ≤ 1 + ((B + 1 : Nat) : Int) := by
  unfold Pl.share
  split
  · rename_i hu
    obtain ⟨h0, h1, _⟩ := (s.used_iff f).1 hu
    exact setAt_le (fun k hk => by have := h k hk; omega) (by have := h f.toNat (by omega); omega)
  · intro k hk; have := h k hk; simp only; omega
theorem set_bd {s : Pl} {f i v : Int} {n B : Nat} (h : ∀ f, f < n → s.refs f ≤ 1 + B) : ∀ k, k < n → (s.set f i v).2.refs k ≤ 1 + ((B + 1 : Nat) : Int) := by
  have e : (s.set f i v).2.refs = s.refs := by
    unfold Pl.set
    split
    · rfl
    · split
      · split <;> rfl
      · rfl
  intro k hk
  rw [e]; have := h k hk; omega
theorem fill_bd {s : Pl} {f g : Int} {n B : Nat} (h : ∀ f, f < n → s.refs f ≤ 1 + B) : ∀ k, k < n → (s.fill f g).2.refs k ≤ 1 + ((B + 1 : Nat) : Int) := by
  have e : (s.fill f g).2.refs = s.refs := by
    unfold Pl.fill
    split
    · split <;> rfl
    · rfl
  intro k hk
  rw [e]; have := h k hk; omega
theorem take_bd {s : Pl} {n B : Nat} (h : ∀ f, f < n → s.refs f ≤ 1 + B) : ∀ k, k < n → s.take.2.2.refs k ≤ 1 + ((B + 1 : Nat) : Int) := by
  unfold Pl.take
  split
  · exact setAt_le (fun k hk => by have := h k hk; omega) (by omega)
  · intro k hk; have := h k hk; simp only; omega
theorem share_code (s : Pl) (f d : Int) : 0 ≤ (s.share f d).1 := by unfold Pl.share; split <;> simp
theorem set_code (s : Pl) (f i v : Int) : 0 ≤ (s.set f i v).1 := by
  unfold Pl.set
  split
  · simp
  · split
    · split <;> simp
    · simp
theorem fill_code (s : Pl) (f g : Int) : 0 ≤ (s.fill f g).1 := by
  unfold Pl.fill
  split
  · split <;> simp
  · simp
theorem take_code (s : Pl) : 0 ≤ s.take.2.1 := by unfold Pl.take; split <;> simp
end Go.Proofs.YtadpibcgjgcjhabGreat
