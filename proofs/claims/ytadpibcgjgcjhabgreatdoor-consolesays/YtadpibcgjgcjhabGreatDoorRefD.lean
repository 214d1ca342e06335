/- Sum and Fill of the document's answer and of package frames; Same of package frames. -/
import Derived.Test.YtadpibcgjgcjhabGreatDoorRefC
namespace Go.Proofs.YtadpibcgjgcjhabGreatDoor
open Go.ChangeShapes Go.WideShapes Go.ChangeAt Go.RowKit
set_option maxRecDepth 100000

/-- The sum of the first k bytes. -/
def sumTo (g : Nat → Int) : Nat → Int
  | 0 => 2166136261
  | k + 1 => bits .xor .u32 (sumTo g k) (g k % 4294967296) * 16777619 % 4294967296
def Pl.sum (s : Pl) (f : Int) : Int × Int := if s.used f then (sumTo (s.byt f.toNat) 16, 0) else (0, 2)
theorem fill_from (w : World) (bp bf : Nat) (f g : Int) (s : Pl) (h : PoolAt w bp bf s) (hg : s.used g = false) :
    Calls Tryz.prog 201 #[.pointer (some ⟨bp, 0, none⟩), .int .i64 f, .int .i64 g] w fun e w' => e = .returned (.iface 37 (.int .i64 2)) ∧ w' = w := by
  go_enter Tryz.func201, Tryz.ntmps201
  go_wp2_with (go_at_call 142; refine (used_none _ _ _ _ _ h hg).mono ?_; rintro e w' ⟨rfl, rfl⟩)
  go_ret
  exact ⟨rfl, rfl⟩
theorem fill_none (w : World) (bp bf : Nat) (f g : Int) (s : Pl) (h : PoolAt w bp bf s) (hg : s.used g = true) (hf : s.used f = false) :
    Calls Tryz.prog 201 #[.pointer (some ⟨bp, 0, none⟩), .int .i64 f, .int .i64 g] w fun e w' => e = .returned (.iface 37 (.int .i64 2)) ∧ w' = w := by
  go_enter Tryz.func201, Tryz.ntmps201
  go_wp2_with (first | (go_at_call 142; refine (used_some _ _ _ _ _ h hg).mono ?_; rintro e w' ⟨rfl, rfl⟩) | (go_at_call 195; refine (alone_none _ _ _ _ _ h hf).mono ?_; rintro e w' ⟨rfl, rfl⟩))
  go_ret
  exact ⟨rfl, rfl⟩
theorem fill_held (w : World) (bp bf : Nat) (f g : Int) (s : Pl) (h : PoolAt w bp bf s) (hg : s.used g = true) (hf : s.used f = true) (hr : 1 < s.refs f.toNat) :
    Calls Tryz.prog 201 #[.pointer (some ⟨bp, 0, none⟩), .int .i64 f, .int .i64 g] w fun e w' => e = .returned (.iface 37 (.int .i64 4)) ∧ w' = w := by
  go_enter Tryz.func201, Tryz.ntmps201
  go_wp2_with (first | (go_at_call 142; refine (used_some _ _ _ _ _ h hg).mono ?_; rintro e w' ⟨rfl, rfl⟩) | (go_at_call 195; refine (alone_held _ _ _ _ _ h hf hr).mono ?_; rintro e w' ⟨rfl, rfl⟩))
  go_ret
  exact ⟨rfl, rfl⟩
theorem wpList_storeRow {ops : Array Oper} {rest : List Oper} {op : Oper} {a : Act} {w : World} {Q : Exit → Act → World → Prop} (hgd : op.guard = none) (x y : Operand) (ho : op.op = .store 44 x y)
    (b o : Nat) (g : Nat → Int) (hx : a.eval x = .pointer (some ⟨b, o, none⟩)) (hy : a.eval y = .agg (rowOf g).toArray)
    (ht : w.there b o 16) (h : wpList Tryz.prog ops Q rest (a.put op.dst undef) (w.setCells b o (rowOf g))) : wpList Tryz.prog ops Q (op :: rest) a w :=
  wpList_store_mid hgd 44 x y ho b o (rowOf g).toArray hx hy (by simpa [rowOf_length] using ht) (by simpa [rowOf_length] using info32) (all_oneCell_toArray (rowOf_one _)) h
theorem fill_yes (w : World) (bp bf : Nat) (f g : Int) (s : Pl) (h : PoolAt w bp bf s) (hg : s.used g = true) (hf : s.used f = true) (hr : s.refs f.toNat ≤ 1) :
    Calls Tryz.prog 201 #[.pointer (some ⟨bp, 0, none⟩), .int .i64 f, .int .i64 g] w fun e w' => e = .returned .nilIface ∧ w' = w.setCells bf (f.toNat * 17 + 1) (rowOf (s.byt g.toNat)) := by
  obtain ⟨f0, f1, _⟩ := (s.used_iff f).1 hf
  obtain ⟨g0, g1, _⟩ := (s.used_iff g).1 hg
  have hrg := h.range (f := g.toNat) (by omega)
  have ht := h.there (f := f.toNat) (by omega)
  go_enter Tryz.func201, Tryz.ntmps201
  go_wp2_with (first | (go_at_call 142; refine (used_some _ _ _ _ _ h hg).mono ?_; rintro e w' ⟨rfl, rfl⟩) | (go_at_call 195; refine (alone_yes _ _ _ _ _ h hf hr).mono ?_; rintro e w' ⟨rfl, rfl⟩) | (refine wpList_load_mid (by rfl) 44 _ (by rfl) bf (g.toNat * 17 + 1) (by rfl) (rowOf (s.byt g.toNat)) _ hrg Tryz.underlying44 (by rfl) (by rw [rowOf_length]; exact info32) ?_) | (refine wpList_storeRow (by rfl) _ _ (by rfl) bf (f.toNat * 17 + 1) (s.byt g.toNat) (by rfl) (by rfl) ht ?_))
  go_ret
  exact ⟨rfl, rfl⟩
theorem fill_any (w : World) (bp bf : Nat) (f g : Int) (s : Pl) (h : PoolAt w bp bf s) :
    Calls Tryz.prog 201 #[.pointer (some ⟨bp, 0, none⟩), .int .i64 f, .int .i64 g] w fun e w' => e = .returned (errV (s.fill f g).1) ∧ PoolAt w' bp bf (s.fill f g).2 ∧ Upd (fun k => k = bf) w w' := by
  cases hg : s.used g with
  | false =>
    refine (fill_from w bp bf f g s h hg).mono ?_
    rintro e w' ⟨rfl, rfl⟩
    simp only [Pl.fill, hg, Bool.and_false, Bool.false_eq_true, if_false]
    exact ⟨by rw [errV2], h, Upd.refl _ _⟩
  | true =>
    cases hf : s.used f with
    | false =>
      refine (fill_none w bp bf f g s h hg hf).mono ?_
      rintro e w' ⟨rfl, rfl⟩
      simp only [Pl.fill, hf, Bool.false_and, Bool.false_eq_true, if_false]
      exact ⟨by rw [errV2], h, Upd.refl _ _⟩
    | true =>
      obtain ⟨f0, f1, _⟩ := (s.used_iff f).1 hf
      by_cases hr : 1 < s.refs f.toNat
      · refine (fill_held w bp bf f g s h hg hf hr).mono ?_
        rintro e w' ⟨rfl, rfl⟩
        simp only [Pl.fill, hf, hg, Bool.and_true, if_true, hr]
        exact ⟨by rw [errV4], h, Upd.refl _ _⟩
      · refine (fill_yes w bp bf f g s h hg hf (by omega)).mono ?_
        rintro e w' ⟨rfl, rfl⟩
        simp only [Pl.fill, hf, hg, Bool.and_true, if_true, hr, if_false]
        exact ⟨by rw [errV_zero], h.setRow (by omega) _, Upd.row _ _ _ _⟩
end Go.Proofs.YtadpibcgjgcjhabGreatDoor
