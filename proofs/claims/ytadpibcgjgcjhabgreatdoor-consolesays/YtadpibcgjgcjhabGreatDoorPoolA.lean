/- What holds in each round of undercroftlaw.PoolSays. -/
import Derived.Test.YtadpibcgjgcjhabGreatDoorBuild
import Derived.Test.YtadpibcgjgcjhabGreatDoorTopA
namespace Go.Proofs.YtadpibcgjgcjhabGreatDoor
open Go.ChangeShapes Go.WideShapes Go.ChangeAt Go.RowKit
set_option maxRecDepth 100000

theorem PoolAt.drew {w : World} {bp bf : Nat} {s : Pl} (h : PoolAt w bp bf s) : PoolAt w.drew bp bf s := ⟨h.hd, h.refs, h.byt, h.fz, h.ne, h.le, h.nn⟩
theorem RefAt.drew {w : World} {bm : Nat} {s : Pl} (h : RefAt w bm s) : RefAt w.drew bm s := ⟨h.num, h.byt, h.refs, h.fz, h.le, h.nn⟩
theorem PoolAt.lt {w : World} {bp bf : Nat} {s : Pl} (h : PoolAt w bp bf s) (hn : 0 < s.n) : bf < w.heap.size := World.block_lt_of_cell? w _ (h.refs 0 hn)
theorem PoolAt.ltp {w : World} {bp bf : Nat} {s : Pl} (h : PoolAt w bp bf s) : bp < w.heap.size := by
  obtain ⟨cap, hc⟩ := h.hd
  exact World.block_lt_of_cell? w _ hc

/-- The pool and its model have one state. -/
structure PI (W w : World) (bp bf bm n B : Nat) (s : Pl) : Prop where
  pool : PoolAt w bp bf s
  ref : RefAt w bm s
  sn : s.n = n
  bd : ∀ f, f < n → s.refs f ≤ 1 + B
  upd : Upd (fun _ => False) W w
  gp : W.heap.size ≤ bp
  gf : W.heap.size ≤ bf
  gm : W.heap.size ≤ bm
  mp : bm ≠ bp
  mf : bm ≠ bf
theorem share_n (s : Pl) (f d : Int) : (s.share f d).2.n = s.n := by unfold Pl.share; split <;> rfl
theorem set_n (s : Pl) (f i v : Int) : (s.set f i v).2.n = s.n := by
  unfold Pl.set
  split
  · rfl
  · split
    · split <;> rfl
    · rfl
theorem take_n (s : Pl) : s.take.2.2.n = s.n := by unfold Pl.take; split <;> rfl
theorem setAt_le {refs : Nat → Int} {j : Nat} {v : Int} {n : Nat} {B : Int} (h : ∀ f, f < n → refs f ≤ B) (hv : v ≤ B) : ∀ f, f < n → setAt refs j v f ≤ B := by
  intro f hf
  by_cases e : f = j
  · subst e; simpa [setAt] using hv
  · simpa [setAt, e] using h f hf
theorem share_bd {s : Pl} {f d : Int} {n B : Nat} (hn : s.n = n) (h : ∀ f, f < n → s.refs f ≤ 1 + B) (hd : d ≤ 1) : ∀ k, k < n → (s.share f d).2.refs k ≤ 1 + ((B + 1 : Nat) : Int) := by
  unfold Pl.share
  split
  · rename_i hu
    obtain ⟨h0, h1, _⟩ := (s.used_iff f).1 hu
    exact setAt_le (fun k hk => by have := h k hk; omega) (by have := h f.toNat (by omega); omega)
  · intro k hk; have := h k hk; simp only; omega
end Go.Proofs.YtadpibcgjgcjhabGreatDoor
