/- What the functions of package frames answer: New. -/
import Derived.Test.YtadpibcgjgcjhabGreatDoorFramesC
namespace Go.Proofs.YtadpibcgjgcjhabGreatDoor
open Go.ChangeShapes Go.WideShapes Go.ChangeAt Go.RowKit
set_option maxRecDepth 100000

theorem new_no (w : World) (n : Int) (h : n < 1 ∨ 64 < n) :
    Calls Tryz.prog 33 #[.int .i64 n] w fun e w' => e = .returned (.tuple #[.pointer none, .iface 37 (.int .i64 1)]) ∧ w' = w := by
  rcases h with h | h
  · have hd : decide (n < 1) = true := by simp; omega
    go_enter Tryz.func33, Tryz.ntmps33
    go_wp2
    go_ret2
    exact ⟨rfl, rfl⟩
  · have hd : decide (n < 1) = false := by simp; omega
    have hd2 : decide (64 < n) = true := by simp; omega
    go_enter Tryz.func33, Tryz.ntmps33
    go_wp2
    go_ret2
    exact ⟨rfl, rfl⟩

def zeroFrame : Array Value := #[.int .i64 0, .int .u8 0, .int .u8 0, .int .u8 0, .int .u8 0, .int .u8 0, .int .u8 0, .int .u8 0, .int .u8 0, .int .u8 0, .int .u8 0, .int .u8 0, .int .u8 0, .int .u8 0, .int .u8 0, .int .u8 0, .int .u8 0]
def zeroFrames (n : Nat) : Array Value := madeCells zeroFrame (n * 17)
theorem zeroFrames_get (n i : Nat) (h : i < n * 17) : (zeroFrames n)[i]? = some (zeroFrame[i % 17]!) := by
  have : zeroFrame.size = 17 := rfl
  simp [zeroFrames, madeCells, h, this]
theorem info68 : (Tryz.prog.info? 170).map (fun i => (i.size, i.bytes, i.zero)) = some (17, 24, some (.agg zeroFrame)) := by kernel_rfl
theorem make_frames (w : World) (n : Nat) (h : n ≤ 64) :
    (Instr.makeSlice 107 (.int .i64 n) (.int .i64 n)).run Tryz.prog w = .ok (.slice (some ⟨w.heap.size, 0, none⟩) n n) (w.alloc (.cells (zeroFrames n) 170)) := by
  obtain ⟨i, hi, he⟩ := Option.map_eq_some_iff.1 info68
  simp only [Prod.mk.injEq] at he
  have := run_make (P := Tryz.prog) w 107 170 i (.agg zeroFrame) Tryz.underlying107 hi he.2.2 .i64 .i64 n n (by omega) (by omega) (by rw [he.2.1]; omega) (by omega)
  rw [this, he.1, Int.toNat_natCast]
  rfl

/-- A pool that nothing is in. -/
def pl0 (n : Nat) : Pl := { n := n, refs := fun _ => 0, byt := fun _ _ => 0 }
theorem zero_mod (f j : Nat) (hj : j < 16) : zeroFrame[(f * 17 + 1 + j) % 17]! = .int .u8 0 := by
  have : (f * 17 + 1 + j) % 17 = j + 1 := by omega
  rw [this]
  rcases j with _ | _ | _ | _ | _ | _ | _ | _ | _ | _ | _ | _ | _ | _ | _ | _ | j
  all_goals first | rfl | omega
theorem newWorld (w : World) (n : Nat) (h2 : n ≤ 64) :
    PoolAt ((w.alloc (.cells (zeroFrames n) 170)).alloc (.cells #[.slice (some ⟨w.heap.size, 0, none⟩) n n] 109)) (w.heap.size + 1) w.heap.size (pl0 n) where
  hd := by
    have := World.cell?_alloc_new (w.alloc (.cells (zeroFrames n) 170)) #[.slice (some ⟨w.heap.size, 0, none⟩) n n] 109 0
    simp only [World.size_alloc] at this
    exact ⟨n, by rw [this]; rfl⟩
  refs := fun f hf => by
    have hf : f < n := hf
    rw [World.cell?_alloc_old _ _ _ (by simp), World.cell?_alloc_new, zeroFrames_get n _ (by omega)]
    have : f * 17 % 17 = 0 := by omega
    rw [this]; rfl
  byt := fun f j hf hj => by
    have hf : f < n := hf
    rw [World.cell?_alloc_old _ _ _ (by simp), World.cell?_alloc_new, zeroFrames_get n _ (by omega), zero_mod f j hj]; rfl
  fz := fun o => by
    rw [World.frozen?_alloc_old _ _ _ (by simp)]
    exact World.frozen?_alloc_new _ _ _ _
  ne := by omega
  le := h2
  nn := fun f _ => Int.le_refl _
theorem new_yes (w : World) (n : Nat) (h1 : 1 ≤ n) (h2 : n ≤ 64) :
    Calls Tryz.prog 33 #[.int .i64 n] w fun e w' => e = .returned (.tuple #[.pointer (some ⟨w.heap.size + 1, 0, none⟩), .nilIface]) ∧ w' = (w.alloc (.cells (zeroFrames n) 170)).alloc (.cells #[.slice (some ⟨w.heap.size, 0, none⟩) n n] 109) := by
  have hd : decide ((n : Int) < 1) = false := by simp; omega
  have hd2 : decide (64 < (n : Int)) = false := by simp; omega
  have hm := make_frames w n h2
  go_enter Tryz.func33, Tryz.ntmps33
  go_wp2
  go_ret2
  exact ⟨rfl, rfl⟩
theorem new_any (w : World) (n : Nat) (h1 : 1 ≤ n) (h2 : n ≤ 64) :
    Calls Tryz.prog 33 #[.int .i64 n] w fun e w' => e = .returned (.tuple #[.pointer (some ⟨w.heap.size + 1, 0, none⟩), .nilIface]) ∧ PoolAt w' (w.heap.size + 1) w.heap.size (pl0 n) ∧ Upd (fun _ => False) w w' ∧ w'.heap.size = w.heap.size + 2 := by
  refine (new_yes w n h1 h2).mono ?_
  rintro e w' ⟨rfl, rfl⟩
  exact ⟨rfl, newWorld w n h2, ((Upd.refl _ _).alloc _).alloc _, by simp⟩
end Go.Proofs.YtadpibcgjgcjhabGreatDoor
