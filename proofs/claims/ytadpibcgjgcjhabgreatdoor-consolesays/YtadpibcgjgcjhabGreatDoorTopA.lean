/- The walk of undercrofttop.TopPool. -/
import Derived.Test.YtadpibcgjgcjhabGreatDoorFramesD
import Derived.Deep.DeepCutAuto
import Derived.Deep.LoopGhost
import Derived.Deep.CutBlock
namespace Go.Proofs.YtadpibcgjgcjhabGreatDoor
open Go.ChangeShapes Go.WideShapes Go.ChangeAt Go.RowKit
set_option maxRecDepth 100000

def zeroB : Array Value := Array.replicate 1024 (.int .u8 0)
def zeroR : Array Value := Array.replicate 64 (.int .i64 0)
/-- An act of a statement's input, and where it lies. -/
structure Ac where
  kind : ByteArray
  n : Int
  a : Int
  b : Int
  v : Int
  on : Bool
structure ActAt (w : World) (b o : Nat) (x : Ac) : Prop where
  c0 : w.cell? ⟨b, o, none⟩ = some (.string x.kind)
  c1 : w.cell? ⟨b, o + 1, none⟩ = some (.int .i64 x.n)
  c2 : w.cell? ⟨b, o + 2, none⟩ = some (.int .i64 x.a)
  c3 : w.cell? ⟨b, o + 3, none⟩ = some (.int .i64 x.b)
  c4 : w.cell? ⟨b, o + 4, none⟩ = some (.int .u8 x.v)
  c5 : w.cell? ⟨b, o + 5, none⟩ = some (.bool x.on)
def ActsAt (w : World) (a : Option Addr) (len : Nat) (acts : Nat → Ac) : Prop := ∀ k, k < len → ∃ b o, a = some ⟨b, o, none⟩ ∧ ActAt w b (o + k * 6) (acts k)
/-- What holds in each round of TopPool: the pool is s, the law's own arrays say t. -/
structure TopI (W w : World) (n B : Nat) (s t : Pl) : Prop where
  pool : PoolAt w (W.heap.size + 1) W.heap.size s
  sn : s.n = n
  refs : ∀ f, f < n → w.cell? ⟨W.heap.size + 2 + 1, f, none⟩ = some (.int .i64 (t.refs f))
  byt : ∀ f i, f < n → i < 16 → w.cell? ⟨W.heap.size + 2, f * 16 + i, none⟩ = some (.int .u8 (t.byt f i))
  fz7 : ∀ o, w.frozen? ⟨W.heap.size + 2, o, none⟩ = false
  fz8 : ∀ o, w.frozen? ⟨W.heap.size + 2 + 1, o, none⟩ = false
  bd : ∀ f, f < n → s.refs f ≤ 1 + B
  upd : Upd (fun _ => False) W w
  sz : W.heap.size + 4 ≤ w.heap.size

/-- The box of an act. -/
structure BoxAt (w : World) (q : Nat) (x : Ac) : Prop where
  c0 : w.cell? ⟨q, 0, none⟩ = some (.string x.kind)
  c1 : w.cell? ⟨q, 1, none⟩ = some (.int .i64 x.n)
  c2 : w.cell? ⟨q, 2, none⟩ = some (.int .i64 x.a)
  c3 : w.cell? ⟨q, 3, none⟩ = some (.int .i64 x.b)
  c4 : w.cell? ⟨q, 4, none⟩ = some (.int .u8 x.v)
  c5 : w.cell? ⟨q, 5, none⟩ = some (.bool x.on)
end Go.Proofs.YtadpibcgjgcjhabGreatDoor
