/- A loop over a cache's entries: the law of a range over a function, for what All answers; frames by a function. -/
import Derived.Test.YtehdddmpjimfhaaCkH
import Derived.Test.YtehdddmpjimfhaaCpA
import Derived.Test.YtehdddmpjimfhaaActs
namespace Go.Proofs.Ytehdddmpjimfhaa
open Go.ChangeShapes Go.WideShapes Go.ChangeAt Go.RowKit Go.Shelf
set_option maxRecDepth 100000

/-- The loop over the function that stands in that slot. -/
def rfAt (n : Nat) : Code → Option Code
  | .rangeFunc (.tmp m) ps a b => if m = n then some (.rangeFunc (.tmp m) ps a b) else none
  | .block _ c => rfAt n c
  | .seq a b => match rfAt n a with
    | some c => some c
    | none => rfAt n b
  | .cond _ a b => match rfAt n a with
    | some c => some c
    | none => rfAt n b
  | .loop c => rfAt n c
  | _ => none
/-- The block of that number. -/
def blkAt (n : Nat) : Code → Option Code
  | .block i c => if i = n then some (.block i c) else blkAt n c
  | .seq a b => match blkAt n a with
    | some c => some c
    | none => blkAt n b
  | .cond _ a b => match blkAt n a with
    | some c => some c
    | none => blkAt n b
  | .loop c => blkAt n c
  | _ => none
/-- The first loop's body. -/
def loopIn : Code → Option Code
  | .loop c => some c
  | .seq a b => match loopIn a with
    | some c => some c
    | none => loopIn b
  | .block _ c => loopIn c
  | .cond _ a b => match loopIn a with
    | some c => some c
    | none => loopIn b
  | _ => none
theorem own_upd {β : Type} (S : Nat → Prop) (w : World) : OwnFrom w.heap.size (fun (_ : β) W => Upd S w W) := fun _ A B row hs hg hr =>
  ⟨hg.os.trans hs.os, hg.tape.trans hs.tape, hg.output.trans hs.output, Nat.le_trans hs.size hg.size, fun k hk hn => by
    refine (hg.block k (Nat.lt_of_lt_of_le hk hs.size) (fun e => ?_)).trans (hs.block k hk hn)
    have := (hr k e.symm).1
    omega⟩
theorem own_block {β : Type} (B : Nat) (f : β → Nat × Array Value × TypeId) : OwnFrom B (fun s W => W.heap[(f s).1]? = some (.cells (f s).2.1 (f s).2.2)) := fun s X Y row hs hg hr => by
  refine (hg.block _ (Array.getElem?_eq_some_iff.1 hs).1 (fun e => ?_)).trans hs
  obtain ⟨o, ho, hc⟩ := (hr _ e.symm).2
  rw [hs] at ho
  cases ho
  cases hc
theorem keeps_of_upd {B : Nat} {W W' : World} (u : Upd (fun _ => False) W W') : KeepsFrom B W W' := ⟨u.size, fun k _ _ hk _ => (u.block k (Array.getElem?_eq_some_iff.1 hk).1 (fun f => f)).trans hk⟩
theorem keeps_of_box {B b : Nat} {cs : Array Value} {ty : TypeId} {W W' : World} (u : Upd (fun k => k = b) W W') (hb : W.heap[b]? = some (.cells cs ty)) : KeepsFrom B W W' := ⟨u.size, fun k o _ hk ho => by
  refine (u.block k (Array.getElem?_eq_some_iff.1 hk).1 (fun e => ?_)).trans hk
  subst e
  rw [hb] at hk
  cases hk
  cases ho⟩
theorem range_law {g : Operand} {ps : Array Tmp} {assign body : Code} {Q : Exit → Act → World → Prop} {a : Act} {w : World} (B b' : Nat) (es : List En)
    (hg : a.eval g = .func (.func 88) #[] #[.pointer (some ⟨B, 0, none⟩)]) (hB : w.cell? ⟨B, 0, none⟩ = some (.pointer (some ⟨b', 0, none⟩))) (hC : CaL w b' es) (hps : ps.size = 2)
    (I : List Nat → World → Prop) (Ix : Code → List Nat → World → Prop) (hI : OwnFrom w.heap.size I) (hIx : ∀ c, OwnFrom w.heap.size (Ix c)) (h0 : I [] w) (Ax : Nat → Act → World → Prop) (hAx : ∀ x a', OwnFrom w.heap.size (fun (_ : Unit) W => Ax x a' W))
    (hIz : ∀ pre W, I pre W → w.heap.size ≤ W.heap.size)
    (hassign : ∀ (l : Nat) (pre : List Nat) (x : Nat) (W : World) (K : Act → World → Prop), I pre W → (∀ a' W', Upd (fun _ => False) W W' → I pre W' → Ax x a' W' → K a' W') →
      assign.wpIn (Fence.wide.inRound l) 6 Try.prog (Exit.then K (fun _ _ _ => False)) { tmps := (ps.zip (enArgs es x)).foldl (fun t (p, v) => t.setIfInBounds p v) a.tmps, defers := [] } W)
    (hbody : ∀ (l : Nat) (pre : List Nat) (x : Nat) (a' : Act) (W : World), I pre W → Ax x a' W → pre.length < es.length → body.wpIn (Fence.wide.inRound l) 6 Try.prog (ownPostG w.heap.size (KpT b' B) I Ix (pre ++ [x]) W) a' W)
    (hdone : ∀ (D : Nat) (W : World), w.heap.size ≤ D → I (List.range es.length) W → W.heap[D]? = some (.deferred (some [])) → Q .normal { a with defers := { target := .collected D, args := #[] } :: a.defers } W)
    (hstop : ∀ (D : Nat) (c : Code) (k : Nat) (W : World), w.heap.size ≤ D → k ≤ es.length → Ix c (List.range k) W → W.heap[D]? = some (.deferred (some [])) → c.wp Try.prog Q { a with defers := { target := .collected D, args := #[] } :: a.defers } W) :
    (Code.rangeFunc g ps assign body).wp Try.prog Q a w := by
  have hltB : B < w.heap.size := World.block_lt_of_cell? w _ hB
  have hltb : b' < w.heap.size := hC.lt
  refine (wpIn_wide (n := 8)).1 ?_
  refine wpIn_rangeFunc_ownH (F := Fence.wide) (n := 8) rfl (by omega) hg trivial (enters_of Try.func88 (by kernel_rfl) rfl) (kAll_stops 7 w B b' es hB hC) (fun h k => KpT.trans h k) (KpT.put hltb hltB) (Below.refl _ _) (fun x => by rw [hps]; rfl) I Ix hI hIx h0 Ax hAx ?_ ?_ ?_ ?_
  · intro l pre x W K hi hK
    refine hassign l pre x W K hi (fun a' W' hu hi' hax => hK a' W' (keeps_of_upd hu) ?_ hi' hax)
    have := hIz pre W hi
    exact KpT.upd hu (by omega) (by omega) (fun f => f) (fun f => f)
  · intro l pre x a' W _ _ hi hax hn
    exact hbody l pre x a' W hi hax hn
  · intro D xs W hD hS hi hd
    subst hS
    exact hdone D W hD hi hd
  · rintro D c pre W hD ⟨k, hk, rfl⟩ hix hd
    exact wpIn_wide.2 (hstop D c k W hD hk hix hd)
theorem frame_fn (l : List Value) : l.toArray = ((List.range l.length).map (fun i => l.getD i undef)).toArray := by
  congr 1
  apply List.ext_getElem
  · simp
  · intro i h1 h2
    simp [List.getD_eq_getElem?_getD, h1]
end Go.Proofs.Ytehdddmpjimfhaa
