/- How a list of acts that came in lies in memory: what each statement over acts is told of its argument. -/
import Derived.Test.YtehdddmpjimfhaaTopA
import Derived.Deep.Slices
import Derived.ShutString
import Derived.ChangeOld
import Derived.Below
namespace Go.Proofs.Ytehdddmpjimfhaa
open Go.ChangeShapes Go.WideShapes Go.ChangeAt Go.RowKit Go.Deep
set_option maxRecDepth 100000

theorem cells38 : Try.prog.cellsOf 38 = 6 := by kernel_rfl
theorem cells3 : Try.prog.cellsOf 3 = 1 := by kernel_rfl
theorem cells4 : Try.prog.cellsOf 4 = 1 := by kernel_rfl
theorem cells5 : Try.prog.cellsOf 5 = 1 := by kernel_rfl
theorem cells9 : Try.prog.cellsOf 9 = 1 := by kernel_rfl

theorem act_of {H : Type} {enc : TypeId × Value → H} {W : World} {base n : Nat} {sp : Nat → Bool} {held : Bool} {cs : List Value} {y : DataW H × List MemPlace}
    (h : DataW.trod enc Try.prog W base sp held n 38 cs = some y) :
    ∃ x : Ac, cs = [.string x.kind, .int .i64 x.n, .int .i64 x.a, .int .i64 x.b, .int .u8 x.v, .bool x.on] ∧ (Lit.int .u8 x.v).wf = true := by
  obtain ⟨xs, m, _, _, hl, hlen, hf⟩ := DataW.trod_struct Try.underlying38 h
  rw [cells38] at hl
  have hx : xs.length = 6 := hlen
  match cs, hl, xs, hx with
  | [c0, c1, c2, c3, c4, c5], _, [y0, y1, y2, y3, y4, y5], _ =>
    have g0 := hf 0 _ rfl
    have g1 := hf 1 _ rfl
    have g2 := hf 2 _ rfl
    have g3 := hf 3 _ rfl
    have g4 := hf 4 _ rfl
    have g5 := hf 5 _ rfl
    simp [cells3, cells4, cells5, cells9] at g0 g1 g2 g3 g4 g5
    obtain ⟨s, e0, _, _⟩ := DataW.trod_string Try.underlying9 g0
    obtain ⟨i1, e1, _, _⟩ := DataW.trod_int Try.underlying3 g1
    obtain ⟨i2, e2, _, _⟩ := DataW.trod_int Try.underlying3 g2
    obtain ⟨i3, e3, _, _⟩ := DataW.trod_int Try.underlying3 g3
    obtain ⟨i4, e4, _, w4⟩ := DataW.trod_int Try.underlying5 g4
    obtain ⟨b5, e5, _⟩ := DataW.trod_bool Try.underlying4 g5
    simp at e0 e1 e2 e3 e4 e5
    subst e0 e1 e2 e3 e4 e5
    exact ⟨⟨s, i1, i2, i3, i4, b5⟩, rfl, w4⟩

theorem acts_of {H : Type} {enc : TypeId × Value → H} {W : World} {a : Option Addr} {len cap : Nat} {d : DataW H} {ps : List MemPlace}
    (h : DataW.Trod enc Try.prog W 0 (fun _ => true) true 22 (.slice a len cap) d ps) : ∃ acts, ActsAt W a len acts ∧ (∀ k, k < len → (Lit.int .u8 (acts k).v).wf = true) ∧ len ≤ maxLen := by
  obtain ⟨fuel, hf⟩ := h
  rcases open_slice Try.underlying22 hf with ⟨hcs, _⟩ | ⟨x, l, c, m, n, D, Pl, hcs, _, hl, hm, hmm, _, hx⟩
  · simp [Value.cells] at hcs
    obtain ⟨rfl, rfl, rfl⟩ := hcs
    exact ⟨fun _ => ⟨⟨#[]⟩, 0, 0, 0, 0, false⟩, fun k hk => absurd hk (by omega), fun k hk => absurd hk (by omega), by omega⟩
  · simp [Value.cells] at hcs
    obtain ⟨rfl, rfl, rfl⟩ := hcs
    simp at hmm
    subst hmm
    rw [cells38] at hx
    obtain ⟨b, off, spot⟩ := x
    have hspot : 0 < len → spot = none := by
      intro h
      obtain ⟨cs', h1, h2⟩ := hx 0 (by omega)
      obtain ⟨y, rfl, hw⟩ := act_of h2
      obtain ⟨_, _, h3⟩ := World.cells?_some h1
      have h30 := h3 0 (by omega)
      simpa [Addr.add] using World.cell?_spot h30
    have each : ∀ i, i < len → ∃ y : Ac, ActAt W b (off + i * 6) y ∧ (Lit.int .u8 y.v).wf = true ∧ spot = none := by
      intro i hi
      obtain ⟨cs', h1, h2⟩ := hx i (by omega)
      obtain ⟨y, rfl, hw⟩ := act_of h2
      obtain ⟨_, _, h3⟩ := World.cells?_some h1
      obtain rfl := hspot (by omega)
      have e : ∀ j, (((⟨b, off, none⟩ : Addr).add (i * 6)).add j) = ⟨b, off + i * 6 + j, none⟩ := fun j => by rw [Addr.add_mid, Addr.add_mid]
      simp only [e] at h3
      exact ⟨y, ⟨by simpa using h3 0 (by omega), by simpa using h3 1 (by omega), by simpa using h3 2 (by omega), by simpa using h3 3 (by omega), by simpa using h3 4 (by omega), by simpa using h3 5 (by omega)⟩, hw, rfl⟩
    let acts : Nat → Ac := fun i => if h : i < len then (each i h).choose else ⟨⟨#[]⟩, 0, 0, 0, 0, false⟩
    have ha : ∀ i (h : i < len), acts i = (each i h).choose := fun i h => by simp [acts, h]
    refine ⟨acts, fun i hi => ?_, fun i hi => ?_, by omega⟩
    · obtain ⟨g1, g2, g3⟩ := (each i hi).choose_spec
      subst g3
      exact ⟨b, off, rfl, by rw [ha i hi]; exact g1⟩
    · rw [ha i hi]; exact (each i hi).choose_spec.2.1
end Go.Proofs.Ytehdddmpjimfhaa
