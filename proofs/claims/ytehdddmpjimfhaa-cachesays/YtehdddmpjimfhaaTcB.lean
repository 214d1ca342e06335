/- The walk of undercrofttop.TopCache. -/
import Derived.Test.YtehdddmpjimfhaaTcA
namespace Go.Proofs.Ytehdddmpjimfhaa
open Go.ChangeShapes Go.WideShapes Go.ChangeAt Go.RowKit Go.Shelf
set_option maxRecDepth 1000000
attribute [local go_sem ↓] Go.wp_at_zero Go.wp_at_succ

theorem mark_ne {w : World} {D b o : Nat} {v : Value} {x : Option (List Deferred)} (hD : w.heap[D]? = some (.deferred x)) (hc : w.cell? ⟨b, o, none⟩ = some v) : D ≠ b := by
  intro e
  subst e
  simp [World.cell?, hD] at hc
/-- What holds in each round of TopCache. -/
structure TcS (W w : World) (R Bc bc : Nat) (es : List En) (ds : List Nat) : Prop where
  ca : CaL w bc es
  pc : w.cell? ⟨Bc, 0, none⟩ = some (.pointer (some ⟨bc, 0, none⟩))
  r0 : ∃ rv, w.cell? ⟨R, 0, none⟩ = some (.bool rv)
  rz : w.frozen? ⟨R, 0, none⟩ = false
  up : Upd (fun _ => False) W w
  ms : Marks W.heap.size w ds
  di : Dist es
  g0 : W.heap.size ≤ R
  g1 : R < bc
  g2 : bc < Bc
theorem TcS.same {W w w' : World} {R Bc bc : Nat} {es : List En} {ds : List Nat} (h : TcS W w R Bc bc es ds) (u : Upd (fun _ => False) w w') : TcS W w' R Bc bc es ds where
  ca := h.ca.upd u (fun f => f)
  pc := u.cell h.pc (fun f => f)
  r0 := by obtain ⟨rv, hr⟩ := h.r0; exact ⟨rv, u.cell hr (fun f => f)⟩
  rz := by obtain ⟨rv, hr⟩ := h.r0; rw [u.frozen hr (fun f => f)]; exact h.rz
  up := h.up.trans u (fun _ _ f => f)
  ms := h.ms.upd u (fun _ _ f => f)
  di := h.di
  g0 := h.g0
  g1 := h.g1
  g2 := h.g2
theorem TcS.call {W w w' : World} {R Bc bc : Nat} {es es' : List En} {ds : List Nat} (h : TcS W w R Bc bc es ds) (u : Upd (fun k => k = bc) w w') (hc : CaL w' bc es') (hd : Dist es') : TcS W w' R Bc bc es' ds where
  ca := hc
  pc := u.cell h.pc (by have := h.g2; simp only; omega)
  r0 := by obtain ⟨rv, hr⟩ := h.r0; exact ⟨rv, u.cell hr (by have := h.g1; simp only; omega)⟩
  rz := by obtain ⟨rv, hr⟩ := h.r0; rw [u.frozen hr (by have := h.g1; simp only; omega)]; exact h.rz
  up := h.up.trans u (fun i hi e => by have := h.g0; have := h.g1; omega)
  ms := h.ms.upd u (fun D hD e => by
    obtain ⟨c, h1, _⟩ := h.ca
    exact mark_ne (h.ms.2 D hD).2.2 h1.cnt e)
  di := hd
  g0 := h.g0
  g1 := h.g1
  g2 := h.g2
theorem TcS.mark {W w w' : World} {R Bc bc D : Nat} {es : List En} {ds : List Nat} (h : TcS W w R Bc bc es ds) {S : Nat → Prop} (u : Upd S w w') (hS : ∀ k, S k → Bc < k) (hS2 : ∀ k, S k → ∃ v, w.cell? ⟨k, 0, none⟩ = some v) (hD : w.heap.size ≤ D) (hd : w'.heap[D]? = some (.deferred (some []))) : TcS W w' R Bc bc es (D :: ds) where
  ca := h.ca.upd u (fun e => by have := hS _ e; have := h.g2; omega)
  pc := u.cell h.pc (fun e => by have := hS _ e; simp only at this; omega)
  r0 := by obtain ⟨rv, hr⟩ := h.r0; exact ⟨rv, u.cell hr (fun e => by have := hS _ e; have := h.g1; have := h.g2; simp only at *; omega)⟩
  rz := by obtain ⟨rv, hr⟩ := h.r0; rw [u.frozen hr (fun e => by have := hS _ e; have := h.g1; have := h.g2; simp only at *; omega)]; exact h.rz
  up := h.up.trans u (fun i hi e => by have := hS _ e; have := h.g0; have := h.g1; have := h.g2; omega)
  ms := (h.ms.upd u (fun E hE e => by
    obtain ⟨v, hv⟩ := hS2 E e
    exact mark_ne (h.ms.2 E hE).2.2 hv rfl)).cons (Nat.le_trans h.up.size hD) hd (fun hE => by have := (h.ms.2 D hE).2.1; omega)
  di := h.di
  g0 := h.g0
  g1 := h.g1
  g2 := h.g2
/-- The frame, by a function. -/
def tcI (W : World) (R Bc bc len : Nat) (sl : Value) (k : Nat) (a : Act) (w : World) : Prop :=
  ∃ (c : Nat → Value) (es : List En) (ds : List Nat) (i : Nat), i + k = len ∧ c 0 = sl ∧ c 2 = .pointer (some ⟨R, 0, none⟩) ∧ c 6 = .pointer (some ⟨Bc, 0, none⟩) ∧ c 7 = .int .i64 i ∧ TcS W w R Bc bc es ds ∧ a = ⟨((List.range 142).map c).toArray, marks ds⟩
theorem tcI_intro {W : World} {R Bc bc len : Nat} {sl : Value} {k i : Nat} {l : List Value} {w : World} {es : List En} {ds : List Nat} (hl : l.length = 142) (hk : i + k = len) (h0 : l.getD 0 undef = sl) (h2 : l.getD 2 undef = .pointer (some ⟨R, 0, none⟩)) (h6 : l.getD 6 undef = .pointer (some ⟨Bc, 0, none⟩)) (h7 : l.getD 7 undef = .int .i64 i) (hS : TcS W w R Bc bc es ds) :
    tcI W R Bc bc len sl k ⟨l.toArray, marks ds⟩ w := ⟨fun j => l.getD j undef, es, ds, i, hk, h0, h2, h6, h7, hS, by rw [frame_fn l, hl]⟩
theorem tc_leaves {fn : Func} {tmps : Array Value} {P : Ending → World → Prop} {W w : World} {R Bc bc : Nat} {es : List En} {ds : List Nat} (h : TcS W w R Bc bc es ds) (hv : w.cell? ⟨R, 0, none⟩ = some (.bool true))
    (hm : ∀ w', w'.cell? ⟨R, 0, none⟩ = some (.bool true) → Upd (fun _ => False) W w' → LeavesIn Fence.wide 8 Try.prog fn tmps P [] .returning w') : LeavesInM Fence.wide 8 Try.prog fn tmps P (marks ds) .returning w := by
  refine leaves_marks ds w h.ms (fun w' ht => hm w' ?_ ?_)
  · rw [World.cell?_of_block (w := w) (ht.block R (fun hR => mark_ne (h.ms.2 R hR).2.2 hv rfl))]
    exact hv
  · exact h.up.trans (ht.upd (fun D hD => (h.ms.2 D hD).1)) (fun i hi e => by omega)
/-- What the switch must come to. -/
def tcPost (W : World) (R Bc bc : Nat) (sl : Value) (i : Nat) (Q : Exit → Act → World → Prop) : Prop :=
  ∀ (c' : Nat → Value) (es' : List En) (ds' : List Nat) (w' : World), c' 0 = sl → c' 2 = .pointer (some ⟨R, 0, none⟩) → c' 6 = .pointer (some ⟨Bc, 0, none⟩) → c' 7 = .int .i64 i → TcS W w' R Bc bc es' ds' → Q .normal ⟨((List.range 142).map c').toArray, marks ds'⟩ w'
theorem tcPost.use {W : World} {R Bc bc : Nat} {sl : Value} {i : Nat} {Q : Exit → Act → World → Prop} (h : tcPost W R Bc bc sl i Q) {l : List Value} {es : List En} {ds : List Nat} {w : World} (hl : l.length = 142) (h0 : l.getD 0 undef = sl) (h2 : l.getD 2 undef = .pointer (some ⟨R, 0, none⟩)) (h6 : l.getD 6 undef = .pointer (some ⟨Bc, 0, none⟩)) (h7 : l.getD 7 undef = .int .i64 i) (hS : TcS W w R Bc bc es ds) : Q .normal ⟨l.toArray, marks ds⟩ w := by
  have := h (fun j => l.getD j undef) es ds w h0 h2 h6 h7 hS
  rw [frame_fn l, hl]
  exact this
noncomputable def tcSw : Code := (Try.f8.body.bind (blkAt 2)).getD .skip
end Go.Proofs.Ytehdddmpjimfhaa
