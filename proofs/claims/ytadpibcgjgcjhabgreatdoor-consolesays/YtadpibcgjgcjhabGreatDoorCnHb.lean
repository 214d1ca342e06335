/- Appending any list of texts. -/
import Derived.Test.YtadpibcgjgcjhabGreatDoorCnHa
import Derived.Laws.OwnMore
import Derived.Deep.AppendLies
import Derived.Maps.AppendAt
namespace Go.Proofs.YtadpibcgjgcjhabGreatDoor
open Go.ChangeShapes Go.WideShapes Go.ChangeAt Go.RowKit
set_option maxRecDepth 100000
theorem append_none (w : World) (base : Nat) (v : Value) (l : List ByteArray) (ty c : Nat) (hown : SlS w base v l) : (Builtin.append_ #[22, 22] ty #[v, .slice none 0 c]).run Tryz.prog w = .ok v w := by
  obtain ⟨i, hi, _⟩ := Option.map_eq_some_iff.1 infoStr
  rcases hown.2 with ⟨rfl, h0⟩ | ⟨g, cap, cur, rfl, _, _, hnc, _⟩
  · simp [Builtin.append_, run_underlying Tryz.underlying22, sizeOf, typeInfo, hi, Builtin.lenOf, Builtin.firstCells]
  · simp [Builtin.append_, run_underlying Tryz.underlying22, sizeOf, typeInfo, hi, Builtin.lenOf, Builtin.firstCells, hnc, storeCells]
theorem append_texts (w : World) (base : Nat) (v : Value) (l : List ByteArray) (ty : Nat) (hown : SlS w base v l) (ad : Option Addr) (c : Nat) (ns : List ByteArray) (hns : TxAt w ad ns) (hl : l.length + ns.length ≤ 1000) (hb : base ≤ w.heap.size) :
    ∃ v' w', (Builtin.append_ #[22, 22] ty #[v, .slice ad ns.length c]).run Tryz.prog w = .ok v' w' ∧ SlS w' base v' (l ++ ns) ∧ w.grownBy w' v.ownBlock ∧ (v'.ownBlock = v.ownBlock ∨ v'.ownBlock = some w.heap.size) := by
  cases ad with
  | none =>
    have : ns = [] := by
      rcases ns with _ | ⟨x, r⟩
      · rfl
      · obtain ⟨g, o, e, _⟩ := hns 0 (by simp)
        cases e
    subst this
    refine ⟨v, w, append_none w base v l ty c hown, by rw [List.append_nil]; exact hown, World.grownBy.refl _ _, Or.inl rfl⟩
  | some ad =>
    obtain ⟨i, hi, he⟩ := Option.map_eq_some_iff.1 infoStr
    simp only [Prod.mk.injEq] at he
    obtain ⟨he1, he2, he3⟩ := he
    obtain ⟨v', w', hr, h2, h3, _, h5⟩ := run_append_own_at (P := Tryz.prog) w base 22 ty 9 i (.string ByteArray.empty) 1 16 Tryz.underlying22 hi he3 he1 he2 rfl (by omega) v l.length (txC l) hown ad ns.length c (txC ns) (by rw [txC_length]; omega) (fun j u hj => by
      have hjl : j < ns.length := by rw [← txC_length ns]; exact (List.getElem?_eq_some_iff.1 hj).1
      obtain ⟨g, o, e, _, hc⟩ := hns j hjl
      cases e
      rw [Addr.add_mid, hc, ← hj]
      simp [txC, List.getElem?_map, List.getElem?_eq_getElem hjl, List.getD_eq_getElem?_getD]) (fun u hu => by
      simp only [txC, List.mem_map] at hu
      obtain ⟨x, _, rfl⟩ := hu
      rfl) (by unfold maxLen; omega) (by omega) hb
    refine ⟨v', w', hr, ?_, h3, h5⟩
    unfold SlS
    rw [List.length_append]
    simp only [txC, List.map_append] at h2 ⊢
    exact h2
theorem wpList_append_texts {ops : Array Oper} {rest : List Oper} {o : Oper} {a : Act} {w : World} {Q : Exit → Act → World → Prop} (hgd : o.guard = none) (s x : Operand)
    (ho : o.op = .call { callee := .builtin .append, args := #[s, x], argTypes := #[22, 22] }) (base : Nat) (v : Value) (l : List ByteArray) (hs : a.eval s = v) (hown : SlS w base v l) (ad : Option Addr) (c : Nat) (ns : List ByteArray) (hx : a.eval x = .slice ad ns.length c) (hns : TxAt w ad ns) (hl : l.length + ns.length ≤ 1000) (hb : base ≤ w.heap.size)
    (h : ∀ v' w', SlS w' base v' (l ++ ns) → w.grownBy w' v.ownBlock → (v'.ownBlock = v.ownBlock ∨ v'.ownBlock = some w.heap.size) → wpList Tryz.prog ops Q rest (a.put o.dst v') w') : wpList Tryz.prog ops Q (o :: rest) a w := by
  refine wpList_plain hgd fun K hK => ?_
  obtain ⟨v', w', hr, h2, h3, h4⟩ := append_texts w base v l o.type hown ad c ns hns hl hb
  unfold Oper.wp execOp
  simp only [ho, resolve, invoke, builtin, Sem.run_bind, Sem.run_pure, Result.andThen_ok, List.map_toArray, List.map_cons, List.map_nil, hs, hx, hr]
  exact hK _ _ (h v' w' h2 h3 h4)
theorem TxAt.pre {w : World} {a : Option Addr} {l r : List ByteArray} (h : TxAt w a (l ++ r)) : TxAt w a l := fun i hi => by
  obtain ⟨g, o, e, hg, hc⟩ := h i (by rw [List.length_append]; omega)
  refine ⟨g, o, e, hg, ?_⟩
  rw [hc, List.getD_eq_getElem?_getD, List.getD_eq_getElem?_getD, List.getElem?_append_left hi]
theorem upd_grown {w w' : World} {b : Option Nat} (h : w.grownBy w' b) : Upd (fun j => b = some j) w w' := ⟨h.os, h.tape, h.output, h.size, fun k hk hn => h.block k hk (fun e => hn e.symm)⟩
end Go.Proofs.YtadpibcgjgcjhabGreatDoor
