/- Package cache: All, and what it goes over. -/
import Derived.Test.YtehdddmpjimfhaaCkG
import Derived.Test.YtehdddmpjimfhaaCaR
import Derived.Shelf.RegionOpen
import Derived.OwnWalkIn
import Derived.TacticsInMore
import Derived.LoopNIn
import Derived.LoopIn
namespace Go.Proofs.Ytehdddmpjimfhaa
open Go.ChangeShapes Go.WideShapes Go.ChangeAt Go.RowKit Go.Shelf
set_option maxRecDepth 100000
attribute [local go_sem] Oper.semAt_some

/-- What a round that goes on keeps: the copy, and where it stands. -/
def KpT (b B : Nat) (W W' : World) : Prop := W'.heap[b]? = W.heap[b]? ∧ W'.heap[B]? = W.heap[B]?
theorem KpT.trans {b B : Nat} {A C D : World} (h : KpT b B A C) (k : KpT b B C D) : KpT b B A D := ⟨k.1.trans h.1, k.2.trans h.2⟩
theorem KpT.upd {b B : Nat} {S : Nat → Prop} {A C : World} (u : Upd S A C) (hb : b < A.heap.size) (hB : B < A.heap.size) (h1 : ¬ S b) (h2 : ¬ S B) : KpT b B A C := ⟨u.block b hb h1, u.block B hB h2⟩
theorem KpT.put {b B : Nat} {w : World} (hb : b < w.heap.size) (hB : B < w.heap.size) (W : World) (l : Nat) (o o' : Obj) (hl : w.heap.size ≤ l) (_ : W.heap[l]? = some o) (_ : o.isCells = false) (_ : o.isWalk = false) : KpT b B W (W.putObj l o') :=
  ⟨World.putObj_heap_other (by omega), World.putObj_heap_other (by omega)⟩
theorem CaL.kp {b B : Nat} {W W' : World} {es : List En} (h : CaL W b es) (k : KpT b B W W') : CaL W' b es := by
  obtain ⟨c, h1, h2⟩ := h
  exact ⟨c, ⟨fun i j hi hj => by rw [World.cell?_of_block (w := W) (w' := W') k.1]; exact h1.cells i j hi hj, by rw [World.cell?_of_block (w := W) (w' := W') k.1]; exact h1.cnt, fun o => by rw [World.frozen?_of_block (w := W) (w' := W') k.1]; exact h1.fz o, h1.le⟩, h2⟩
def enArgs (es : List En) (i : Nat) : Array Value := #[.int .i64 i, .agg #[.int .i64 (atE es i).root, .int .i64 (atE es i).page, .int .i64 (atE es i).dest, .bool (atE es i).may, .bool (atE es i).lf.there, .bool (atE es i).lf.wr, .int .i64 (atE es i).lf.fr]]
theorem kAll_any (w : World) (b : Nat) (es : List En) (h : CaL w b es) :
    Calls Try.prog 54 #[.pointer (some ⟨b, 0, none⟩)] w fun e w' => ∃ B b', e = .returned (.func (.func 88) #[] #[.pointer (some ⟨B, 0, none⟩)]) ∧ w.heap.size ≤ B ∧ w.heap.size ≤ b' ∧ w'.cell? ⟨B, 0, none⟩ = some (.pointer (some ⟨b', 0, none⟩)) ∧ CaL w' b' es ∧ Upd (fun _ => False) w w' := by
  have HH : Hid (CaL w b es) := h
  clear h
  go_enter Try.func54, Try.ntmps54
  go_wp2_with fail
  refine (kCopy_any w b es HH.out).mono ?_
  rintro e w1 ⟨b', rfl, hb, hc, hu⟩
  have HC : Hid (CaL w1 b' es) := hc
  have HU : Hid _ := hu
  clear hc hu
  go_wp2_with fail
  go_ret
  have hz := HU.out.size
  exact ⟨_, b', rfl, by omega, hb, by rw [World.cell?_alloc_new]; rfl, HC.out.upd ((Upd.refl (fun _ => False) _).alloc _) (fun f => f), HU.out.alloc _⟩
theorem upd_of_below {w W : World} (h : Below w.heap.size w W) : Upd (fun _ => False) w W := ⟨h.os, h.tape, h.output, h.size, fun k hk _ => h.block k hk⟩
theorem grown_of_upd {w W : World} (h : Upd (fun _ => False) w W) : w.grownBy W none := ⟨h.os, h.tape, h.output, h.size, fun k hk _ => h.block k hk (fun f => f)⟩
theorem kAll_stops (n : Nat) (w : World) (B b' : Nat) (es : List En) (hB : w.cell? ⟨B, 0, none⟩ = some (.pointer (some ⟨b', 0, none⟩))) (hC : CaL w b' es) :
    SeqStopsK Fence.wide n Try.prog 88 #[.pointer (some ⟨B, 0, none⟩)] (enArgs es) (KpT b' B) (fun ys => ys = List.range es.length) (fun pre => ∃ k, k ≤ es.length ∧ pre = List.range k) es.length w := fun l J Jx W hW hJ hJx hY h0 => by
  have hu := upd_of_below hW
  have hB' := hu.cell hB (fun f => f)
  have HC0 : Hid (CaL W b' es) := hC.upd hu (fun f => f)
  have hle := hC.le
  have hlive : Calls Try.prog 84 #[.pointer (some ⟨b', 0, none⟩)] W fun e w' => e = .returned (.slice (some ⟨b', 0, none⟩) es.length 4) ∧ ∃ m, w' = W.drewN m := by
    obtain ⟨c, h1, h2⟩ := HC0.out
    exact kLive_any W b' c es.length h1
  have HL : Hid _ := hlive
  have HY : Hid _ := hY
  have HJ : Hid _ := hJ
  have hltB : B < W.heap.size := World.block_lt_of_cell? W _ hB'
  have hltb : b' < W.heap.size := HC0.out.lt
  clear hC hB hW hlive hu hY hJ
  have f84 : Fence.wide.fn 84 := trivial
  refine callsIn_of_wp Try.func88 rfl trivial ?_ rfl
  simp only [Try.ntmps88, List.size_toArray, List.length_cons, List.length_nil, Nat.reduceAdd, Nat.reduceSub, Array.replicate_succ, Array.replicate_zero, List.push_toArray, List.append_toArray, List.nil_append, List.cons_append]
  gi_wp2_with fail
  refine ⟨fun h => (by cases h), ?_⟩
  refine CallsIn.mono (callsIn_wide.2 HL.out) ?_
  rintro e w1 ⟨rfl, m, rfl⟩
  have hu1 := (Upd.refl (fun _ => False) W).drewN m
  have hj0 := HJ.out [] W (W.drewN m) none h0 (grown_of_upd hu1) (fun r e => by cases e)
  have HC1 : Hid (CaL (W.drewN m) b' es) := HC0.out.upd hu1 (fun f => f)
  have HK1 : Hid (KpT b' B W (W.drewN m)) := KpT.upd hu1 hltb hltB (fun f => f) (fun f => f)
  have HZ1 : Hid ((W.drewN m).heap.size = W.heap.size) := rfl
  clear hu1 h0 HL hB' HC0
  revert hj0 HC1 HK1 HZ1
  generalize W.drewN m = w1
  intro hj0 HC1 HK1 HZ1
  gi_wp2_with fail
  gi_loopw [8] (fun i wr => ∃ k : Nat, k ≤ es.length ∧ i = .int .i64 k ∧ Hid (J (List.range k) wr) ∧ Hid (CaL wr b' es))
    (fun i _ => es.length - (intOf i).toNat)
  case atStart => exact ⟨0, Nat.zero_le _, rfl, hj0, HC1.out⟩
  case round =>
    obtain ⟨k, hk, rfl, HJs, HCs⟩ := hrel
    by_cases hlt : k < es.length
    · obtain ⟨c, hA, ec⟩ := HCs.out
      have ek := ec k hlt
      have c0 : wr.cell? ⟨b', k * 7, none⟩ = some (.int .i64 (atE es k).root) := by have := hA.cells k 0 (by omega) (by omega); rw [ek] at this; exact this
      have c1 : wr.cell? ⟨b', k * 7 + 1, none⟩ = some (.int .i64 (atE es k).page) := by have := hA.cells k 1 (by omega) (by omega); rw [ek] at this; exact this
      have c2 : wr.cell? ⟨b', k * 7 + 2, none⟩ = some (.int .i64 (atE es k).dest) := by have := hA.cells k 2 (by omega) (by omega); rw [ek] at this; exact this
      have c3 : wr.cell? ⟨b', k * 7 + 3, none⟩ = some (.bool (atE es k).may) := by have := hA.cells k 3 (by omega) (by omega); rw [ek] at this; exact this
      have c4 : wr.cell? ⟨b', k * 7 + 4, none⟩ = some (.bool (atE es k).lf.there) := by have := hA.cells k 4 (by omega) (by omega); rw [ek] at this; exact this
      have c5 : wr.cell? ⟨b', k * 7 + 5, none⟩ = some (.bool (atE es k).lf.wr) := by have := hA.cells k 5 (by omega) (by omega); rw [ek] at this; exact this
      have c6 : wr.cell? ⟨b', k * 7 + 6, none⟩ = some (.int .i64 (atE es k).lf.fr) := by have := hA.cells k 6 (by omega) (by omega); rw [ek] at this; exact this
      have k0 : (0 : Int) ≤ (k : Int) := by omega
      have k1 : (k : Int) < es.length := by omega
      have hy := HY.out (List.range k) k
      unfold enArgs at hy
      generalize atE es k = x at c0 c1 c2 c3 c4 c5 c6 hy
      clear hA ec ek
      have hu2 := (Upd.refl (fun _ => False) wr).alloc (.cells #[.int .i64 x.root, .int .i64 x.page, .int .i64 x.dest, .bool x.may, .bool x.lf.there, .bool x.lf.wr, .int .i64 x.lf.fr] 85)
      have hj2 := HJ.out (List.range k) wr _ none HJs.out (grown_of_upd hu2) (fun r e => by cases e)
      obtain ⟨fn, tmps, assign, body, hyy, hR⟩ := hy _ hj2 (by rw [List.length_range]; exact hlt)
      have hHR : Hid _ := hR
      have HC2 : Hid (CaL (wr.alloc (.cells #[.int .i64 x.root, .int .i64 x.page, .int .i64 x.dest, .bool x.may, .bool x.lf.there, .bool x.lf.wr, .int .i64 x.lf.fr] 85)) b' es) := HCs.out.upd hu2 (fun f => f)
      clear hR hj2 hy hu2
      gi_wp2_with fail
      refine ⟨fun h => (by cases h), ?_⟩
      refine RoundIn.mono hHR.out ?_
      rintro e w3 (⟨rfl, hJ3, hk3⟩ | ⟨rfl, hJx3⟩)
      · have HJ3 : Hid _ := hJ3
        have HC3 : Hid (CaL w3 b' es) := HC2.out.kp hk3
        clear hJ3 hk3 HC2 hHR
        gi_wp2_with fail
        go_roundw
        case rel => exact ⟨k + 1, by omega, by go_num, by rw [List.range_succ]; exact HJ3.out, HC3.out⟩
        case measure => simp [intOf]; omega
      · have HJ3 : Hid _ := hJx3
        clear hJx3 HC2 hHR
        gi_wp2_with fail
        refine bodyPost_ret (results_none rfl _ _ _) rfl ?_
        exact ⟨⟨_, rfl⟩, .inr ⟨_, ⟨k + 1, by omega, List.range_succ.symm⟩, HJ3.out⟩⟩
    · obtain rfl : k = es.length := by omega
      gi_wp2_with fail
      go_end0
      exact ⟨⟨_, rfl⟩, .inl ⟨_, rfl, HJs.out⟩⟩
end Go.Proofs.Ytehdddmpjimfhaa
