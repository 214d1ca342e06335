/- undercrofttop.TopCache: its two loops over entries. -/
import Derived.Test.YtadpibcgjgcjhaaPart06
namespace Go.Proofs.Ytadpibcgjgcjhaa
open Go.ChangeShapes Go.WideShapes Go.ChangeAt Go.RowKit Go.Shelf
set_option maxRecDepth 1000000
attribute [local go_sem] Oper.semAt_some

noncomputable def tcRf1 : Code := (Try.f8.body.bind (rfAt 105)).getD .skip
noncomputable def tcRf2 : Code := (Try.f8.body.bind (rfAt 114)).getD .skip
theorem box_cell {W : World} {B : Nat} {cs : Array Value} {ty : TypeId} (h : W.heap[B]? = some (.cells cs ty)) (j : Nat) : W.cell? ⟨B, j, none⟩ = cs[j]? := by simp [World.cell?, h]
theorem box_frozen {W : World} {B : Nat} {cs : Array Value} {ty : TypeId} (h : W.heap[B]? = some (.cells cs ty)) (j : Nat) : W.frozen? ⟨B, j, none⟩ = false := by simp [World.frozen?, h]
theorem box_new (W : World) (cs : Array Value) (ty : TypeId) : (W.alloc (.cells cs ty)).heap[W.heap.size]? = some (.cells cs ty) := World.alloc_heap_new W _

set_option maxHeartbeats 4000000 in
theorem tc_rf1 (c : Nat → Value) (ds : List Nat) (w : World) (B b' q R : Nat) (es : List En) (x : Ac) (rv : Bool) (hB : w.cell? ⟨B, 0, none⟩ = some (.pointer (some ⟨b', 0, none⟩))) (hC : CaL w b' es)
    (y2 : w.cell? ⟨q, 2, none⟩ = some (.int .i64 x.a)) (r0 : w.cell? ⟨R, 0, none⟩ = some (.bool rv)) (rz : w.frozen? ⟨R, 0, none⟩ = false)
    (hes : ∀ i, i < es.length → ((atE es i).root == x.a) = false) {Q : Exit → Act → World → Prop}
    (hm : ∀ (D : Nat) (W : World), w.heap.size ≤ D → Upd (fun _ => False) w W → W.heap[D]? = some (.deferred (some [])) → Q .normal ⟨#[c 0, c 1, .pointer (some ⟨R, 0, none⟩), c 3, c 4, c 5, c 6, c 7, .pointer (some ⟨q, 0, none⟩), c 9, c 10, c 11, c 12, c 13, c 14, c 15, c 16, c 17, c 18, c 19, c 20, c 21, c 22, c 23, c 24, c 25, c 26, c 27, c 28, c 29, c 30, c 31, c 32, c 33, c 34, c 35, c 36, c 37, c 38, c 39, c 40, c 41, c 42, c 43, c 44, c 45, c 46, c 47, c 48, c 49, c 50, c 51, c 52, c 53, c 54, c 55, c 56, c 57, c 58, c 59, c 60, c 61, c 62, c 63, c 64, c 65, c 66, c 67, c 68, c 69, c 70, c 71, c 72, c 73, c 74, c 75, c 76, c 77, c 78, c 79, c 80, c 81, c 82, c 83, c 84, c 85, c 86, c 87, c 88, c 89, c 90, c 91, c 92, c 93, c 94, c 95, c 96, c 97, c 98, c 99, c 100, c 101, c 102, c 103, c 104, .func (.func 91) #[] #[.pointer (some ⟨B, 0, none⟩)], c 106, c 107, c 108, c 109, c 110, c 111, c 112, c 113, c 114, c 115, c 116, c 117, c 118, c 119, c 120, c 121, c 122, c 123, c 124, c 125, c 126, c 127, c 128, c 129, c 130, c 131, c 132, c 133, c 134, c 135, c 136, c 137, c 138, c 139, c 140, c 141], marks (D :: ds)⟩ W) :
    Code.wp Try.prog tcRf1 Q ⟨#[c 0, c 1, .pointer (some ⟨R, 0, none⟩), c 3, c 4, c 5, c 6, c 7, .pointer (some ⟨q, 0, none⟩), c 9, c 10, c 11, c 12, c 13, c 14, c 15, c 16, c 17, c 18, c 19, c 20, c 21, c 22, c 23, c 24, c 25, c 26, c 27, c 28, c 29, c 30, c 31, c 32, c 33, c 34, c 35, c 36, c 37, c 38, c 39, c 40, c 41, c 42, c 43, c 44, c 45, c 46, c 47, c 48, c 49, c 50, c 51, c 52, c 53, c 54, c 55, c 56, c 57, c 58, c 59, c 60, c 61, c 62, c 63, c 64, c 65, c 66, c 67, c 68, c 69, c 70, c 71, c 72, c 73, c 74, c 75, c 76, c 77, c 78, c 79, c 80, c 81, c 82, c 83, c 84, c 85, c 86, c 87, c 88, c 89, c 90, c 91, c 92, c 93, c 94, c 95, c 96, c 97, c 98, c 99, c 100, c 101, c 102, c 103, c 104, .func (.func 91) #[] #[.pointer (some ⟨B, 0, none⟩)], c 106, c 107, c 108, c 109, c 110, c 111, c 112, c 113, c 114, c 115, c 116, c 117, c 118, c 119, c 120, c 121, c 122, c 123, c 124, c 125, c 126, c 127, c 128, c 129, c 130, c 131, c 132, c 133, c 134, c 135, c 136, c 137, c 138, c 139, c 140, c 141], marks ds⟩ w := by
  conv => arg 2; whnf
  refine range_law B b' es rfl hB hC rfl (fun _ W => Upd (fun _ => False) w W) (fun k pre _ => k = .ret ∧ ∃ i ∈ pre, ((atE es i).root == x.a) = true)
    (own_upd _ w) (fun _ _ _ _ _ hs _ _ => hs) (Upd.refl _ _)
    (fun i a' W => ∃ Bx, W.heap[Bx]? = some (.cells #[.int .i64 (atE es i).root, .int .i64 (atE es i).page, .int .i64 (atE es i).dest, .bool (atE es i).may, .bool (atE es i).lf.there, .bool (atE es i).lf.wr, .int .i64 (atE es i).lf.fr] 85) ∧ a' = ⟨#[c 0, c 1, .pointer (some ⟨R, 0, none⟩), c 3, c 4, c 5, c 6, c 7, .pointer (some ⟨q, 0, none⟩), c 9, c 10, c 11, c 12, c 13, c 14, .pointer (some ⟨Bx, 0, none⟩), c 16, c 17, c 18, c 19, c 20, c 21, c 22, c 23, c 24, c 25, c 26, c 27, c 28, c 29, c 30, c 31, c 32, c 33, c 34, c 35, c 36, c 37, c 38, c 39, c 40, c 41, c 42, c 43, c 44, c 45, c 46, c 47, c 48, c 49, c 50, c 51, c 52, c 53, c 54, c 55, c 56, c 57, c 58, c 59, c 60, c 61, c 62, c 63, c 64, c 65, c 66, c 67, c 68, c 69, c 70, c 71, c 72, c 73, c 74, c 75, c 76, c 77, c 78, c 79, c 80, c 81, c 82, c 83, c 84, c 85, c 86, c 87, c 88, c 89, c 90, c 91, c 92, c 93, c 94, c 95, c 96, c 97, c 98, c 99, c 100, c 101, c 102, c 103, c 104, .func (.func 91) #[] #[.pointer (some ⟨B, 0, none⟩)], .int .i64 i, .agg #[.int .i64 (atE es i).root, .int .i64 (atE es i).page, .int .i64 (atE es i).dest, .bool (atE es i).may, .bool (atE es i).lf.there, .bool (atE es i).lf.wr, .int .i64 (atE es i).lf.fr], c 108, c 109, c 110, c 111, c 112, c 113, c 114, c 115, c 116, c 117, c 118, c 119, c 120, c 121, c 122, c 123, c 124, c 125, c 126, c 127, c 128, c 129, c 130, c 131, c 132, c 133, c 134, c 135, c 136, c 137, c 138, c 139, c 140, c 141], []⟩)
    (fun i a' => ?ax) (fun _ _ h => h.size) ?assign ?body ?done ?stop
  case ax =>
    rintro s X Y row ⟨Bx, hb, rfl⟩ hg hr
    exact ⟨Bx, own_block (β := Unit) w.heap.size (fun _ => (Bx, _, _)) () X Y row hb hg hr, rfl⟩
  case assign =>
    intro l pre i W K hi hK
    unfold enArgs
    gi_wp2
    exact hK _ _ ((Upd.refl _ _).alloc _) (hi.alloc _) ⟨_, box_new W _ _, rfl⟩
  case body =>
    rintro l pre i a' W hi ⟨Bx, hb, rfl⟩ hn
    have c0 : W.cell? ⟨Bx, 0, none⟩ = some (.int .i64 (atE es i).root) := box_cell hb 0
    have y2' := hi.cell y2 (fun f => f)
    have r0' := hi.cell r0 (fun f => f)
    have rz' : W.frozen? ⟨R, 0, none⟩ = false := by rw [hi.frozen r0 (fun f => f)]; exact rz
    have HI : Hid _ := hi
    clear hi hb hC hB y2 r0 rz hm hn
    generalize hx : atE es i = y at c0
    have HX : Hid _ := hx
    clear hx hes
    cases hq : (y.root == x.a) with
    | true =>
      gi_wp2
      exact ⟨(KeepsOthers.setCell _ _ _).from _, rfl, i, by simp, by rw [HX.out]; exact hq⟩
    | false =>
      gi_wp2
      exact ⟨KeepsFrom.refl _ _, ⟨rfl, rfl⟩, HI.out⟩
  case done =>
    intro D W hD hi hd
    exact hm D W hD hi hd
  case stop =>
    rintro D k n W hD hn ⟨rfl, i, hi, he⟩ hd
    rw [hes i (by have := List.mem_range.1 hi; omega)] at he
    cases he
theorem kFind_any (w : World) (b : Nat) (es : List En) (r p : Int) (h : CaL w b es) :
    Calls Try.prog 47 #[.pointer (some ⟨b, 0, none⟩), .int .i64 r, .int .i64 p] w fun e w' => ∃ (y : En) (f : Bool), e = .returned (.tuple #[.agg #[.int .i64 y.root, .int .i64 y.page, .int .i64 y.dest, .bool y.may, .bool y.lf.there, .bool y.lf.wr, .int .i64 y.lf.fr], .bool f]) ∧ Upd (fun _ => False) w w' := by
  rcases idxP_cases (isAt r p) es with ⟨k, hk, ek, _, _⟩ | ⟨ek, _⟩
  · exact (kFind_yes w b es r p h k hk ek).mono (fun _ _ ⟨he, hu⟩ => ⟨_, _, he, hu⟩)
  · exact (kFind_no w b es r p h ek).mono (fun _ _ ⟨he, hu⟩ => ⟨en0, _, he, hu⟩)
theorem not_range {pre : List Nat} {i k : Nat} (hi : i ≠ pre.length) : pre ++ [i] ≠ List.range k := by
  intro e
  have hl := congrArg List.length e
  simp only [List.length_append, List.length_cons, List.length_nil, List.length_range] at hl
  subst hl
  have := congrArg (fun l => l[pre.length]?) e
  simp at this
  exact hi this
set_option maxHeartbeats 4000000 in
theorem tc_rf2 (c : Nat → Value) (ds : List Nat) (w : World) (B b' R Bc Bn bc : Nat) (es : List En) (rv : Bool) (hd : Dist es) (hB : w.cell? ⟨B, 0, none⟩ = some (.pointer (some ⟨b', 0, none⟩))) (hC : CaL w b' es) (hC2 : CaL w bc es)
    (hbc : w.cell? ⟨Bc, 0, none⟩ = some (.pointer (some ⟨bc, 0, none⟩))) (hbn : w.heap[Bn]? = some (.cells #[.int .i64 0] 3)) (r0 : w.cell? ⟨R, 0, none⟩ = some (.bool rv)) (rz : w.frozen? ⟨R, 0, none⟩ = false)
    (n1 : R ≠ Bn) (n2 : Bc ≠ Bn) (n3 : bc ≠ Bn) (n4 : b' ≠ Bn) (n5 : B ≠ Bn) {Q : Exit → Act → World → Prop}
    (hm : ∀ (D : Nat) (W : World), w.heap.size ≤ D → Upd (fun k => k = Bn) w W → W.heap[Bn]? = some (.cells #[.int .i64 (es.length : Nat)] 3) → W.heap[D]? = some (.deferred (some [])) → Q .normal ⟨#[c 0, c 1, .pointer (some ⟨R, 0, none⟩), c 3, c 4, c 5, .pointer (some ⟨Bc, 0, none⟩), c 7, c 8, c 9, c 10, c 11, c 12, c 13, c 14, c 15, .pointer (some ⟨Bn, 0, none⟩), c 17, c 18, c 19, c 20, c 21, c 22, c 23, c 24, c 25, c 26, c 27, c 28, c 29, c 30, c 31, c 32, c 33, c 34, c 35, c 36, c 37, c 38, c 39, c 40, c 41, c 42, c 43, c 44, c 45, c 46, c 47, c 48, c 49, c 50, c 51, c 52, c 53, c 54, c 55, c 56, c 57, c 58, c 59, c 60, c 61, c 62, c 63, c 64, c 65, c 66, c 67, c 68, c 69, c 70, c 71, c 72, c 73, c 74, c 75, c 76, c 77, c 78, c 79, c 80, c 81, c 82, c 83, c 84, c 85, c 86, c 87, c 88, c 89, c 90, c 91, c 92, c 93, c 94, c 95, c 96, c 97, c 98, c 99, c 100, c 101, c 102, c 103, c 104, c 105, c 106, c 107, c 108, c 109, c 110, c 111, c 112, c 113, .func (.func 91) #[] #[.pointer (some ⟨B, 0, none⟩)], c 115, c 116, c 117, c 118, c 119, c 120, c 121, c 122, c 123, c 124, c 125, c 126, c 127, c 128, c 129, c 130, c 131, c 132, c 133, c 134, c 135, c 136, c 137, c 138, c 139, c 140, c 141], marks (D :: ds)⟩ W) :
    Code.wp Try.prog tcRf2 Q ⟨#[c 0, c 1, .pointer (some ⟨R, 0, none⟩), c 3, c 4, c 5, .pointer (some ⟨Bc, 0, none⟩), c 7, c 8, c 9, c 10, c 11, c 12, c 13, c 14, c 15, .pointer (some ⟨Bn, 0, none⟩), c 17, c 18, c 19, c 20, c 21, c 22, c 23, c 24, c 25, c 26, c 27, c 28, c 29, c 30, c 31, c 32, c 33, c 34, c 35, c 36, c 37, c 38, c 39, c 40, c 41, c 42, c 43, c 44, c 45, c 46, c 47, c 48, c 49, c 50, c 51, c 52, c 53, c 54, c 55, c 56, c 57, c 58, c 59, c 60, c 61, c 62, c 63, c 64, c 65, c 66, c 67, c 68, c 69, c 70, c 71, c 72, c 73, c 74, c 75, c 76, c 77, c 78, c 79, c 80, c 81, c 82, c 83, c 84, c 85, c 86, c 87, c 88, c 89, c 90, c 91, c 92, c 93, c 94, c 95, c 96, c 97, c 98, c 99, c 100, c 101, c 102, c 103, c 104, c 105, c 106, c 107, c 108, c 109, c 110, c 111, c 112, c 113, .func (.func 91) #[] #[.pointer (some ⟨B, 0, none⟩)], c 115, c 116, c 117, c 118, c 119, c 120, c 121, c 122, c 123, c 124, c 125, c 126, c 127, c 128, c 129, c 130, c 131, c 132, c 133, c 134, c 135, c 136, c 137, c 138, c 139, c 140, c 141], marks ds⟩ w := by
  conv => arg 2; whnf
  refine range_law B b' es rfl hB hC rfl (fun pre W => Upd (fun k => k = Bn) w W ∧ W.heap[Bn]? = some (.cells #[.int .i64 (pre.length : Nat)] 3)) (fun k pre _ => k = .ret ∧ ∀ m, pre ≠ List.range m)
    (OwnFrom.and (own_upd _ w) (own_block w.heap.size (fun pre => (Bn, _, _)))) (fun _ _ _ _ _ hs _ _ => hs) ⟨Upd.refl _ _, hbn⟩
    (fun i a' W => ∃ Bx, W.heap[Bx]? = some (.cells #[.int .i64 (atE es i).root, .int .i64 (atE es i).page, .int .i64 (atE es i).dest, .bool (atE es i).may, .bool (atE es i).lf.there, .bool (atE es i).lf.wr, .int .i64 (atE es i).lf.fr] 85) ∧ a' = ⟨#[c 0, c 1, .pointer (some ⟨R, 0, none⟩), c 3, c 4, c 5, .pointer (some ⟨Bc, 0, none⟩), c 7, c 8, c 9, c 10, c 11, c 12, c 13, c 14, c 15, .pointer (some ⟨Bn, 0, none⟩), .int .i64 i, .pointer (some ⟨Bx, 0, none⟩), c 19, c 20, c 21, c 22, c 23, c 24, c 25, c 26, c 27, c 28, c 29, c 30, c 31, c 32, c 33, c 34, c 35, c 36, c 37, c 38, c 39, c 40, c 41, c 42, c 43, c 44, c 45, c 46, c 47, c 48, c 49, c 50, c 51, c 52, c 53, c 54, c 55, c 56, c 57, c 58, c 59, c 60, c 61, c 62, c 63, c 64, c 65, c 66, c 67, c 68, c 69, c 70, c 71, c 72, c 73, c 74, c 75, c 76, c 77, c 78, c 79, c 80, c 81, c 82, c 83, c 84, c 85, c 86, c 87, c 88, c 89, c 90, c 91, c 92, c 93, c 94, c 95, c 96, c 97, c 98, c 99, c 100, c 101, c 102, c 103, c 104, c 105, c 106, c 107, c 108, c 109, c 110, c 111, c 112, c 113, .func (.func 91) #[] #[.pointer (some ⟨B, 0, none⟩)], .int .i64 i, .agg #[.int .i64 (atE es i).root, .int .i64 (atE es i).page, .int .i64 (atE es i).dest, .bool (atE es i).may, .bool (atE es i).lf.there, .bool (atE es i).lf.wr, .int .i64 (atE es i).lf.fr], c 117, c 118, c 119, c 120, c 121, c 122, c 123, c 124, c 125, c 126, c 127, c 128, c 129, c 130, c 131, c 132, c 133, c 134, c 135, c 136, c 137, c 138, c 139, c 140, c 141], []⟩)
    (fun i a' => ?ax) (fun _ _ h => h.1.size) ?assign ?body ?done ?stop
  case ax =>
    rintro s X Y row ⟨Bx, hb, rfl⟩ hg hr
    exact ⟨Bx, own_block (β := Unit) w.heap.size (fun _ => (Bx, _, _)) () X Y row hb hg hr, rfl⟩
  case assign =>
    rintro l pre i W K ⟨hi, hi2⟩ hK
    unfold enArgs
    gi_wp2
    exact hK _ _ ((Upd.refl _ _).alloc _) ⟨hi.alloc _, by rw [Below.heap_alloc _ _ _ (Array.getElem?_eq_some_iff.1 hi2).1]; exact hi2⟩ ⟨_, box_new W _ _, rfl⟩
  case body =>
    rintro l pre i a' W ⟨hi, hi2⟩ ⟨Bx, hb, rfl⟩ hn
    have d0 : W.cell? ⟨Bc, 0, none⟩ = some (.pointer (some ⟨bc, 0, none⟩)) := hi.cell hbc n2
    have c0 : W.cell? ⟨Bx, 0, none⟩ = some (.int .i64 (atE es i).root) := box_cell hb 0
    have c1 : W.cell? ⟨Bx, 1, none⟩ = some (.int .i64 (atE es i).page) := box_cell hb 1
    have HC : Hid (CaL W bc es) := hC2.upd hi n3
    have HR0 : Hid _ := hi.cell r0 n1
    have HRZ : Hid (W.frozen? ⟨R, 0, none⟩ = false) := by show _ = _; rw [hi.frozen r0 n1]; exact rz
    have HI : Hid _ := hi
    have HI2 : Hid _ := hi2
    have HB : Hid _ := hb
    have hltB : B < W.heap.size := Nat.lt_of_lt_of_le (World.block_lt_of_cell? w _ hB) hi.size
    have hltb : b' < W.heap.size := Nat.lt_of_lt_of_le hC.lt hi.size
    have HD : Hid (Dist es) := hd
    clear hi hi2 hb hm hbc hbn r0 rz hB hC hC2 hd
    have hle := HC.out.le
    have fw : Fence.wide.fn 47 := trivial
    by_cases hx : i = pre.length
    · subst hx
      generalize hlen : pre.length = i at *
      have HL : Hid _ := hlen
      clear hlen
      gi_wp2_with fail
      refine CallsIn.mono (CallsIn.inRound l (callsIn_wide.2 (kFind_yes W bc es _ _ HC.out i hn (idx_self HD.out hn)))) ?_
      rintro e w1 ⟨rfl, hu⟩
      have hu := hu.alloc (.cells #[.int .i64 (atE es i).root, .int .i64 (atE es i).page, .int .i64 (atE es i).dest, .bool (atE es i).may, .bool (atE es i).lf.there, .bool (atE es i).lf.wr, .int .i64 (atE es i).lf.fr] 85)
      have hi2' : (w1.alloc (.cells #[.int .i64 (atE es i).root, .int .i64 (atE es i).page, .int .i64 (atE es i).dest, .bool (atE es i).may, .bool (atE es i).lf.there, .bool (atE es i).lf.wr, .int .i64 (atE es i).lf.fr] 85)).heap[Bn]? = _ := (hu.block Bn (Array.getElem?_eq_some_iff.1 HI2.out).1 (fun f => f)).trans HI2.out
      have e0 : (w1.alloc (.cells #[.int .i64 (atE es i).root, .int .i64 (atE es i).page, .int .i64 (atE es i).dest, .bool (atE es i).may, .bool (atE es i).lf.there, .bool (atE es i).lf.wr, .int .i64 (atE es i).lf.fr] 85)).cell? ⟨Bn, 0, none⟩ = some (.int .i64 (i : Nat)) := box_cell hi2' 0
      have e1 : (w1.alloc (.cells #[.int .i64 (atE es i).root, .int .i64 (atE es i).page, .int .i64 (atE es i).dest, .bool (atE es i).may, .bool (atE es i).lf.there, .bool (atE es i).lf.wr, .int .i64 (atE es i).lf.fr] 85)).frozen? ⟨Bn, 0, none⟩ = false := box_frozen hi2' 0
      have hb' : (w1.alloc (.cells #[.int .i64 (atE es i).root, .int .i64 (atE es i).page, .int .i64 (atE es i).dest, .bool (atE es i).may, .bool (atE es i).lf.there, .bool (atE es i).lf.wr, .int .i64 (atE es i).lf.fr] 85)).heap[Bx]? = _ := (hu.block Bx (Array.getElem?_eq_some_iff.1 HB.out).1 (fun f => f)).trans HB.out
      have x0 : (w1.alloc (.cells #[.int .i64 (atE es i).root, .int .i64 (atE es i).page, .int .i64 (atE es i).dest, .bool (atE es i).may, .bool (atE es i).lf.there, .bool (atE es i).lf.wr, .int .i64 (atE es i).lf.fr] 85)).cell? ⟨Bx, 0, none⟩ = some (.int .i64 (atE es i).root) := box_cell hb' 0
      have x1 : (w1.alloc (.cells #[.int .i64 (atE es i).root, .int .i64 (atE es i).page, .int .i64 (atE es i).dest, .bool (atE es i).may, .bool (atE es i).lf.there, .bool (atE es i).lf.wr, .int .i64 (atE es i).lf.fr] 85)).cell? ⟨Bx, 1, none⟩ = some (.int .i64 (atE es i).page) := box_cell hb' 1
      have x2 : (w1.alloc (.cells #[.int .i64 (atE es i).root, .int .i64 (atE es i).page, .int .i64 (atE es i).dest, .bool (atE es i).may, .bool (atE es i).lf.there, .bool (atE es i).lf.wr, .int .i64 (atE es i).lf.fr] 85)).cell? ⟨Bx, 2, none⟩ = some (.int .i64 (atE es i).dest) := box_cell hb' 2
      have x3 : (w1.alloc (.cells #[.int .i64 (atE es i).root, .int .i64 (atE es i).page, .int .i64 (atE es i).dest, .bool (atE es i).may, .bool (atE es i).lf.there, .bool (atE es i).lf.wr, .int .i64 (atE es i).lf.fr] 85)).cell? ⟨Bx, 3, none⟩ = some (.bool (atE es i).may) := box_cell hb' 3
      have x4 : (w1.alloc (.cells #[.int .i64 (atE es i).root, .int .i64 (atE es i).page, .int .i64 (atE es i).dest, .bool (atE es i).may, .bool (atE es i).lf.there, .bool (atE es i).lf.wr, .int .i64 (atE es i).lf.fr] 85)).cell? ⟨Bx, 4, none⟩ = some (.bool (atE es i).lf.there) := box_cell hb' 4
      have x5 : (w1.alloc (.cells #[.int .i64 (atE es i).root, .int .i64 (atE es i).page, .int .i64 (atE es i).dest, .bool (atE es i).may, .bool (atE es i).lf.there, .bool (atE es i).lf.wr, .int .i64 (atE es i).lf.fr] 85)).cell? ⟨Bx, 5, none⟩ = some (.bool (atE es i).lf.wr) := box_cell hb' 5
      have x6 : (w1.alloc (.cells #[.int .i64 (atE es i).root, .int .i64 (atE es i).page, .int .i64 (atE es i).dest, .bool (atE es i).may, .bool (atE es i).lf.there, .bool (atE es i).lf.wr, .int .i64 (atE es i).lf.fr] 85)).cell? ⟨Bx, 6, none⟩ = some (.int .i64 (atE es i).lf.fr) := box_cell hb' 6
      have HB2 : Hid ((w1.alloc (.cells #[.int .i64 (atE es i).root, .int .i64 (atE es i).page, .int .i64 (atE es i).dest, .bool (atE es i).may, .bool (atE es i).lf.there, .bool (atE es i).lf.wr, .int .i64 (atE es i).lf.fr] 85)).heap[Bn]? = some (.cells #[.int .i64 (i : Nat)] 3)) := hi2'
      have HU : Hid _ := hu
      clear hu hi2' hb' c0 c1 d0
      generalize atE es i = y at *
      gi_wp2_with fail
      have hU := HU.out
      have hB2 := HB2.out
      revert hU hB2
      generalize w1.alloc (.cells #[.int .i64 y.root, .int .i64 y.page, .int .i64 y.dest, .bool y.may, .bool y.lf.there, .bool y.lf.wr, .int .i64 y.lf.fr] 85) = w2
      intro hU hB2
      have hU3 := Upd.one w2 Bn 0 (.int .i64 ((i : Nat) + 1))
      refine ⟨(keeps_of_upd hU).trans (keeps_of_box hU3 hB2), (KpT.upd hU hltb hltB (fun f => f) (fun f => f)).trans (KpT.upd hU3 (Nat.lt_of_lt_of_le hltb hU.size) (Nat.lt_of_lt_of_le hltB hU.size) n4 n5), HI.out.trans (hU.free.trans hU3 (fun _ _ e => e)) (fun _ _ e => e), ?_⟩
      have := Boxed.set (.int .i64 ((i : Nat) + 1)) hB2
      rw [List.length_append, HL.out]
      exact this
    · have hx2 : ((i : Int) != (pre.length : Int)) = true := by simp; omega
      have HX : Hid _ := hx
      clear hx
      gi_wp2_with fail
      refine CallsIn.mono (CallsIn.inRound l (callsIn_wide.2 (kFind_any W bc es _ _ HC.out))) ?_
      rintro e w1 ⟨y, f, rfl, hu⟩
      have hu := hu.alloc (.cells #[.int .i64 y.root, .int .i64 y.page, .int .i64 y.dest, .bool y.may, .bool y.lf.there, .bool y.lf.wr, .int .i64 y.lf.fr] 85)
      have hi2' : (w1.alloc (.cells #[.int .i64 y.root, .int .i64 y.page, .int .i64 y.dest, .bool y.may, .bool y.lf.there, .bool y.lf.wr, .int .i64 y.lf.fr] 85)).heap[Bn]? = _ := (hu.block Bn (Array.getElem?_eq_some_iff.1 HI2.out).1 (fun f => f)).trans HI2.out
      have e0 : (w1.alloc (.cells #[.int .i64 y.root, .int .i64 y.page, .int .i64 y.dest, .bool y.may, .bool y.lf.there, .bool y.lf.wr, .int .i64 y.lf.fr] 85)).cell? ⟨Bn, 0, none⟩ = some (.int .i64 (pre.length : Nat)) := box_cell hi2' 0
      have e1 : (w1.alloc (.cells #[.int .i64 y.root, .int .i64 y.page, .int .i64 y.dest, .bool y.may, .bool y.lf.there, .bool y.lf.wr, .int .i64 y.lf.fr] 85)).frozen? ⟨Bn, 0, none⟩ = false := box_frozen hi2' 0
      have hb' : (w1.alloc (.cells #[.int .i64 y.root, .int .i64 y.page, .int .i64 y.dest, .bool y.may, .bool y.lf.there, .bool y.lf.wr, .int .i64 y.lf.fr] 85)).heap[Bx]? = _ := (hu.block Bx (Array.getElem?_eq_some_iff.1 HB.out).1 (fun f => f)).trans HB.out
      have x0 : (w1.alloc (.cells #[.int .i64 y.root, .int .i64 y.page, .int .i64 y.dest, .bool y.may, .bool y.lf.there, .bool y.lf.wr, .int .i64 y.lf.fr] 85)).cell? ⟨Bx, 0, none⟩ = some (.int .i64 (atE es i).root) := box_cell hb' 0
      have x1 : (w1.alloc (.cells #[.int .i64 y.root, .int .i64 y.page, .int .i64 y.dest, .bool y.may, .bool y.lf.there, .bool y.lf.wr, .int .i64 y.lf.fr] 85)).cell? ⟨Bx, 1, none⟩ = some (.int .i64 (atE es i).page) := box_cell hb' 1
      have x2 : (w1.alloc (.cells #[.int .i64 y.root, .int .i64 y.page, .int .i64 y.dest, .bool y.may, .bool y.lf.there, .bool y.lf.wr, .int .i64 y.lf.fr] 85)).cell? ⟨Bx, 2, none⟩ = some (.int .i64 (atE es i).dest) := box_cell hb' 2
      have x3 : (w1.alloc (.cells #[.int .i64 y.root, .int .i64 y.page, .int .i64 y.dest, .bool y.may, .bool y.lf.there, .bool y.lf.wr, .int .i64 y.lf.fr] 85)).cell? ⟨Bx, 3, none⟩ = some (.bool (atE es i).may) := box_cell hb' 3
      have x4 : (w1.alloc (.cells #[.int .i64 y.root, .int .i64 y.page, .int .i64 y.dest, .bool y.may, .bool y.lf.there, .bool y.lf.wr, .int .i64 y.lf.fr] 85)).cell? ⟨Bx, 4, none⟩ = some (.bool (atE es i).lf.there) := box_cell hb' 4
      have x5 : (w1.alloc (.cells #[.int .i64 y.root, .int .i64 y.page, .int .i64 y.dest, .bool y.may, .bool y.lf.there, .bool y.lf.wr, .int .i64 y.lf.fr] 85)).cell? ⟨Bx, 5, none⟩ = some (.bool (atE es i).lf.wr) := box_cell hb' 5
      have x6 : (w1.alloc (.cells #[.int .i64 y.root, .int .i64 y.page, .int .i64 y.dest, .bool y.may, .bool y.lf.there, .bool y.lf.wr, .int .i64 y.lf.fr] 85)).cell? ⟨Bx, 6, none⟩ = some (.int .i64 (atE es i).lf.fr) := box_cell hb' 6
      have q0 := hu.cell HR0.out (fun f => f)
      have q1 : (w1.alloc (.cells #[.int .i64 y.root, .int .i64 y.page, .int .i64 y.dest, .bool y.may, .bool y.lf.there, .bool y.lf.wr, .int .i64 y.lf.fr] 85)).frozen? ⟨R, 0, none⟩ = false := by rw [hu.frozen HR0.out (fun f => f)]; exact HRZ.out
      have HU : Hid _ := hu
      clear hu hi2' hb' c0 c1 d0 x0 x1 x2 x3 x4 x5 x6 e1
      gi_wp2_with fail
      exact ⟨(keeps_of_upd HU.out).trans ((KeepsOthers.setCell _ _ _).from _), rfl, fun m => not_range HX.out⟩
  case done =>
    intro D W hD hi hd
    exact hm D W hD hi.1 (by have := hi.2; rwa [List.length_range] at this) hd
  case stop =>
    rintro D k n W hD hn ⟨rfl, he⟩ hd
    exact absurd rfl (he n)
theorem tc_rf1L (l : List Value) (hl : l.length = 142) (ds : List Nat) (w : World) (B b' q R : Nat) (es : List En) (x : Ac) (rv : Bool) (h2 : l.getD 2 undef = .pointer (some ⟨R, 0, none⟩)) (h8 : l.getD 8 undef = .pointer (some ⟨q, 0, none⟩)) (h105 : l.getD 105 undef = .func (.func 91) #[] #[.pointer (some ⟨B, 0, none⟩)]) (hB : w.cell? ⟨B, 0, none⟩ = some (.pointer (some ⟨b', 0, none⟩))) (hC : CaL w b' es)
    (y2 : w.cell? ⟨q, 2, none⟩ = some (.int .i64 x.a)) (r0 : w.cell? ⟨R, 0, none⟩ = some (.bool rv)) (rz : w.frozen? ⟨R, 0, none⟩ = false)
    (hes : ∀ i, i < es.length → ((atE es i).root == x.a) = false) {Q : Exit → Act → World → Prop}
    (hm : ∀ (D : Nat) (W : World), w.heap.size ≤ D → Upd (fun _ => False) w W → W.heap[D]? = some (.deferred (some [])) → Q .normal ⟨l.toArray, marks (D :: ds)⟩ W) :
    Code.wp Try.prog tcRf1 Q ⟨l.toArray, marks ds⟩ w := by
  rw [frame_fn l, hl, show ((List.range 142).map (fun i => l.getD i undef)).toArray = #[l.getD 0 undef, l.getD 1 undef, l.getD 2 undef, l.getD 3 undef, l.getD 4 undef, l.getD 5 undef, l.getD 6 undef, l.getD 7 undef, l.getD 8 undef, l.getD 9 undef, l.getD 10 undef, l.getD 11 undef, l.getD 12 undef, l.getD 13 undef, l.getD 14 undef, l.getD 15 undef, l.getD 16 undef, l.getD 17 undef, l.getD 18 undef, l.getD 19 undef, l.getD 20 undef, l.getD 21 undef, l.getD 22 undef, l.getD 23 undef, l.getD 24 undef, l.getD 25 undef, l.getD 26 undef, l.getD 27 undef, l.getD 28 undef, l.getD 29 undef, l.getD 30 undef, l.getD 31 undef, l.getD 32 undef, l.getD 33 undef, l.getD 34 undef, l.getD 35 undef, l.getD 36 undef, l.getD 37 undef, l.getD 38 undef, l.getD 39 undef, l.getD 40 undef, l.getD 41 undef, l.getD 42 undef, l.getD 43 undef, l.getD 44 undef, l.getD 45 undef, l.getD 46 undef, l.getD 47 undef, l.getD 48 undef, l.getD 49 undef, l.getD 50 undef, l.getD 51 undef, l.getD 52 undef, l.getD 53 undef, l.getD 54 undef, l.getD 55 undef, l.getD 56 undef, l.getD 57 undef, l.getD 58 undef, l.getD 59 undef, l.getD 60 undef, l.getD 61 undef, l.getD 62 undef, l.getD 63 undef, l.getD 64 undef, l.getD 65 undef, l.getD 66 undef, l.getD 67 undef, l.getD 68 undef, l.getD 69 undef, l.getD 70 undef, l.getD 71 undef, l.getD 72 undef, l.getD 73 undef, l.getD 74 undef, l.getD 75 undef, l.getD 76 undef, l.getD 77 undef, l.getD 78 undef, l.getD 79 undef, l.getD 80 undef, l.getD 81 undef, l.getD 82 undef, l.getD 83 undef, l.getD 84 undef, l.getD 85 undef, l.getD 86 undef, l.getD 87 undef, l.getD 88 undef, l.getD 89 undef, l.getD 90 undef, l.getD 91 undef, l.getD 92 undef, l.getD 93 undef, l.getD 94 undef, l.getD 95 undef, l.getD 96 undef, l.getD 97 undef, l.getD 98 undef, l.getD 99 undef, l.getD 100 undef, l.getD 101 undef, l.getD 102 undef, l.getD 103 undef, l.getD 104 undef, l.getD 105 undef, l.getD 106 undef, l.getD 107 undef, l.getD 108 undef, l.getD 109 undef, l.getD 110 undef, l.getD 111 undef, l.getD 112 undef, l.getD 113 undef, l.getD 114 undef, l.getD 115 undef, l.getD 116 undef, l.getD 117 undef, l.getD 118 undef, l.getD 119 undef, l.getD 120 undef, l.getD 121 undef, l.getD 122 undef, l.getD 123 undef, l.getD 124 undef, l.getD 125 undef, l.getD 126 undef, l.getD 127 undef, l.getD 128 undef, l.getD 129 undef, l.getD 130 undef, l.getD 131 undef, l.getD 132 undef, l.getD 133 undef, l.getD 134 undef, l.getD 135 undef, l.getD 136 undef, l.getD 137 undef, l.getD 138 undef, l.getD 139 undef, l.getD 140 undef, l.getD 141 undef] from rfl] at hm ⊢
  rw [h2, h8, h105] at hm ⊢
  exact tc_rf1 (fun i => l.getD i undef) ds w B b' q R es x rv hB hC y2 r0 rz hes hm
theorem tc_rf2L (l : List Value) (hl : l.length = 142) (ds : List Nat) (w : World) (B b' R Bc Bn bc : Nat) (es : List En) (rv : Bool) (h2 : l.getD 2 undef = .pointer (some ⟨R, 0, none⟩)) (h6 : l.getD 6 undef = .pointer (some ⟨Bc, 0, none⟩)) (h16 : l.getD 16 undef = .pointer (some ⟨Bn, 0, none⟩)) (h114 : l.getD 114 undef = .func (.func 91) #[] #[.pointer (some ⟨B, 0, none⟩)]) (hd : Dist es) (hB : w.cell? ⟨B, 0, none⟩ = some (.pointer (some ⟨b', 0, none⟩))) (hC : CaL w b' es) (hC2 : CaL w bc es)
    (hbc : w.cell? ⟨Bc, 0, none⟩ = some (.pointer (some ⟨bc, 0, none⟩))) (hbn : w.heap[Bn]? = some (.cells #[.int .i64 0] 3)) (r0 : w.cell? ⟨R, 0, none⟩ = some (.bool rv)) (rz : w.frozen? ⟨R, 0, none⟩ = false)
    (n1 : R ≠ Bn) (n2 : Bc ≠ Bn) (n3 : bc ≠ Bn) (n4 : b' ≠ Bn) (n5 : B ≠ Bn) {Q : Exit → Act → World → Prop}
    (hm : ∀ (D : Nat) (W : World), w.heap.size ≤ D → Upd (fun k => k = Bn) w W → W.heap[Bn]? = some (.cells #[.int .i64 (es.length : Nat)] 3) → W.heap[D]? = some (.deferred (some [])) → Q .normal ⟨l.toArray, marks (D :: ds)⟩ W) :
    Code.wp Try.prog tcRf2 Q ⟨l.toArray, marks ds⟩ w := by
  rw [frame_fn l, hl, show ((List.range 142).map (fun i => l.getD i undef)).toArray = #[l.getD 0 undef, l.getD 1 undef, l.getD 2 undef, l.getD 3 undef, l.getD 4 undef, l.getD 5 undef, l.getD 6 undef, l.getD 7 undef, l.getD 8 undef, l.getD 9 undef, l.getD 10 undef, l.getD 11 undef, l.getD 12 undef, l.getD 13 undef, l.getD 14 undef, l.getD 15 undef, l.getD 16 undef, l.getD 17 undef, l.getD 18 undef, l.getD 19 undef, l.getD 20 undef, l.getD 21 undef, l.getD 22 undef, l.getD 23 undef, l.getD 24 undef, l.getD 25 undef, l.getD 26 undef, l.getD 27 undef, l.getD 28 undef, l.getD 29 undef, l.getD 30 undef, l.getD 31 undef, l.getD 32 undef, l.getD 33 undef, l.getD 34 undef, l.getD 35 undef, l.getD 36 undef, l.getD 37 undef, l.getD 38 undef, l.getD 39 undef, l.getD 40 undef, l.getD 41 undef, l.getD 42 undef, l.getD 43 undef, l.getD 44 undef, l.getD 45 undef, l.getD 46 undef, l.getD 47 undef, l.getD 48 undef, l.getD 49 undef, l.getD 50 undef, l.getD 51 undef, l.getD 52 undef, l.getD 53 undef, l.getD 54 undef, l.getD 55 undef, l.getD 56 undef, l.getD 57 undef, l.getD 58 undef, l.getD 59 undef, l.getD 60 undef, l.getD 61 undef, l.getD 62 undef, l.getD 63 undef, l.getD 64 undef, l.getD 65 undef, l.getD 66 undef, l.getD 67 undef, l.getD 68 undef, l.getD 69 undef, l.getD 70 undef, l.getD 71 undef, l.getD 72 undef, l.getD 73 undef, l.getD 74 undef, l.getD 75 undef, l.getD 76 undef, l.getD 77 undef, l.getD 78 undef, l.getD 79 undef, l.getD 80 undef, l.getD 81 undef, l.getD 82 undef, l.getD 83 undef, l.getD 84 undef, l.getD 85 undef, l.getD 86 undef, l.getD 87 undef, l.getD 88 undef, l.getD 89 undef, l.getD 90 undef, l.getD 91 undef, l.getD 92 undef, l.getD 93 undef, l.getD 94 undef, l.getD 95 undef, l.getD 96 undef, l.getD 97 undef, l.getD 98 undef, l.getD 99 undef, l.getD 100 undef, l.getD 101 undef, l.getD 102 undef, l.getD 103 undef, l.getD 104 undef, l.getD 105 undef, l.getD 106 undef, l.getD 107 undef, l.getD 108 undef, l.getD 109 undef, l.getD 110 undef, l.getD 111 undef, l.getD 112 undef, l.getD 113 undef, l.getD 114 undef, l.getD 115 undef, l.getD 116 undef, l.getD 117 undef, l.getD 118 undef, l.getD 119 undef, l.getD 120 undef, l.getD 121 undef, l.getD 122 undef, l.getD 123 undef, l.getD 124 undef, l.getD 125 undef, l.getD 126 undef, l.getD 127 undef, l.getD 128 undef, l.getD 129 undef, l.getD 130 undef, l.getD 131 undef, l.getD 132 undef, l.getD 133 undef, l.getD 134 undef, l.getD 135 undef, l.getD 136 undef, l.getD 137 undef, l.getD 138 undef, l.getD 139 undef, l.getD 140 undef, l.getD 141 undef] from rfl] at hm ⊢
  rw [h2, h6, h16, h114] at hm ⊢
  exact tc_rf2 (fun i => l.getD i undef) ds w B b' R Bc Bn bc es rv hd hB hC hC2 hbc hbn r0 rz n1 n2 n3 n4 n5 hm
end Go.Proofs.Ytadpibcgjgcjhaa
/- A region that draws its order and only reads, within a round of a loop over an iterator: one walk, in the text's order; a struct that is read there. -/
namespace Go.Proofs.Ytadpibcgjgcjhaa
open Go.ChangeShapes Go.WideShapes Go.ChangeAt Go.RowKit Go.Shelf
set_option maxRecDepth 100000

section
variable {F : Fence} {n : Nat} {P : Program} {ops : Array Oper} {md : Region.Mode} {C : World → Prop}
/-- No operation is a defer statement. -/
def noDefer (l : List Oper) : Bool := l.all fun o => match o.op with
  | .defer _ => false
  | _ => true
theorem noDefer_spec {l : List Oper} (h : noDefer l = true) : ∀ o ∈ l, ∀ c, o.op ≠ .defer c := by
  intro o ho c e
  have := List.all_eq_true.1 h o ho
  rw [e] at this
  cases this
theorem wpIn_of_quietR {o : Oper} {a : Act} {K : Act → Prop} {K' : Act → World → Prop} {Q' : Exit → Act → World → Prop} {w : World} (hnd : ∀ c, o.op ≠ .defer c) (hw : C w) (h : ∀ a w', C w' → K a → K' a w')
    (ha : o.askedIn F P a C) (hh : o.quietIn F n P a C K) : o.wpIn F n P a w K' Q' := by
  obtain ⟨v, h1, h2⟩ := hh
  have h3 := h1 w hw
  unfold Oper.quietAtIn at h3
  unfold Oper.wpIn
  refine ⟨ha w hw, ?_⟩
  rw [Oper.semAt_eq _ _ _ hnd]
  generalize (execOp a.eval o).run P w = r at *
  cases r with
  | ok x w' =>
    cases x <;> simp only [Oper.quietUponIn] at h3 <;> simp only [Oper.uponIn]
    case value u =>
      obtain ⟨e1, e2⟩ := h3
      rw [e1, e2]
      exact h _ _ hw h2
    case skip =>
      obtain ⟨e1, e2⟩ := h3
      rw [e1, ← e2]
      exact h _ _ hw h2
    case enter f args =>
      obtain ⟨e1, hd, hc⟩ := h3
      rw [e1]
      exact ⟨hd, hc.mono fun e w'' ⟨he, hw''⟩ => by subst he; exact h _ _ hw'' h2⟩
  | halt x w' => simp only [Oper.quietUponIn] at h3
theorem wpOpIn_of_qOpInR {i : Nat} {a : Act} {K : Act → Prop} {K' : Act → World → Prop} {Q' : Exit → Act → World → Prop} {w : World} (hnd : ∀ (j : Nat) (o : Oper), ops[j]? = some o → ∀ c, o.op ≠ .defer c) (hC : C w) (h : ∀ a w', C w' → K a → K' a w')
    (hh : qOpIn F n P ops C i K a) : wpOpIn F n P ops Q' i K' a w := by
  unfold qOpIn at hh
  unfold wpOpIn
  split
  · rename_i ho; simp only [ho] at hh; exact h _ _ hC hh
  · rename_i o ho
    simp only [ho] at hh
    obtain ⟨ha, hh⟩ := hh
    split
    · rename_i hw; simp only [hw, if_true] at hh; exact wpIn_of_quietR (hnd _ _ ho) hC h ha hh
    · rename_i hw; simp only [hw] at hh; exact ⟨ha w hC, h _ _ hC hh⟩
theorem wpAnyIn_of_quietR {Q : Act → Prop} {Q' : Exit → Act → World → Prop} (hnd : ∀ (j : Nat) (o : Oper), ops[j]? = some o → ∀ c, o.op ≠ .defer c) (hQ : ∀ a w, C w → Q a → Q' .normal a w) : ∀ (fuel : Nat) (listed : Array Bool) (a : Act) (w : World), C w →
    wpAnyQIn F n P md ops C Q fuel listed a → wpAnyIn F n P md ops Q' fuel listed a w
  | 0, _, _, _, hw, h => ⟨h.1, hQ _ _ hw h.2⟩
  | fuel + 1, _, _, _, hw, h => ⟨fun h0 => hQ _ _ hw (h.1 h0), fun i hi => wpOpIn_of_qOpInR hnd hw (fun a' w' hw' => wpAnyIn_of_quietR hnd hQ fuel _ a' w' hw') (h.2 i hi)⟩
theorem region_quiet_round {id : Nat} {Q : Exit → Act → World → Prop} {a : Act} {w : World} {l : List Oper} (hnd : noDefer l = true) (hm : P.follows .mixedOrders = true) (hB : Region.lexB .any l.toArray = true)
    (h : wpQuietIn F n P l.toArray (fun w' => ∃ n, w' = w.drewN n) (fun a' => ∀ w', (∃ n, w' = w.drewN n) → Q .normal a' w') l a) : (Code.region id l.toArray true).wpIn F n P Q a w := by
  simp only [Region.lexB, Bool.and_eq_true] at hB
  refine wpIn_region_any hm (wpAnyIn_of_quietR (C := fun w' => ∃ n, w' = w.drewN n) (Q := fun a' => ∀ w', (∃ n, w' = w.drewN n) → Q .normal a' w') (fun j o ho => noDefer_spec hnd o (List.mem_of_getElem? (by simpa using ho))) (fun _ w' hw' h => h w' hw') _ _ _ _ ⟨1, rfl⟩ ?_)
  have := wpAnyQIn_lex (F := F) (n := n) (C := fun w' => ∃ n, w' = w.drewN n) (md := .any) hB.1 l 0 (Array.replicate l.toArray.size false) a (by simp) (by simpa using hB.2) (by simpa using h)
  simpa using this
end
theorem info85 : (Try.prog.info? 85).map (·.size) = some 7 := by kernel_rfl
/-- An entry is read in such a region. -/
theorem wpQuietIn_entry {F : Fence} {n : Nat} {ops : Array Oper} {C : World → Prop} {Q : Act → Prop} {a : Act} {o : Oper} {rest : List Oper} (hw : Region.wanted o (yielded ops a.tmps) = true) (x : Operand) (ho : o.op = .load 85 x)
    (b off : Nat) (hx : a.eval x = .pointer (some ⟨b, off, none⟩)) (y : En) (hc : ∀ w, C w → w.rangeAt b off (enCells y))
    (h : wpQuietIn F n Try.prog ops C Q rest (a.put o.dst (.agg #[.int .i64 y.root, .int .i64 y.page, .int .i64 y.dest, .bool y.may, .bool y.lf.there, .bool y.lf.wr, .int .i64 y.lf.fr]))) : wpQuietIn F n Try.prog ops C Q (o :: rest) a := by
  unfold wpQuietIn
  refine ⟨fun w _ f hf => ?_, ?_⟩
  · unfold Oper.about at hf
    rw [ho] at hf
    cases hf
  rw [if_pos hw]
  refine ⟨.agg (enCells y).toArray, fun w hC => ?_, h⟩
  unfold Oper.quietAtIn execOp
  simp only [ho, hx, Instr.loadAt, Instr.sureAddr, Sem.run_bind, Sem.run_pure, Result.andThen_ok, run_loadVar_mid w b off 85 (enCells y) _ (hc w hC) Try.underlying85 rfl info85]
  exact ⟨rfl, rfl⟩
theorem quietIn_entry' {F : Fence} {n : Nat} {C : World → Prop} {a : Act} {o : Oper} {K : Act → Prop} (x : Operand) (ho : o.op = .load 85 x)
    (b off : Nat) (hx : a.eval x = .pointer (some ⟨b, off, none⟩)) (y : En) (hc : ∀ w, C w → w.rangeAt b off (enCells y))
    (h : K (a.put o.dst (.agg #[.int .i64 y.root, .int .i64 y.page, .int .i64 y.dest, .bool y.may, .bool y.lf.there, .bool y.lf.wr, .int .i64 y.lf.fr]))) : o.quietIn F n Try.prog a C K := by
  refine ⟨.agg (enCells y).toArray, fun w hC => ?_, h⟩
  unfold Oper.quietAtIn execOp
  simp only [ho, hx, Instr.loadAt, Instr.sureAddr, Sem.run_bind, Sem.run_pure, Result.andThen_ok, run_loadVar_mid w b off 85 (enCells y) _ (hc w hC) Try.underlying85 rfl info85]
  exact ⟨rfl, rfl⟩
theorem quiet_entry' {C : World → Prop} {a : Act} {o : Oper} {K : Act → Prop} (x : Operand) (ho : o.op = .load 85 x)
    (b off : Nat) (hx : a.eval x = .pointer (some ⟨b, off, none⟩)) (y : En) (hc : ∀ w, C w → w.rangeAt b off (enCells y))
    (h : K (a.put o.dst (.agg #[.int .i64 y.root, .int .i64 y.page, .int .i64 y.dest, .bool y.may, .bool y.lf.there, .bool y.lf.wr, .int .i64 y.lf.fr]))) : o.quiet Try.prog a C K := by
  refine ⟨.agg (enCells y).toArray, fun w hC => ?_, h⟩
  unfold Oper.quietAt execOp
  simp only [ho, hx, Instr.loadAt, Instr.sureAddr, Sem.run_bind, Sem.run_pure, Result.andThen_ok, run_loadVar_mid w b off 85 (enCells y) _ (hc w hC) Try.underlying85 rfl info85]
  exact ⟨rfl, rfl⟩
/-- The same, outside a round. -/
theorem wpQuiet_entry {ops : Array Oper} {C : World → Prop} {Q : Act → Prop} {a : Act} {o : Oper} {rest : List Oper} (hw : Region.wanted o (yielded ops a.tmps) = true) (x : Operand) (ho : o.op = .load 85 x)
    (b off : Nat) (hx : a.eval x = .pointer (some ⟨b, off, none⟩)) (y : En) (hc : ∀ w, C w → w.rangeAt b off (enCells y))
    (h : wpQuiet Try.prog ops C Q rest (a.put o.dst (.agg #[.int .i64 y.root, .int .i64 y.page, .int .i64 y.dest, .bool y.may, .bool y.lf.there, .bool y.lf.wr, .int .i64 y.lf.fr]))) : wpQuiet Try.prog ops C Q (o :: rest) a := by
  unfold wpQuiet
  rw [if_pos hw]
  refine ⟨.agg (enCells y).toArray, fun w hC => ?_, h⟩
  unfold Oper.quietAt execOp
  simp only [ho, hx, Instr.loadAt, Instr.sureAddr, Sem.run_bind, Sem.run_pure, Result.andThen_ok, run_loadVar_mid w b off 85 (enCells y) _ (hc w hC) Try.underlying85 rfl info85]
  exact ⟨rfl, rfl⟩
end Go.Proofs.Ytadpibcgjgcjhaa
