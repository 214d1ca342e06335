/- undercrofttop.TopCache: its two loops over entries. -/
import Derived.Test.YtadpibcgjgcjhaaPart06
namespace Go.Proofs.Ytadpibcgjgcjhaa
open Go.ChangeShapes Go.WideShapes Go.ChangeAt Go.RowKit Go.Shelf
set_option maxRecDepth 1000000
attribute [local go_sem] Oper.semAt_some

noncomputable def tcRf1 : Code := (Try.f8.body.bind (rfAt 105)).getD .skip
noncomputable def tcRf2 : Code := (Try.f8.body.bind (rfAt 114)).getD .skip
theorem box_cell {W : World} {B : Nat} {cs : Array Value} {ty : TypeId} (h : W.heap[B]? = some (.cells cs ty)) (j : Nat) : W.cell? ⟨B, j, none⟩ = cs[j]? := by simp [World.cell?, h]
theorem box_frozen {W : World} {B : Nat} {cs : Array Value} {ty : TypeId} (h : W.heap[B]? = some (.cells cs ty)) (j : Nat) : W.frozen? ⟨B, j, none⟩ = false := by simp [World.frozen?, h]
theorem box_new (W : World) (cs : Array Value) (ty : TypeId) : (W.alloc (.cells cs ty)).heap[W.heap.size]? = some (.cells cs ty) := World.alloc_heap_new W _

set_option maxHeartbeats 4000000 in
theorem tc_rf1 (c : Nat → Value) (ds : List Nat) (w : World) (B b' q R : Nat) (es : List En) (x : Ac) (rv : Bool) (hB : w.cell? ⟨B, 0, none⟩ = some (.pointer (some ⟨b', 0, none⟩))) (hC : CaL w b' es)
    (y2 : w.cell? ⟨q, 2, none⟩ = some (.int .i64 x.a)) (r0 : w.cell? ⟨R, 0, none⟩ = some (.bool rv)) (rz : w.frozen? ⟨R, 0, none⟩ = false)
    (hes : ∀ i, i < es.length → ((atE es i).root == x.a) = false) {Q : Exit → Act → World → Prop}
    (hm : ∀ (D : Nat) (W : World), w.heap.size ≤ D → Upd (fun _ => False) w W → W.heap[D]? = some (.deferred (some [])) → Q .normal ⟨#[c 0, c 1, .pointer (some ⟨R, 0, none⟩), c 3, c 4, c 5, c 6, c 7, .pointer (some ⟨q, 0, none⟩), c 9, c 10, c 11, c 12, c 13, c 14, c 15, c 16, c 17, c 18, c 19, c 20, c 21, c 22, c 23, c 24, c 25, c 26, c 27, c 28, c 29, c 30, c 31, c 32, c 33, c 34, c 35, c 36, c 37, c 38, c 39, c 40, c 41, c 42, c 43, c 44, c 45, c 46, c 47, c 48, c 49, c 50, c 51, c 52, c 53, c 54, c 55, c 56, c 57, c 58, c 59, c 60, c 61, c 62, c 63, c 64, c 65, c 66, c 67, c 68, c 69, c 70, c 71, c 72, c 73, c 74, c 75, c 76, c 77, c 78, c 79, c 80, c 81, c 82, c 83, c 84, c 85, c 86, c 87, c 88, c 89, c 90, c 91, c 92, c 93, c 94, c 95, c 96, c 97, c 98, c 99, c 100, c 101, c 102, c 103, c 104, .func (.func 91) #[] #[.pointer (some ⟨B, 0, none⟩)], c 106, c 107, c 108, c 109, c 110, c 111, c 112, c 113, c 114, c 115, c 116, c 117, c 118, c 119, c 120, c 121, c 122, c 123, c 124, c 125, c 126, c 127, c 128, c 129, c 130, c 131, c 132, c 133, c 134, c 135, c 136, c 137, c 138, c 139, c 140, c 141], marks (D :: ds)⟩ W) :
    Code.wp Try.prog tcRf1 Q ⟨#[c 0, c 1, .pointer (some ⟨R, 0, none⟩), c 3, c 4, c 5, c 6, c 7, .pointer (some ⟨q, 0, none⟩), c 9, c 10, c 11, c 12, c 13, c 14, c 15, c 16, c 17, c 18, c 19, c 20, c 21, c 22, c 23, c 24, c 25, c 26, c 27, c 28, c 29, c 30, c 31, c 32, c 33, c 34, c 35, c 36, c 37, c 38, c 39, c 40, c 41, c 42, c 43, c 44, c 45, c 46, c 47, c 48, c 49, c 50, c 51, c 52, c 53, c 54, c 55, c 56, c 57, c 58, c 59, c 60, c 61, c 62, c 63, c 64, c 65, c 66, c 67, c 68, c 69, c 70, c 71, c 72, c 73, c 74, c 75, c 76, c 77, c 78, c 79, c 80, c 81, c 82, c 83, c 84, c 85, c 86, c 87, c 88, c 89, c 90, c 91, c 92, c 93, c 94, c 95, c 96, c 97, c 98, c 99, c 100, c 101, c 102, c 103, c 104, .func (.func 91) #[] #[.pointer (some ⟨B, 0, none⟩)], c 106, c 107, c 108, c 109, c 110, c 111, c 112, c 113, c 114, c 115, c 116, c 117, c 118, c 119, c 120, c 121, c 122, c 123, c 124, c 125, c 126, c 127, c 128, c 129, c 130, c 131, c 132, c 133, c 134, c 135, c 136, c 137, c 138, c 139, c 140, c 141], marks ds⟩ w := by
  conv => arg 2; whnf
  refine range_law B b' es rfl hB hC rfl (fun _ W => Upd (fun _ => False) w W) (fun k pre _ => k = .ret ∧ ∃ i ∈ pre, ((atE es i).root == x.a) = true)
    (own_upd _ w) (fun _ _ _ _ _ hs _ _ => hs) (Upd.refl _ _)
    (fun i a' W => ∃ Bx, W.heap[Bx]? = some (.cells #[.int .i64 (atE es i).root, .int .i64 (atE es i).page, .int .i64 (atE es i).dest, .bool (atE es i).may, .bool (atE es i).lf.there, .bool (atE es i).lf.wr, .int .i64 (atE es i).lf.fr] 85) ∧ a' = ⟨#[c 0, c 1, .pointer (some ⟨R, 0, none⟩), c 3, c 4, c 5, c 6, c 7, .pointer (some ⟨q, 0, none⟩), c 9, c 10, c 11, c 12, c 13, c 14, .pointer (some ⟨Bx, 0, none⟩), c 16, c 17, c 18, c 19, c 20, c 21, c 22, c 23, c 24, c 25, c 26, c 27, c 28, c 29, c 30, c 31, c 32, c 33, c 34, c 35, c 36, c 37, c 38, c 39, c 40, c 41, c 42, c 43, c 44, c 45, c 46, c 47, c 48, c 49, c 50, c 51, c 52, c 53, c 54, c 55, c 56, c 57, c 58, c 59, c 60, c 61, c 62, c 63, c 64, c 65, c 66, c 67, c 68, c 69, c 70, c 71, c 72, c 73, c 74, c 75, c 76, c 77, c 78, c 79, c 80, c 81, c 82, c 83, c 84, c 85, c 86, c 87, c 88, c 89, c 90, c 91, c 92, c 93, c 94, c 95, c 96, c 97, c 98, c 99, c 100, c 101, c 102, c 103, c 104, .func (.func 91) #[] #[.pointer (some ⟨B, 0, none⟩)], .int .i64 i, .agg #[.int .i64 (atE es i).root, .int .i64 (atE es i).page, .int .i64 (atE es i).dest, .bool (atE es i).may, .bool (atE es i).lf.there, .bool (atE es i).lf.wr, .int .i64 (atE es i).lf.fr], c 108, c 109, c 110, c 111, c 112, c 113, c 114, c 115, c 116, c 117, c 118, c 119, c 120, c 121, c 122, c 123, c 124, c 125, c 126, c 127, c 128, c 129, c 130, c 131, c 132, c 133, c 134, c 135, c 136, c 137, c 138, c 139, c 140, c 141], []⟩)
    (fun i a' => ?ax) (fun _ _ h => h.size) ?assign ?body ?done ?stop
  case ax =>
    rintro s X Y row ⟨Bx, hb, rfl⟩ hg hr
    exact ⟨Bx, own_block (β := Unit) w.heap.size (fun _ => (Bx, _, _)) () X Y row hb hg hr, rfl⟩
  case assign =>
    intro l pre i W K hi hK
    unfold enArgs
    gi_wp2
    exact hK _ _ ((Upd.refl _ _).alloc _) (hi.alloc _) ⟨_, box_new W _ _, rfl⟩
  case body =>
    rintro l pre i a' W hi ⟨Bx, hb, rfl⟩ hn
    have c0 : W.cell? ⟨Bx, 0, none⟩ = some (.int .i64 (atE es i).root) := box_cell hb 0
    have y2' := hi.cell y2 (fun f => f)
    have r0' := hi.cell r0 (fun f => f)
    have rz' : W.frozen? ⟨R, 0, none⟩ = false := by rw [hi.frozen r0 (fun f => f)]; exact rz
    have HI : Hid _ := hi
    clear hi hb hC hB y2 r0 rz hm hn
    generalize hx : atE es i = y at c0
    have HX : Hid _ := hx
    clear hx hes
    cases hq : (y.root == x.a) with
    | true =>
      gi_wp2
      exact ⟨(KeepsOthers.setCell _ _ _).from _, rfl, i, by simp, by rw [HX.out]; exact hq⟩
    | false =>
      gi_wp2
      exact ⟨KeepsFrom.refl _ _, ⟨rfl, rfl⟩, HI.out⟩
  case done =>
    intro D W hD hi hd
    exact hm D W hD hi hd
  case stop =>
    rintro D k n W hD hn ⟨rfl, i, hi, he⟩ hd
    rw [hes i (by have := List.mem_range.1 hi; omega)] at he
    cases he
theorem kFind_any (w : World) (b : Nat) (es : List En) (r p : Int) (h : CaL w b es) :
    Calls Try.prog 47 #[.pointer (some ⟨b, 0, none⟩), .int .i64 r, .int .i64 p] w fun e w' => ∃ (y : En) (f : Bool), e = .returned (.tuple #[.agg #[.int .i64 y.root, .int .i64 y.page, .int .i64 y.dest, .bool y.may, .bool y.lf.there, .bool y.lf.wr, .int .i64 y.lf.fr], .bool f]) ∧ Upd (fun _ => False) w w' := by
  rcases idxP_cases (isAt r p) es with ⟨k, hk, ek, _, _⟩ | ⟨ek, _⟩
  · exact (kFind_yes w b es r p h k hk ek).mono (fun _ _ ⟨he, hu⟩ => ⟨_, _, he, hu⟩)
  · exact (kFind_no w b es r p h ek).mono (fun _ _ ⟨he, hu⟩ => ⟨en0, _, he, hu⟩)
theorem not_range {pre : List Nat} {i k : Nat} (hi : i ≠ pre.length) : pre ++ [i] ≠ List.range k := by
  intro e
  have hl := congrArg List.length e
  simp only [List.length_append, List.length_cons, List.length_nil, List.length_range] at hl
  subst hl
  have := congrArg (fun l => l[pre.length]?) e
  simp at this
  exact hi this
set_option maxHeartbeats 4000000 in
theorem tc_rf2 (c : Nat → Value) (ds : List Nat) (w : World) (B b' R Bc Bn bc : Nat) (es : List En) (rv : Bool) (hd : Dist es) (hB : w.cell? ⟨B, 0, none⟩ = some (.pointer (some ⟨b', 0, none⟩))) (hC : CaL w b' es) (hC2 : CaL w bc es)
    (hbc : w.cell? ⟨Bc, 0, none⟩ = some (.pointer (some ⟨bc, 0, none⟩))) (hbn : w.heap[Bn]? = some (.cells #[.int .i64 0] 3)) (r0 : w.cell? ⟨R, 0, none⟩ = some (.bool rv)) (rz : w.frozen? ⟨R, 0, none⟩ = false)
    (n1 : R ≠ Bn) (n2 : Bc ≠ Bn) (n3 : bc ≠ Bn) (n4 : b' ≠ Bn) (n5 : B ≠ Bn) {Q : Exit → Act → World → Prop}
    (hm : ∀ (D : Nat) (W : World), w.heap.size ≤ D → Upd (fun k => k = Bn) w W → W.heap[Bn]? = some (.cells #[.int .i64 (es.length : Nat)] 3) → W.heap[D]? = some (.deferred (some [])) → Q .normal ⟨#[c 0, c 1, .pointer (some ⟨R, 0, none⟩), c 3, c 4, c 5, .pointer (some ⟨Bc, 0, none⟩), c 7, c 8, c 9, c 10, c 11, c 12, c 13, c 14, c 15, .pointer (some ⟨Bn, 0, none⟩), c 17, c 18, c 19, c 20, c 21, c 22, c 23, c 24, c 25, c 26, c 27, c 28, c 29, c 30, c 31, c 32, c 33, c 34, c 35, c 36, c 37, c 38, c 39, c 40, c 41, c 42, c 43, c 44, c 45, c 46, c 47, c 48, c 49, c 50, c 51, c 52, c 53, c 54, c 55, c 56, c 57, c 58, c 59, c 60, c 61, c 62, c 63, c 64, c 65, c 66, c 67, c 68, c 69, c 70, c 71, c 72, c 73, c 74, c 75, c 76, c 77, c 78, c 79, c 80, c 81, c 82, c 83, c 84, c 85, c 86, c 87, c 88, c 89, c 90, c 91, c 92, c 93, c 94, c 95, c 96, c 97, c 98, c 99, c 100, c 101, c 102, c 103, c 104, c 105, c 106, c 107, c 108, c 109, c 110, c 111, c 112, c 113, .func (.func 91) #[] #[.pointer (some ⟨B, 0, none⟩)], c 115, c 116, c 117, c 118, c 119, c 120, c 121, c 122, c 123, c 124, c 125, c 126, c 127, c 128, c 129, c 130, c 131, c 132, c 133, c 134, c 135, c 136, c 137, c 138, c 139, c 140, c 141], marks (D :: ds)⟩ W) :
    Code.wp Try.prog tcRf2 Q ⟨#[c 0, c 1, .pointer (some ⟨R, 0, none⟩), c 3, c 4, c 5, .pointer (some ⟨Bc, 0, none⟩), c 7, c 8, c 9, c 10, c 11, c 12, c 13, c 14, c 15, .pointer (some ⟨Bn, 0, none⟩), c 17, c 18, c 19, c 20, c 21, c 22, c 23, c 24, c 25, c 26, c 27, c 28, c 29, c 30, c 31, c 32, c 33, c 34, c 35, c 36, c 37, c 38, c 39, c 40, c 41, c 42, c 43, c 44, c 45, c 46, c 47, c 48, c 49, c 50, c 51, c 52, c 53, c 54, c 55, c 56, c 57, c 58, c 59, c 60, c 61, c 62, c 63, c 64, c 65, c 66, c 67, c 68, c 69, c 70, c 71, c 72, c 73, c 74, c 75, c 76, c 77, c 78, c 79, c 80, c 81, c 82, c 83, c 84, c 85, c 86, c 87, c 88, c 89, c 90, c 91, c 92, c 93, c 94, c 95, c 96, c 97, c 98, c 99, c 100, c 101, c 102, c 103, c 104, c 105, c 106, c 107, c 108, c 109, c 110, c 111, c 112, c 113, .func (.func 91) #[] #[.pointer (some ⟨B, 0, none⟩)], c 115, c 116, c 117, c 118, c 119, c 120, c 121, c 122, c 123, c 124, c 125, c 126, c 127, c 128, c 129, c 130, c 131, c 132, c 133, c 134, c 135, c 136, c 137, c 138, c 139, c 140, c 141], marks ds⟩ w := by
  conv => arg 2; whnf
  refine range_law B b' es rfl hB hC rfl (fun pre W => Upd (fun k => k = Bn) w W ∧ W.heap[Bn]? = some (.cells #[.int .i64 (pre.length : Nat)] 3)) (fun k pre _ => k = .ret ∧ ∀ m, pre ≠ List.range m)
    (OwnFrom.and (own_upd _ w) (own_block w.heap.size (fun pre => (Bn, _, _)))) (fun _ _ _ _ _ hs _ _ => hs) ⟨Upd.refl _ _, hbn⟩
    (fun i a' W => ∃ Bx, W.heap[Bx]? = some (.cells #[.int .i64 (atE es i).root, .int .i64 (atE es i).page, .int .i64 (atE es i).dest, .bool (atE es i).may, .bool (atE es i).lf.there, .bool (atE es i).lf.wr, .int .i64 (atE es i).lf.fr] 85) ∧ a' = ⟨#[c 0, c 1, .pointer (some ⟨R, 0, none⟩), c 3, c 4, c 5, .pointer (some ⟨Bc, 0, none⟩), c 7, c 8, c 9, c 10, c 11, c 12, c 13, c 14, c 15, .pointer (some ⟨Bn, 0, none⟩), .int .i64 i, .pointer (some ⟨Bx, 0, none⟩), c 19, c 20, c 21, c 22, c 23, c 24, c 25, c 26, c 27, c 28, c 29, c 30, c 31, c 32, c 33, c 34, c 35, c 36, c 37, c 38, c 39, c 40, c 41, c 42, c 43, c 44, c 45, c 46, c 47, c 48, c 49, c 50, c 51, c 52, c 53, c 54, c 55, c 56, c 57, c 58, c 59, c 60, c 61, c 62, c 63, c 64, c 65, c 66, c 67, c 68, c 69, c 70, c 71, c 72, c 73, c 74, c 75, c 76, c 77, c 78, c 79, c 80, c 81, c 82, c 83, c 84, c 85, c 86, c 87, c 88, c 89, c 90, c 91, c 92, c 93, c 94, c 95, c 96, c 97, c 98, c 99, c 100, c 101, c 102, c 103, c 104, c 105, c 106, c 107, c 108, c 109, c 110, c 111, c 112, c 113, .func (.func 91) #[] #[.pointer (some ⟨B, 0, none⟩)], .int .i64 i, .agg #[.int .i64 (atE es i).root, .int .i64 (atE es i).page, .int .i64 (atE es i).dest, .bool (atE es i).may, .bool (atE es i).lf.there, .bool (atE es i).lf.wr, .int .i64 (atE es i).lf.fr], c 117, c 118, c 119, c 120, c 121, c 122, c 123, c 124, c 125, c 126, c 127, c 128, c 129, c 130, c 131, c 132, c 133, c 134, c 135, c 136, c 137, c 138, c 139, c 140, c 141], []⟩)
    (fun i a' => ?ax) (fun _ _ h => h.1.size) ?assign ?body ?done ?stop
  case ax =>
    rintro s X Y row ⟨Bx, hb, rfl⟩ hg hr
    exact ⟨Bx, own_block (β := Unit) w.heap.size (fun _ => (Bx, _, _)) () X Y row hb hg hr, rfl⟩
  case assign =>
    rintro l pre i W K ⟨hi, hi2⟩ hK
    unfold enArgs
    gi_wp2
    exact hK _ _ ((Upd.refl _ _).alloc _) ⟨hi.alloc _, by rw [Below.heap_alloc _ _ _ (Array.getElem?_eq_some_iff.1 hi2).1]; exact hi2⟩ ⟨_, box_new W _ _, rfl⟩
  case body =>
    rintro l pre i a' W ⟨hi, hi2⟩ ⟨Bx, hb, rfl⟩ hn
    have d0 : W.cell? ⟨Bc, 0, none⟩ = some (.pointer (some ⟨bc, 0, none⟩)) := hi.cell hbc n2
    have c0 : W.cell? ⟨Bx, 0, none⟩ = some (.int .i64 (atE es i).root) := box_cell hb 0
    have c1 : W.cell? ⟨Bx, 1, none⟩ = some (.int .i64 (atE es i).page) := box_cell hb 1
    have HC : Hid (CaL W bc es) := hC2.upd hi n3
    have HR0 : Hid _ := hi.cell r0 n1
    have HRZ : Hid (W.frozen? ⟨R, 0, none⟩ = false) := by show _ = _; rw [hi.frozen r0 n1]; exact rz
    have HI : Hid _ := hi
    have HI2 : Hid _ := hi2
    have HB : Hid _ := hb
    have hltB : B < W.heap.size := Nat.lt_of_lt_of_le (World.block_lt_of_cell? w _ hB) hi.size
    have hltb : b' < W.heap.size := Nat.lt_of_lt_of_le hC.lt hi.size
    have HD : Hid (Dist es) := hd
    clear hi hi2 hb hm hbc hbn r0 rz hB hC hC2 hd
    have hle := HC.out.le
    have fw : Fence.wide.fn 47 := trivial
    by_cases hx : i = pre.length
    · subst hx
      generalize hlen : pre.length = i at *
      have HL : Hid _ := hlen
      clear hlen
      gi_wp2_with fail
      refine CallsIn.mono (CallsIn.inRound l (callsIn_wide.2 (kFind_yes W bc es _ _ HC.out i hn (idx_self HD.out hn)))) ?_
      rintro e w1 ⟨rfl, hu⟩
      have hu := hu.alloc (.cells #[.int .i64 (atE es i).root, .int .i64 (atE es i).page, .int .i64 (atE es i).dest, .bool (atE es i).may, .bool (atE es i).lf.there, .bool (atE es i).lf.wr, .int .i64 (atE es i).lf.fr] 85)
      have hi2' : (w1.alloc (.cells #[.int .i64 (atE es i).root, .int .i64 (atE es i).page, .int .i64 (atE es i).dest, .bool (atE es i).may, .bool (atE es i).lf.there, .bool (atE es i).lf.wr, .int .i64 (atE es i).lf.fr] 85)).heap[Bn]? = _ := (hu.block Bn (Array.getElem?_eq_some_iff.1 HI2.out).1 (fun f => f)).trans HI2.out
      have e0 : (w1.alloc (.cells #[.int .i64 (atE es i).root, .int .i64 (atE es i).page, .int .i64 (atE es i).dest, .bool (atE es i).may, .bool (atE es i).lf.there, .bool (atE es i).lf.wr, .int .i64 (atE es i).lf.fr] 85)).cell? ⟨Bn, 0, none⟩ = some (.int .i64 (i : Nat)) := box_cell hi2' 0
      have e1 : (w1.alloc (.cells #[.int .i64 (atE es i).root, .int .i64 (atE es i).page, .int .i64 (atE es i).dest, .bool (atE es i).may, .bool (atE es i).lf.there, .bool (atE es i).lf.wr, .int .i64 (atE es i).lf.fr] 85)).frozen? ⟨Bn, 0, none⟩ = false := box_frozen hi2' 0
      have hb' : (w1.alloc (.cells #[.int .i64 (atE es i).root, .int .i64 (atE es i).page, .int .i64 (atE es i).dest, .bool (atE es i).may, .bool (atE es i).lf.there, .bool (atE es i).lf.wr, .int .i64 (atE es i).lf.fr] 85)).heap[Bx]? = _ := (hu.block Bx (Array.getElem?_eq_some_iff.1 HB.out).1 (fun f => f)).trans HB.out
      have x0 : (w1.alloc (.cells #[.int .i64 (atE es i).root, .int .i64 (atE es i).page, .int .i64 (atE es i).dest, .bool (atE es i).may, .bool (atE es i).lf.there, .bool (atE es i).lf.wr, .int .i64 (atE es i).lf.fr] 85)).cell? ⟨Bx, 0, none⟩ = some (.int .i64 (atE es i).root) := box_cell hb' 0
      have x1 : (w1.alloc (.cells #[.int .i64 (atE es i).root, .int .i64 (atE es i).page, .int .i64 (atE es i).dest, .bool (atE es i).may, .bool (atE es i).lf.there, .bool (atE es i).lf.wr, .int .i64 (atE es i).lf.fr] 85)).cell? ⟨Bx, 1, none⟩ = some (.int .i64 (atE es i).page) := box_cell hb' 1
      have x2 : (w1.alloc (.cells #[.int .i64 (atE es i).root, .int .i64 (atE es i).page, .int .i64 (atE es i).dest, .bool (atE es i).may, .bool (atE es i).lf.there, .bool (atE es i).lf.wr, .int .i64 (atE es i).lf.fr] 85)).cell? ⟨Bx, 2, none⟩ = some (.int .i64 (atE es i).dest) := box_cell hb' 2
      have x3 : (w1.alloc (.cells #[.int .i64 (atE es i).root, .int .i64 (atE es i).page, .int .i64 (atE es i).dest, .bool (atE es i).may, .bool (atE es i).lf.there, .bool (atE es i).lf.wr, .int .i64 (atE es i).lf.fr] 85)).cell? ⟨Bx, 3, none⟩ = some (.bool (atE es i).may) := box_cell hb' 3
      have x4 : (w1.alloc (.cells #[.int .i64 (atE es i).root, .int .i64 (atE es i).page, .int .i64 (atE es i).dest, .bool (atE es i).may, .bool (atE es i).lf.there, .bool (atE es i).lf.wr, .int .i64 (atE es i).lf.fr] 85)).cell? ⟨Bx, 4, none⟩ = some (.bool (atE es i).lf.there) := box_cell hb' 4
      have x5 : (w1.alloc (.cells #[.int .i64 (atE es i).root, .int .i64 (atE es i).page, .int .i64 (atE es i).dest, .bool (atE es i).may, .bool (atE es i).lf.there, .bool (atE es i).lf.wr, .int .i64 (atE es i).lf.fr] 85)).cell? ⟨Bx, 5, none⟩ = some (.bool (atE es i).lf.wr) := box_cell hb' 5
      have x6 : (w1.alloc (.cells #[.int .i64 (atE es i).root, .int .i64 (atE es i).page, .int .i64 (atE es i).dest, .bool (atE es i).may, .bool (atE es i).lf.there, .bool (atE es i).lf.wr, .int .i64 (atE es i).lf.fr] 85)).cell? ⟨Bx, 6, none⟩ = some (.int .i64 (atE es i).lf.fr) := box_cell hb' 6
      have HB2 : Hid ((w1.alloc (.cells #[.int .i64 (atE es i).root, .int .i64 (atE es i).page, .int .i64 (atE es i).dest, .bool (atE es i).may, .bool (atE es i).lf.there, .bool (atE es i).lf.wr, .int .i64 (atE es i).lf.fr] 85)).heap[Bn]? = some (.cells #[.int .i64 (i : Nat)] 3)) := hi2'
      have HU : Hid _ := hu
      clear hu hi2' hb' c0 c1 d0
      generalize atE es i = y at *
      gi_wp2_with fail
      have hU := HU.out
      have hB2 := HB2.out
      revert hU hB2
      generalize w1.alloc (.cells #[.int .i64 y.root, .int .i64 y.page, .int .i64 y.dest, .bool y.may, .bool y.lf.there, .bool y.lf.wr, .int .i64 y.lf.fr] 85) = w2
      intro hU hB2
      have hU3 := Upd.one w2 Bn 0 (.int .i64 ((i : Nat) + 1))
      refine ⟨(keeps_of_upd hU).trans (keeps_of_box hU3 hB2), (KpT.upd hU hltb hltB (fun f => f) (fun f => f)).trans (KpT.upd hU3 (Nat.lt_of_lt_of_le hltb hU.size) (Nat.lt_of_lt_of_le hltB hU.size) n4 n5), HI.out.trans (hU.free.trans hU3 (fun _ _ e => e)) (fun _ _ e => e), ?_⟩
      have := Boxed.set (.int .i64 ((i : Nat) + 1)) hB2
      rw [List.length_append, HL.out]
      exact this
    · have hx2 : ((i : Int) != (pre.length : Int)) = true := by simp; omega
      have HX : Hid _ := hx
      clear hx
      gi_wp2_with fail
      refine CallsIn.mono (CallsIn.inRound l (callsIn_wide.2 (kFind_any W bc es _ _ HC.out))) ?_
      rintro e w1 ⟨y, f, rfl, hu⟩
      have hu := hu.alloc (.cells #[.int .i64 y.root, .int .i64 y.page, .int .i64 y.dest, .bool y.may, .bool y.lf.there, .bool y.lf.wr, .int .i64 y.lf.fr] 85)
      have hi2' : (w1.alloc (.cells #[.int .i64 y.root, .int .i64 y.page, .int .i64 y.dest, .bool y.may, .bool y.lf.there, .bool y.lf.wr, .int .i64 y.lf.fr] 85)).heap[Bn]? = _ := (hu.block Bn (Array.getElem?_eq_some_iff.1 HI2.out).1 (fun f => f)).trans HI2.out
      have e0 : (w1.alloc (.cells #[.int .i64 y.root, .int .i64 y.page, .int .i64 y.dest, .bool y.may, .bool y.lf.there, .bool y.lf.wr, .int .i64 y.lf.fr] 85)).cell? ⟨Bn, 0, none⟩ = some (.int .i64 (pre.length : Nat)) := box_cell hi2' 0
      have e1 : (w1.alloc (.cells #[.int .i64 y.root, .int .i64 y.page, .int .i64 y.dest, .bool y.may, .bool y.lf.there, .bool y.lf.wr, .int .i64 y.lf.fr] 85)).frozen? ⟨Bn, 0, none⟩ = false := box_frozen hi2' 0
      have hb' : (w1.alloc (.cells #[.int .i64 y.root, .int .i64 y.page, .int .i64 y.dest, .bool y.may, .bool y.lf.there, .bool y.lf.wr, .int .i64 y.lf.fr] 85)).heap[Bx]? = _ := (hu.block Bx (Array.getElem?_eq_some_iff.1 HB.out).1 (fun f => f)).trans HB.out
      have x0 : (w1.alloc (.cells #[.int .i64 y.root, .int .i64 y.page, .int .i64 y.dest, .bool y.may, .bool y.lf.there, .bool y.lf.wr, .int .i64 y.lf.fr] 85)).cell? ⟨Bx, 0, none⟩ = some (.int .i64 (atE es i).root) := box_cell hb' 0
      have x1 : (w1.alloc (.cells #[.int .i64 y.root, .int .i64 y.page, .int .i64 y.dest, .bool y.may, .bool y.lf.there, .bool y.lf.wr, .int .i64 y.lf.fr] 85)).cell? ⟨Bx, 1, none⟩ = some (.int .i64 (atE es i).page) := box_cell hb' 1
      have x2 : (w1.alloc (.cells #[.int .i64 y.root, .int .i64 y.page, .int .i64 y.dest, .bool y.may, .bool y.lf.there, .bool y.lf.wr, .int .i64 y.lf.fr] 85)).cell? ⟨Bx, 2, none⟩ = some (.int .i64 (atE es i).dest) := box_cell hb' 2
      have x3 : (w1.alloc (.cells #[.int .i64 y.root, .int .i64 y.page, .int .i64 y.dest, .bool y.may, .bool y.lf.there, .bool y.lf.wr, .int .i64 y.lf.fr] 85)).cell? ⟨Bx, 3, none⟩ = some (.bool (atE es i).may) := box_cell hb' 3
      have x4 : (w1.alloc (.cells #[.int .i64 y.root, .int .i64 y.page, .int .i64 y.dest, .bool y.may, .bool y.lf.there, .bool y.lf.wr, .int .i64 y.lf.fr] 85)).cell? ⟨Bx, 4, none⟩ = some (.bool (atE es i).lf.there) := box_cell hb' 4
      have x5 : (w1.alloc (.cells #[.int .i64 y.root, .int .i64 y.page, .int .i64 y.dest, .bool y.may, .bool y.lf.there, .bool y.lf.wr, .int .i64 y.lf.fr] 85)).cell? ⟨Bx, 5, none⟩ = some (.bool (atE es i).lf.wr) := box_cell hb' 5
      have x6 : (w1.alloc (.cells #[.int .i64 y.root, .int .i64 y.page, .int .i64 y.dest, .bool y.may, .bool y.lf.there, .bool y.lf.wr, .int .i64 y.lf.fr] 85)).cell? ⟨Bx, 6, none⟩ = some (.int .i64 (atE es i).lf.fr) := box_cell hb' 6
      have q0 := hu.cell HR0.out (fun f => f)
      have q1 : (w1.alloc (.cells #[.int .i64 y.root, .int .i64 y.page, .int .i64 y.dest, .bool y.may, .bool y.lf.there, .bool y.lf.wr, .int .i64 y.lf.fr] 85)).frozen? ⟨R, 0, none⟩ = false := by rw [hu.frozen HR0.out (fun f => f)]; exact HRZ.out
      have HU : Hid _ := hu
      clear hu hi2' hb' c0 c1 d0 x0 x1 x2 x3 x4 x5 x6 e1
      gi_wp2_with fail
      exact ⟨(keeps_of_upd HU.out).trans ((KeepsOthers.setCell _ _ _).from _), rfl, fun m => not_range HX.out⟩
  case done =>
    intro D W hD hi hd
    exact hm D W hD hi.1 (by have := hi.2; rwa [List.length_range] at this) hd
  case stop =>
    rintro D k n W hD hn ⟨rfl, he⟩ hd
    exact absurd rfl (he n)
theorem tc_rf1L (l : List Value) (hl : l.length = 142) (ds : List Nat) (w : World) (B b' q R : Nat) (es : List En) (x : Ac) (rv : Bool) (h2 : l.getD 2 undef = .pointer (some ⟨R, 0, none⟩)) (h8 : l.getD 8 undef = .pointer (some ⟨q, 0, none⟩)) (h105 : l.getD 105 undef = .func (.func 91) #[] #[.pointer (some ⟨B, 0, none⟩)]) (hB : w.cell? ⟨B, 0, none⟩ = some (.pointer (some ⟨b', 0, none⟩))) (hC : CaL w b' es)
    (y2 : w.cell? ⟨q, 2, none⟩ = some (.int .i64 x.a)) (r0 : w.cell? ⟨R, 0, none⟩ = some (.bool rv)) (rz : w.frozen? ⟨R, 0, none⟩ = false)
    (hes : ∀ i, i < es.length → ((atE es i).root == x.a) = false) {Q : Exit → Act → World → Prop}
    (hm : ∀ (D : Nat) (W : World), w.heap.size ≤ D → Upd (fun _ => False) w W → W.heap[D]? = some (.deferred (some [])) → Q .normal ⟨l.toArray, marks (D :: ds)⟩ W) :
    Code.wp Try.prog tcRf1 Q ⟨l.toArray, marks ds⟩ w := by
  rw [frame_fn l, hl, show ((List.range 142).map (fun i => l.getD i undef)).toArray = #[l.getD 0 undef, l.getD 1 undef, l.getD 2 undef, l.getD 3 undef, l.getD 4 undef, l.getD 5 undef, l.getD 6 undef, l.getD 7 undef, l.getD 8 undef, l.getD 9 undef, l.getD 10 undef, l.getD 11 undef, l.getD 12 undef, l.getD 13 undef, l.getD 14 undef, l.getD 15 undef, l.getD 16 undef, l.getD 17 undef, l.getD 18 undef, l.getD 19 undef, l.getD 20 undef, l.getD 21 undef, l.getD 22 undef, l.getD 23 undef, l.getD 24 undef, l.getD 25 undef, l.getD 26 undef, l.getD 27 undef, l.getD 28 undef, l.getD 29 undef, l.getD 30 undef, l.getD 31 undef, l.getD 32 undef, l.getD 33 undef, l.getD 34 undef, l.getD 35 undef, l.getD 36 undef, l.getD 37 undef, l.getD 38 undef, l.getD 39 undef, l.getD 40 undef, l.getD 41 undef, l.getD 42 undef, l.getD 43 undef, l.getD 44 undef, l.getD 45 undef, l.getD 46 undef, l.getD 47 undef, l.getD 48 undef, l.getD 49 undef, l.getD 50 undef, l.getD 51 undef, l.getD 52 undef, l.getD 53 undef, l.getD 54 undef, l.getD 55 undef, l.getD 56 undef, l.getD 57 undef, l.getD 58 undef, l.getD 59 undef, l.getD 60 undef, l.getD 61 undef, l.getD 62 undef, l.getD 63 undef, l.getD 64 undef, l.getD 65 undef, l.getD 66 undef, l.getD 67 undef, l.getD 68 undef, l.getD 69 undef, l.getD 70 undef, l.getD 71 undef, l.getD 72 undef, l.getD 73 undef, l.getD 74 undef, l.getD 75 undef, l.getD 76 undef, l.getD 77 undef, l.getD 78 undef, l.getD 79 undef, l.getD 80 undef, l.getD 81 undef, l.getD 82 undef, l.getD 83 undef, l.getD 84 undef, l.getD 85 undef, l.getD 86 undef, l.getD 87 undef, l.getD 88 undef, l.getD 89 undef, l.getD 90 undef, l.getD 91 undef, l.getD 92 undef, l.getD 93 undef, l.getD 94 undef, l.getD 95 undef, l.getD 96 undef, l.getD 97 undef, l.getD 98 undef, l.getD 99 undef, l.getD 100 undef, l.getD 101 undef, l.getD 102 undef, l.getD 103 undef, l.getD 104 undef, l.getD 105 undef, l.getD 106 undef, l.getD 107 undef, l.getD 108 undef, l.getD 109 undef, l.getD 110 undef, l.getD 111 undef, l.getD 112 undef, l.getD 113 undef, l.getD 114 undef, l.getD 115 undef, l.getD 116 undef, l.getD 117 undef, l.getD 118 undef, l.getD 119 undef, l.getD 120 undef, l.getD 121 undef, l.getD 122 undef, l.getD 123 undef, l.getD 124 undef, l.getD 125 undef, l.getD 126 undef, l.getD 127 undef, l.getD 128 undef, l.getD 129 undef, l.getD 130 undef, l.getD 131 undef, l.getD 132 undef, l.getD 133 undef, l.getD 134 undef, l.getD 135 undef, l.getD 136 undef, l.getD 137 undef, l.getD 138 undef, l.getD 139 undef, l.getD 140 undef, l.getD 141 undef] from rfl] at hm ⊢
  rw [h2, h8, h105] at hm ⊢
  exact tc_rf1 (fun i => l.getD i undef) ds w B b' q R es x rv hB hC y2 r0 rz hes hm
theorem tc_rf2L (l : List Value) (hl : l.length = 142) (ds : List Nat) (w : World) (B b' R Bc Bn bc : Nat) (es : List En) (rv : Bool) (h2 : l.getD 2 undef = .pointer (some ⟨R, 0, none⟩)) (h6 : l.getD 6 undef = .pointer (some ⟨Bc, 0, none⟩)) (h16 : l.getD 16 undef = .pointer (some ⟨Bn, 0, none⟩)) (h114 : l.getD 114 undef = .func (.func 91) #[] #[.pointer (some ⟨B, 0, none⟩)]) (hd : Dist es) (hB : w.cell? ⟨B, 0, none⟩ = some (.pointer (some ⟨b', 0, none⟩))) (hC : CaL w b' es) (hC2 : CaL w bc es)
    (hbc : w.cell? ⟨Bc, 0, none⟩ = some (.pointer (some ⟨bc, 0, none⟩))) (hbn : w.heap[Bn]? = some (.cells #[.int .i64 0] 3)) (r0 : w.cell? ⟨R, 0, none⟩ = some (.bool rv)) (rz : w.frozen? ⟨R, 0, none⟩ = false)
    (n1 : R ≠ Bn) (n2 : Bc ≠ Bn) (n3 : bc ≠ Bn) (n4 : b' ≠ Bn) (n5 : B ≠ Bn) {Q : Exit → Act → World → Prop}
    (hm : ∀ (D : Nat) (W : World), w.heap.size ≤ D → Upd (fun k => k = Bn) w W → W.heap[Bn]? = some (.cells #[.int .i64 (es.length : Nat)] 3) → W.heap[D]? = some (.deferred (some [])) → Q .normal ⟨l.toArray, marks (D :: ds)⟩ W) :
    Code.wp Try.prog tcRf2 Q ⟨l.toArray, marks ds⟩ w := by
  rw [frame_fn l, hl, show ((List.range 142).map (fun i => l.getD i undef)).toArray = #[l.getD 0 undef, l.getD 1 undef, l.getD 2 undef, l.getD 3 undef, l.getD 4 undef, l.getD 5 undef, l.getD 6 undef, l.getD 7 undef, l.getD 8 undef, l.getD 9 undef, l.getD 10 undef, l.getD 11 undef, l.getD 12 undef, l.getD 13 undef, l.getD 14 undef, l.getD 15 undef, l.getD 16 undef, l.getD 17 undef, l.getD 18 undef, l.getD 19 undef, l.getD 20 undef, l.getD 21 undef, l.getD 22 undef, l.getD 23 undef, l.getD 24 undef, l.getD 25 undef, l.getD 26 undef, l.getD 27 undef, l.getD 28 undef, l.getD 29 undef, l.getD 30 undef, l.getD 31 undef, l.getD 32 undef, l.getD 33 undef, l.getD 34 undef, l.getD 35 undef, l.getD 36 undef, l.getD 37 undef, l.getD 38 undef, l.getD 39 undef, l.getD 40 undef, l.getD 41 undef, l.getD 42 undef, l.getD 43 undef, l.getD 44 undef, l.getD 45 undef, l.getD 46 undef, l.getD 47 undef, l.getD 48 undef, l.getD 49 undef, l.getD 50 undef, l.getD 51 undef, l.getD 52 undef, l.getD 53 undef, l.getD 54 undef, l.getD 55 undef, l.getD 56 undef, l.getD 57 undef, l.getD 58 undef, l.getD 59 undef, l.getD 60 undef, l.getD 61 undef, l.getD 62 undef, l.getD 63 undef, l.getD 64 undef, l.getD 65 undef, l.getD 66 undef, l.getD 67 undef, l.getD 68 undef, l.getD 69 undef, l.getD 70 undef, l.getD 71 undef, l.getD 72 undef, l.getD 73 undef, l.getD 74 undef, l.getD 75 undef, l.getD 76 undef, l.getD 77 undef, l.getD 78 undef, l.getD 79 undef, l.getD 80 undef, l.getD 81 undef, l.getD 82 undef, l.getD 83 undef, l.getD 84 undef, l.getD 85 undef, l.getD 86 undef, l.getD 87 undef, l.getD 88 undef, l.getD 89 undef, l.getD 90 undef, l.getD 91 undef, l.getD 92 undef, l.getD 93 undef, l.getD 94 undef, l.getD 95 undef, l.getD 96 undef, l.getD 97 undef, l.getD 98 undef, l.getD 99 undef, l.getD 100 undef, l.getD 101 undef, l.getD 102 undef, l.getD 103 undef, l.getD 104 undef, l.getD 105 undef, l.getD 106 undef, l.getD 107 undef, l.getD 108 undef, l.getD 109 undef, l.getD 110 undef, l.getD 111 undef, l.getD 112 undef, l.getD 113 undef, l.getD 114 undef, l.getD 115 undef, l.getD 116 undef, l.getD 117 undef, l.getD 118 undef, l.getD 119 undef, l.getD 120 undef, l.getD 121 undef, l.getD 122 undef, l.getD 123 undef, l.getD 124 undef, l.getD 125 undef, l.getD 126 undef, l.getD 127 undef, l.getD 128 undef, l.getD 129 undef, l.getD 130 undef, l.getD 131 undef, l.getD 132 undef, l.getD 133 undef, l.getD 134 undef, l.getD 135 undef, l.getD 136 undef, l.getD 137 undef, l.getD 138 undef, l.getD 139 undef, l.getD 140 undef, l.getD 141 undef] from rfl] at hm ⊢
  rw [h2, h6, h16, h114] at hm ⊢
  exact tc_rf2 (fun i => l.getD i undef) ds w B b' R Bc Bn bc es rv hd hB hC hC2 hbc hbn r0 rz n1 n2 n3 n4 n5 hm
end Go.Proofs.Ytadpibcgjgcjhaa
/- The walk of undercrofttop.TopCache. -/
namespace Go.Proofs.Ytadpibcgjgcjhaa
open Go.ChangeShapes Go.WideShapes Go.ChangeAt Go.RowKit Go.Shelf
set_option maxRecDepth 1000000
attribute [local go_sem ↓] Go.wp_at_zero Go.wp_at_succ

theorem mark_ne {w : World} {D b o : Nat} {v : Value} {x : Option (List Deferred)} (hD : w.heap[D]? = some (.deferred x)) (hc : w.cell? ⟨b, o, none⟩ = some v) : D ≠ b := by
  intro e
  subst e
  simp [World.cell?, hD] at hc
/-- What holds in each round of TopCache. -/
structure TcS (W w : World) (R Bc bc : Nat) (es : List En) (ds : List Nat) : Prop where
  ca : CaL w bc es
  pc : w.cell? ⟨Bc, 0, none⟩ = some (.pointer (some ⟨bc, 0, none⟩))
  r0 : ∃ rv, w.cell? ⟨R, 0, none⟩ = some (.bool rv)
  rz : w.frozen? ⟨R, 0, none⟩ = false
  up : Upd (fun _ => False) W w
  ms : Marks W.heap.size w ds
  di : Dist es
  g0 : W.heap.size ≤ R
  g1 : R < bc
  g2 : bc < Bc
theorem TcS.same {W w w' : World} {R Bc bc : Nat} {es : List En} {ds : List Nat} (h : TcS W w R Bc bc es ds) (u : Upd (fun _ => False) w w') : TcS W w' R Bc bc es ds where
  ca := h.ca.upd u (fun f => f)
  pc := u.cell h.pc (fun f => f)
  r0 := by obtain ⟨rv, hr⟩ := h.r0; exact ⟨rv, u.cell hr (fun f => f)⟩
  rz := by obtain ⟨rv, hr⟩ := h.r0; rw [u.frozen hr (fun f => f)]; exact h.rz
  up := h.up.trans u (fun _ _ f => f)
  ms := h.ms.upd u (fun _ _ f => f)
  di := h.di
  g0 := h.g0
  g1 := h.g1
  g2 := h.g2
theorem TcS.call {W w w' : World} {R Bc bc : Nat} {es es' : List En} {ds : List Nat} (h : TcS W w R Bc bc es ds) (u : Upd (fun k => k = bc) w w') (hc : CaL w' bc es') (hd : Dist es') : TcS W w' R Bc bc es' ds where
  ca := hc
  pc := u.cell h.pc (by have := h.g2; simp only; omega)
  r0 := by obtain ⟨rv, hr⟩ := h.r0; exact ⟨rv, u.cell hr (by have := h.g1; simp only; omega)⟩
  rz := by obtain ⟨rv, hr⟩ := h.r0; rw [u.frozen hr (by have := h.g1; simp only; omega)]; exact h.rz
  up := h.up.trans u (fun i hi e => by have := h.g0; have := h.g1; omega)
  ms := h.ms.upd u (fun D hD e => by
    obtain ⟨c, h1, _⟩ := h.ca
    exact mark_ne (h.ms.2 D hD).2.2 h1.cnt e)
  di := hd
  g0 := h.g0
  g1 := h.g1
  g2 := h.g2
theorem TcS.mark {W w w' : World} {R Bc bc D : Nat} {es : List En} {ds : List Nat} (h : TcS W w R Bc bc es ds) {S : Nat → Prop} (u : Upd S w w') (hS : ∀ k, S k → Bc < k) (hS2 : ∀ k, S k → ∃ v, w.cell? ⟨k, 0, none⟩ = some v) (hD : w.heap.size ≤ D) (hd : w'.heap[D]? = some (.deferred (some []))) : TcS W w' R Bc bc es (D :: ds) where
  ca := h.ca.upd u (fun e => by have := hS _ e; have := h.g2; omega)
  pc := u.cell h.pc (fun e => by have := hS _ e; simp only at this; omega)
  r0 := by obtain ⟨rv, hr⟩ := h.r0; exact ⟨rv, u.cell hr (fun e => by have := hS _ e; have := h.g1; have := h.g2; simp only at *; omega)⟩
  rz := by obtain ⟨rv, hr⟩ := h.r0; rw [u.frozen hr (fun e => by have := hS _ e; have := h.g1; have := h.g2; simp only at *; omega)]; exact h.rz
  up := h.up.trans u (fun i hi e => by have := hS _ e; have := h.g0; have := h.g1; have := h.g2; omega)
  ms := (h.ms.upd u (fun E hE e => by
    obtain ⟨v, hv⟩ := hS2 E e
    exact mark_ne (h.ms.2 E hE).2.2 hv rfl)).cons (Nat.le_trans h.up.size hD) hd (fun hE => by have := (h.ms.2 D hE).2.1; omega)
  di := h.di
  g0 := h.g0
  g1 := h.g1
  g2 := h.g2
/-- The frame, by a function. -/
def tcI (W : World) (R Bc bc len : Nat) (sl : Value) (k : Nat) (a : Act) (w : World) : Prop :=
  ∃ (c : Nat → Value) (es : List En) (ds : List Nat) (i : Nat), i + k = len ∧ c 0 = sl ∧ c 2 = .pointer (some ⟨R, 0, none⟩) ∧ c 6 = .pointer (some ⟨Bc, 0, none⟩) ∧ c 7 = .int .i64 i ∧ TcS W w R Bc bc es ds ∧ a = ⟨((List.range 142).map c).toArray, marks ds⟩
theorem tcI_intro {W : World} {R Bc bc len : Nat} {sl : Value} {k i : Nat} {l : List Value} {w : World} {es : List En} {ds : List Nat} (hl : l.length = 142) (hk : i + k = len) (h0 : l.getD 0 undef = sl) (h2 : l.getD 2 undef = .pointer (some ⟨R, 0, none⟩)) (h6 : l.getD 6 undef = .pointer (some ⟨Bc, 0, none⟩)) (h7 : l.getD 7 undef = .int .i64 i) (hS : TcS W w R Bc bc es ds) :
    tcI W R Bc bc len sl k ⟨l.toArray, marks ds⟩ w := ⟨fun j => l.getD j undef, es, ds, i, hk, h0, h2, h6, h7, hS, by rw [frame_fn l, hl]⟩
theorem tc_leaves {fn : Func} {tmps : Array Value} {P : Ending → World → Prop} {W w : World} {R Bc bc : Nat} {es : List En} {ds : List Nat} (h : TcS W w R Bc bc es ds) (hv : w.cell? ⟨R, 0, none⟩ = some (.bool true))
    (hm : ∀ w', w'.cell? ⟨R, 0, none⟩ = some (.bool true) → Upd (fun _ => False) W w' → LeavesIn Fence.wide 8 Try.prog fn tmps P [] .returning w') : LeavesInM Fence.wide 8 Try.prog fn tmps P (marks ds) .returning w := by
  refine leaves_marks ds w h.ms (fun w' ht => hm w' ?_ ?_)
  · rw [World.cell?_of_block (w := w) (ht.block R (fun hR => mark_ne (h.ms.2 R hR).2.2 hv rfl))]
    exact hv
  · exact h.up.trans (ht.upd (fun D hD => (h.ms.2 D hD).1)) (fun i hi e => by omega)
/-- What the switch must come to. -/
def tcPost (W : World) (R Bc bc : Nat) (sl : Value) (i : Nat) (Q : Exit → Act → World → Prop) : Prop :=
  ∀ (c' : Nat → Value) (es' : List En) (ds' : List Nat) (w' : World), c' 0 = sl → c' 2 = .pointer (some ⟨R, 0, none⟩) → c' 6 = .pointer (some ⟨Bc, 0, none⟩) → c' 7 = .int .i64 i → TcS W w' R Bc bc es' ds' → Q .normal ⟨((List.range 142).map c').toArray, marks ds'⟩ w'
theorem tcPost.use {W : World} {R Bc bc : Nat} {sl : Value} {i : Nat} {Q : Exit → Act → World → Prop} (h : tcPost W R Bc bc sl i Q) {l : List Value} {es : List En} {ds : List Nat} {w : World} (hl : l.length = 142) (h0 : l.getD 0 undef = sl) (h2 : l.getD 2 undef = .pointer (some ⟨R, 0, none⟩)) (h6 : l.getD 6 undef = .pointer (some ⟨Bc, 0, none⟩)) (h7 : l.getD 7 undef = .int .i64 i) (hS : TcS W w R Bc bc es ds) : Q .normal ⟨l.toArray, marks ds⟩ w := by
  have := h (fun j => l.getD j undef) es ds w h0 h2 h6 h7 hS
  rw [frame_fn l, hl]
  exact this
noncomputable def tcSw : Code := (Try.f8.body.bind (blkAt 2)).getD .skip
end Go.Proofs.Ytadpibcgjgcjhaa
/- undercrofttop.TopCache's switch. -/
namespace Go.Proofs.Ytadpibcgjgcjhaa
open Go.ChangeShapes Go.WideShapes Go.ChangeAt Go.RowKit Go.Shelf
set_option maxRecDepth 1000000
attribute [local go_sem ↓] Go.wp_at_zero Go.wp_at_succ

set_option maxHeartbeats 4000000 in
theorem tc_put (c : Nat → Value) (W w : World) (R Bc bc i q : Nat) (sl : Value) (x : Ac) (es : List En) (ds : List Nat) (k0 : (x.kind.toList == [112, 117, 116]) = true) (hB : BoxAt w q x) (hS : TcS W w R Bc bc es ds) (_hq : Bc < q) {Q : Exit → Act → World → Prop} (hm : tcPost W R Bc bc sl i Q) :
    Code.wp Try.prog tcSw Q ⟨#[sl, c 1, .pointer (some ⟨R, 0, none⟩), c 3, c 4, c 5, .pointer (some ⟨Bc, 0, none⟩), .int .i64 i, .pointer (some ⟨q, 0, none⟩), c 9, c 10, c 11, c 12, c 13, c 14, c 15, c 16, c 17, c 18, c 19, c 20, c 21, c 22, c 23, c 24, c 25, c 26, c 27, c 28, c 29, c 30, c 31, c 32, c 33, c 34, c 35, c 36, c 37, c 38, c 39, c 40, c 41, c 42, c 43, c 44, c 45, c 46, c 47, c 48, .string x.kind, c 50, c 51, c 52, c 53, c 54, c 55, c 56, c 57, c 58, c 59, c 60, c 61, c 62, c 63, c 64, c 65, c 66, c 67, c 68, c 69, c 70, c 71, c 72, c 73, c 74, c 75, c 76, c 77, c 78, c 79, c 80, c 81, c 82, c 83, c 84, c 85, c 86, c 87, c 88, c 89, c 90, c 91, c 92, c 93, c 94, c 95, c 96, c 97, c 98, c 99, c 100, c 101, c 102, c 103, c 104, c 105, c 106, c 107, c 108, c 109, c 110, c 111, c 112, c 113, c 114, c 115, c 116, c 117, c 118, c 119, c 120, c 121, c 122, c 123, c 124, c 125, c 126, c 127, c 128, c 129, c 130, c 131, c 132, c 133, c 134, c 135, c 136, c 137, c 138, c 139, c 140, c 141], marks ds⟩ w := by
  have HM : Hid (tcPost W R Bc bc sl i Q) := hm
  have HS : Hid _ := hS
  have HB : Hid _ := hB
  have y1 := hB.c1
  have y2 := hB.c2
  have y3 := hB.c3
  have y5 := hB.c5
  have pc := hS.pc
  have g1 := hS.g1
  have g2 := hS.g2
  clear hm hS hB
  conv => arg 2; whnf
  have hu0 := (Upd.refl (fun _ => False) w).alloc (.cells #[.int .i64 x.n, .int .i64 x.a, .int .i64 x.b, .bool x.on, .bool false, .bool false, .int .i64 0] 85)
  have p0 := hu0.cell pc (fun f => f)
  have HZ : Hid _ := box_new w #[.int .i64 x.n, .int .i64 x.a, .int .i64 x.b, .bool x.on, .bool false, .bool false, .int .i64 0] 85
  have HU0 : Hid _ := hu0
  clear hu0
  go_wp2_with fail
  refine (kPut_any _ bc es ⟨x.n, x.a, x.b, x.on, ⟨false, false, 0⟩⟩ (HS.out.ca.upd HU0.out (fun f => f))).mono ?_
  rintro e w1 ⟨rfl, hc1, hu1⟩
  have hu01 := HU0.out.free.trans hu1 (fun _ _ e => e)
  have hS1 := HS.out.call hu01 hc1 (dist_putK HS.out.di _)
  have HS1 : Hid _ := hS1
  have p1 := hS1.pc
  have z1 := hu01.cell y1 (by simp only; omega)
  have z2 := hu01.cell y2 (by simp only; omega)
  obtain ⟨e1, e2, e3⟩ := idx_put HS.out.di ⟨x.n, x.a, x.b, x.on, ⟨false, false, 0⟩⟩
  have hf := kFind_yes w1 bc _ x.n x.a hc1 _ e2 e1
  rw [e3] at hf
  have hbx : bc ≠ w.heap.size := by have := HS.out.ca.lt; omega
  have HBX : Hid (w1.heap[w.heap.size]? = some (.cells #[.int .i64 x.n, .int .i64 x.a, .int .i64 x.b, .bool x.on, .bool false, .bool false, .int .i64 0] 85)) := (hu1.block w.heap.size (by simp) (fun e => hbx e.symm)).trans HZ.out
  clear hc1 hu1 hu01 hS1 e1 e2 e3 y1 y2 y3 y5 p0 HU0 HS HB HZ hbx pc
  go_wp2_with fail
  refine Calls.mono hf ?_
  rintro e w2 ⟨rfl, hu2⟩
  have hu3 := hu2.alloc (.cells #[.int .i64 x.n, .int .i64 x.a, .int .i64 x.b, .bool x.on, .bool false, .bool false, .int .i64 0] 85)
  have hbx := (hu3.block w.heap.size (Array.getElem?_eq_some_iff.1 HBX.out).1 (fun f => f)).trans HBX.out
  have x0 := box_cell hbx 0
  have x1 := box_cell hbx 1
  have x2 := box_cell hbx 2
  have x3 := box_cell hbx 3
  have x4 := box_cell hbx 4
  have x5 := box_cell hbx 5
  have x6 := box_cell hbx 6
  simp only [List.getElem?_toArray, List.getElem?_cons_zero, List.getElem?_cons_succ] at x0 x1 x2 x3 x4 x5 x6
  have HS2 : Hid _ := HS1.out.same hu3
  clear hf hu2 hu3 hbx HBX HS1 p1 z1 z2
  go_wp2_with fail
  exact HM.out.use rfl rfl rfl rfl rfl HS2.out

set_option maxHeartbeats 4000000 in
theorem tc_drop (c : Nat → Value) (W w : World) (R Bc bc i q : Nat) (sl : Value) (x : Ac) (es : List En) (ds : List Nat) (k0 : (x.kind.toList == [112, 117, 116]) = false) (k1 : (x.kind.toList == [100, 114, 111, 112]) = true) (hB : BoxAt w q x) (hS : TcS W w R Bc bc es ds) (_hq : Bc < q) {Q : Exit → Act → World → Prop} (hm : tcPost W R Bc bc sl i Q) :
    Code.wp Try.prog tcSw Q ⟨#[sl, c 1, .pointer (some ⟨R, 0, none⟩), c 3, c 4, c 5, .pointer (some ⟨Bc, 0, none⟩), .int .i64 i, .pointer (some ⟨q, 0, none⟩), c 9, c 10, c 11, c 12, c 13, c 14, c 15, c 16, c 17, c 18, c 19, c 20, c 21, c 22, c 23, c 24, c 25, c 26, c 27, c 28, c 29, c 30, c 31, c 32, c 33, c 34, c 35, c 36, c 37, c 38, c 39, c 40, c 41, c 42, c 43, c 44, c 45, c 46, c 47, c 48, .string x.kind, c 50, c 51, c 52, c 53, c 54, c 55, c 56, c 57, c 58, c 59, c 60, c 61, c 62, c 63, c 64, c 65, c 66, c 67, c 68, c 69, c 70, c 71, c 72, c 73, c 74, c 75, c 76, c 77, c 78, c 79, c 80, c 81, c 82, c 83, c 84, c 85, c 86, c 87, c 88, c 89, c 90, c 91, c 92, c 93, c 94, c 95, c 96, c 97, c 98, c 99, c 100, c 101, c 102, c 103, c 104, c 105, c 106, c 107, c 108, c 109, c 110, c 111, c 112, c 113, c 114, c 115, c 116, c 117, c 118, c 119, c 120, c 121, c 122, c 123, c 124, c 125, c 126, c 127, c 128, c 129, c 130, c 131, c 132, c 133, c 134, c 135, c 136, c 137, c 138, c 139, c 140, c 141], marks ds⟩ w := by
  have HM : Hid (tcPost W R Bc bc sl i Q) := hm
  have HS : Hid _ := hS
  have HB : Hid _ := hB
  have y1 := hB.c1
  have y2 := hB.c2
  have y3 := hB.c3
  have y5 := hB.c5
  have pc := hS.pc
  have g1 := hS.g1
  have g2 := hS.g2
  clear hm hS hB
  conv => arg 2; whnf
  go_wp2_with fail
  refine (kDrop_any _ bc es x.a x.b HS.out.ca).mono ?_
  rintro e w1 ⟨rfl, hc1, hu1⟩
  have hS1 := HS.out.call hu1 hc1 (dist_flt HS.out.di _)
  have HS1 : Hid _ := hS1
  have p1 := hS1.pc
  have z2 := hu1.cell y2 (by simp only; omega)
  have z3 := hu1.cell y3 (by simp only; omega)
  have hf := kFind_no w1 bc _ x.a x.b hc1 (idx_drop es x.a x.b)
  generalize decide ((0 : Int) < ((es.length - (flt (isAt x.a x.b) es).length : Nat) : Int)) = d
  clear hc1 hu1 hS1 y1 y2 y3 y5 HS HB pc
  go_wp2_with fail
  refine Calls.mono hf ?_
  rintro e w2 ⟨rfl, hu2⟩
  have hu3 := hu2.alloc (.cells #[.int .i64 0, .int .i64 0, .int .i64 0, .bool false, .bool false, .bool false, .int .i64 0] 85)
  have HS2 : Hid _ := HS1.out.same hu3
  clear hf hu2 hu3 HS1 p1 z2 z3
  go_wp2_with fail
  exact HM.out.use rfl rfl rfl rfl rfl HS2.out

set_option maxHeartbeats 4000000 in
theorem tc_forget (c : Nat → Value) (W w : World) (R Bc bc i q : Nat) (sl : Value) (x : Ac) (es : List En) (ds : List Nat) (k0 : (x.kind.toList == [112, 117, 116]) = false) (k1 : (x.kind.toList == [100, 114, 111, 112]) = false) (k2 : (x.kind.toList == [102, 111, 114, 103, 101, 116]) = true) (hB : BoxAt w q x) (hS : TcS W w R Bc bc es ds) (_hq : Bc < q) {Q : Exit → Act → World → Prop} (hm : tcPost W R Bc bc sl i Q) :
    Code.wp Try.prog tcSw Q ⟨#[sl, c 1, .pointer (some ⟨R, 0, none⟩), c 3, c 4, c 5, .pointer (some ⟨Bc, 0, none⟩), .int .i64 i, .pointer (some ⟨q, 0, none⟩), c 9, c 10, c 11, c 12, c 13, c 14, c 15, c 16, c 17, c 18, c 19, c 20, c 21, c 22, c 23, c 24, c 25, c 26, c 27, c 28, c 29, c 30, c 31, c 32, c 33, c 34, c 35, c 36, c 37, c 38, c 39, c 40, c 41, c 42, c 43, c 44, c 45, c 46, c 47, c 48, .string x.kind, c 50, c 51, c 52, c 53, c 54, c 55, c 56, c 57, c 58, c 59, c 60, c 61, c 62, c 63, c 64, c 65, c 66, c 67, c 68, c 69, c 70, c 71, c 72, c 73, c 74, c 75, c 76, c 77, c 78, c 79, c 80, c 81, c 82, c 83, c 84, c 85, c 86, c 87, c 88, c 89, c 90, c 91, c 92, c 93, c 94, c 95, c 96, c 97, c 98, c 99, c 100, c 101, c 102, c 103, c 104, c 105, c 106, c 107, c 108, c 109, c 110, c 111, c 112, c 113, c 114, c 115, c 116, c 117, c 118, c 119, c 120, c 121, c 122, c 123, c 124, c 125, c 126, c 127, c 128, c 129, c 130, c 131, c 132, c 133, c 134, c 135, c 136, c 137, c 138, c 139, c 140, c 141], marks ds⟩ w := by
  have HM : Hid (tcPost W R Bc bc sl i Q) := hm
  have HS : Hid _ := hS
  have HB : Hid _ := hB
  have y1 := hB.c1
  have y2 := hB.c2
  have y3 := hB.c3
  have y5 := hB.c5
  have pc := hS.pc
  have g1 := hS.g1
  have g2 := hS.g2
  clear hm hS hB
  conv => arg 2; whnf
  go_wp2_with fail
  refine (kForget_any _ bc es x.a HS.out.ca).mono ?_
  rintro e w1 ⟨rfl, hc1, hu1⟩
  have hS1 := HS.out.call hu1 hc1 (dist_flt HS.out.di _)
  have HS1 : Hid _ := hS1
  have p1 := hS1.pc
  have HY : Hid _ := hu1.cell y2 (by simp only; omega)
  have HC1 : Hid (CaL w1 bc (flt (fun x_1 => x_1.root == x.a) es)) := hc1
  generalize es.length - (flt (fun x_1 => x_1.root == x.a) es).length = d
  clear hc1 hu1 hS1 y1 y2 y3 y5 HS HB pc
  go_wp2_with fail
  refine (kAll_any w1 bc _ HC1.out).mono ?_
  rintro e w2 ⟨B, b', rfl, hB1, hb1, hB2, hC2, hu2⟩
  have HS2 : Hid _ := HS1.out.same hu2
  obtain ⟨rv, hr0⟩ := HS2.out.r0
  have HR0 : Hid _ := hr0
  have HB2 : Hid _ := hB2
  have HC2 : Hid (CaL w2 b' (flt (fun x_1 => x_1.root == x.a) es)) := hC2
  have HY2 : Hid _ := hu2.cell HY.out (fun f => f)
  clear hB2 hC2 hr0 HY p1 HC1 HS1 hB1 hb1 hu2
  go_wp2_with fail
  refine tc_rf1L _ rfl ds w2 B b' q R _ x rv rfl rfl rfl HB2.out HC2.out HY2.out HR0.out HS2.out.rz (fun i hi => forget_root hi) ?_
  intro D w3 hD hu3 hd3
  have HS3 : Hid _ := HS2.out.mark hu3 (fun _ f => f.elim) (fun _ f => f.elim) hD hd3
  clear hu3 hd3 HS2 HR0 HB2 HC2 HY2
  go_wp2_with fail
  exact HM.out.use rfl rfl rfl rfl rfl HS3.out

set_option maxHeartbeats 4000000 in
theorem tc_other (c : Nat → Value) (W w : World) (R Bc bc i q : Nat) (sl : Value) (x : Ac) (es : List En) (ds : List Nat) (k0 : (x.kind.toList == [112, 117, 116]) = false) (k1 : (x.kind.toList == [100, 114, 111, 112]) = false) (k2 : (x.kind.toList == [102, 111, 114, 103, 101, 116]) = false) (hB : BoxAt w q x) (hS : TcS W w R Bc bc es ds) (_hq : Bc < q) {Q : Exit → Act → World → Prop} (hm : tcPost W R Bc bc sl i Q) :
    Code.wp Try.prog tcSw Q ⟨#[sl, c 1, .pointer (some ⟨R, 0, none⟩), c 3, c 4, c 5, .pointer (some ⟨Bc, 0, none⟩), .int .i64 i, .pointer (some ⟨q, 0, none⟩), c 9, c 10, c 11, c 12, c 13, c 14, c 15, c 16, c 17, c 18, c 19, c 20, c 21, c 22, c 23, c 24, c 25, c 26, c 27, c 28, c 29, c 30, c 31, c 32, c 33, c 34, c 35, c 36, c 37, c 38, c 39, c 40, c 41, c 42, c 43, c 44, c 45, c 46, c 47, c 48, .string x.kind, c 50, c 51, c 52, c 53, c 54, c 55, c 56, c 57, c 58, c 59, c 60, c 61, c 62, c 63, c 64, c 65, c 66, c 67, c 68, c 69, c 70, c 71, c 72, c 73, c 74, c 75, c 76, c 77, c 78, c 79, c 80, c 81, c 82, c 83, c 84, c 85, c 86, c 87, c 88, c 89, c 90, c 91, c 92, c 93, c 94, c 95, c 96, c 97, c 98, c 99, c 100, c 101, c 102, c 103, c 104, c 105, c 106, c 107, c 108, c 109, c 110, c 111, c 112, c 113, c 114, c 115, c 116, c 117, c 118, c 119, c 120, c 121, c 122, c 123, c 124, c 125, c 126, c 127, c 128, c 129, c 130, c 131, c 132, c 133, c 134, c 135, c 136, c 137, c 138, c 139, c 140, c 141], marks ds⟩ w := by
  have HM : Hid (tcPost W R Bc bc sl i Q) := hm
  have HS : Hid _ := hS
  have HB : Hid _ := hB
  have y1 := hB.c1
  have y2 := hB.c2
  have y3 := hB.c3
  have y5 := hB.c5
  have pc := hS.pc
  have g1 := hS.g1
  have g2 := hS.g2
  clear hm hS hB
  conv => arg 2; whnf
  go_wp2_with fail
  exact HM.out.use rfl rfl rfl rfl rfl HS.out
end Go.Proofs.Ytadpibcgjgcjhaa
