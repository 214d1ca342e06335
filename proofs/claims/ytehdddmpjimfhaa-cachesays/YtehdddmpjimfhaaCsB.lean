/- undercroftlaw.CacheSays: the loop that gathers. -/
import Derived.Test.YtehdddmpjimfhaaCsA
namespace Go.Proofs.Ytehdddmpjimfhaa
open Go.ChangeShapes Go.WideShapes Go.ChangeAt Go.RowKit Go.Shelf
set_option maxRecDepth 1000000
attribute [local go_sem] Oper.semAt_some

theorem SlC.grownS {S : Nat → Prop} {w wr w2 : World} {v : Value} {es : List En} {x : En} {g cap : Nat} (hu : Upd S w wr) (hS : SlC wr w.heap.size v es) (o : Obj)
    (hown : w2.ownsRow w.heap.size 85 7 (.slice (some ⟨g, 0, none⟩) (es.length + 1) cap) (es.length + 1) (enAll es ++ enCells x)) (hgrow : (wr.alloc o).grownBy w2 v.ownBlock) :
    SlC w2 w.heap.size (.slice (some ⟨g, 0, none⟩) (es.length + 1) cap) (es ++ [x]) ∧ Upd S w w2 ∧ (∀ k, k < w.heap.size → w2.heap[k]? = wr.heap[k]?) ∧ KeepsOthers wr w2 := by
  have hz := hu.size
  have hb : ∀ k, k < w.heap.size → w2.heap[k]? = wr.heap[k]? := fun k hk => by
    rw [hgrow.block k (by simp only [World.size_alloc]; omega) (by
      intro e
      have := World.ownsRow.lt hS k e.symm
      omega), Below.heap_alloc _ _ _ (by omega)]
  refine ⟨?_, ⟨hgrow.os.trans hu.os, hgrow.tape.trans hu.tape, hgrow.output.trans hu.output, ?_, fun k hk hn => (hb k hk).trans (hu.block k hk hn)⟩, hb, ?_⟩
  · unfold SlC
    rw [enAll_append, List.length_append]
    simpa [enAll] using hown
  · have := hgrow.size
    simp only [World.size_alloc] at this
    omega
  · refine (KeepsOthers.alloc wr o).trans (KeepsOthers.of_grownBy hgrow fun j o' ej hj => ?_)
    rcases (World.ownsRow.alloc hS o).2 with ⟨rfl, _⟩ | ⟨g', cap', cur, rfl, _, hgb, _⟩
    · simp [Value.ownBlock] at ej
    · obtain rfl : g' = j := by simpa [Value.ownBlock] using ej
      rw [hgb] at hj; cases hj; rfl
set_option maxHeartbeats 40000000 in
theorem cs_rf2 (c : Nat → Value) (ds : List Nat) (w : World) (B b' Bo : Nat) (es : List En) (hB : w.cell? ⟨B, 0, none⟩ = some (.pointer (some ⟨b', 0, none⟩))) (hC : CaL w b' es)
    (hbo : w.heap[Bo]? = some (.cells #[.slice none 0 0] 89)) (n1 : b' ≠ Bo) (n2 : B ≠ Bo) {Q : Exit → Act → World → Prop}
    (hm : ∀ (D : Nat) (W : World) (v : Value), w.heap.size ≤ D → Upd (fun k => k = Bo) w W → W.heap[Bo]? = some (.cells #[v] 89) → SlC W w.heap.size v es → W.heap[D]? = some (.deferred (some [])) → Q .normal ⟨#[c 0, c 1, c 2, c 3, c 4, c 5, c 6, c 7, c 8, c 9, c 10, c 11, c 12, c 13, c 14, c 15, c 16, c 17, c 18, c 19, c 20, c 21, c 22, c 23, .pointer (some ⟨Bo, 0, none⟩), c 25, c 26, c 27, c 28, c 29, c 30, c 31, c 32, c 33, c 34, c 35, c 36, c 37, c 38, c 39, c 40, c 41, c 42, c 43, c 44, c 45, c 46, c 47, c 48, c 49, c 50, c 51, c 52, c 53, c 54, c 55, c 56, c 57, c 58, c 59, c 60, c 61, c 62, c 63, c 64, c 65, c 66, c 67, c 68, c 69, c 70, c 71, c 72, c 73, c 74, c 75, c 76, c 77, c 78, c 79, c 80, c 81, c 82, c 83, c 84, c 85, c 86, c 87, c 88, c 89, c 90, c 91, c 92, c 93, c 94, c 95, c 96, c 97, c 98, c 99, c 100, c 101, c 102, c 103, c 104, c 105, c 106, c 107, c 108, c 109, c 110, c 111, c 112, c 113, c 114, c 115, c 116, c 117, c 118, c 119, c 120, c 121, c 122, c 123, c 124, c 125, c 126, c 127, c 128, c 129, c 130, c 131, c 132, c 133, c 134, c 135, c 136, c 137, c 138, c 139, c 140, c 141, c 142, c 143, c 144, c 145, c 146, c 147, c 148, c 149, c 150, c 151, c 152, c 153, c 154, c 155, c 156, c 157, c 158, c 159, c 160, c 161, c 162, c 163, c 164, c 165, c 166, c 167, c 168, c 169, c 170, c 171, c 172, c 173, c 174, c 175, c 176, c 177, c 178, c 179, c 180, c 181, c 182, c 183, c 184, c 185, c 186, c 187, c 188, c 189, c 190, c 191, c 192, c 193, c 194, c 195, c 196, c 197, c 198, c 199, c 200, c 201, c 202, c 203, c 204, c 205, c 206, c 207, c 208, c 209, c 210, c 211, c 212, c 213, c 214, c 215, c 216, c 217, c 218, c 219, c 220, c 221, c 222, c 223, c 224, c 225, c 226, c 227, c 228, c 229, c 230, c 231, c 232, c 233, c 234, c 235, c 236, c 237, c 238, c 239, c 240, .func (.func 88) #[] #[.pointer (some ⟨B, 0, none⟩)], c 242, c 243, c 244, c 245, c 246, c 247, c 248, c 249, c 250], marks (D :: ds)⟩ W) :
    Code.wp Try.prog csRf2 Q ⟨#[c 0, c 1, c 2, c 3, c 4, c 5, c 6, c 7, c 8, c 9, c 10, c 11, c 12, c 13, c 14, c 15, c 16, c 17, c 18, c 19, c 20, c 21, c 22, c 23, .pointer (some ⟨Bo, 0, none⟩), c 25, c 26, c 27, c 28, c 29, c 30, c 31, c 32, c 33, c 34, c 35, c 36, c 37, c 38, c 39, c 40, c 41, c 42, c 43, c 44, c 45, c 46, c 47, c 48, c 49, c 50, c 51, c 52, c 53, c 54, c 55, c 56, c 57, c 58, c 59, c 60, c 61, c 62, c 63, c 64, c 65, c 66, c 67, c 68, c 69, c 70, c 71, c 72, c 73, c 74, c 75, c 76, c 77, c 78, c 79, c 80, c 81, c 82, c 83, c 84, c 85, c 86, c 87, c 88, c 89, c 90, c 91, c 92, c 93, c 94, c 95, c 96, c 97, c 98, c 99, c 100, c 101, c 102, c 103, c 104, c 105, c 106, c 107, c 108, c 109, c 110, c 111, c 112, c 113, c 114, c 115, c 116, c 117, c 118, c 119, c 120, c 121, c 122, c 123, c 124, c 125, c 126, c 127, c 128, c 129, c 130, c 131, c 132, c 133, c 134, c 135, c 136, c 137, c 138, c 139, c 140, c 141, c 142, c 143, c 144, c 145, c 146, c 147, c 148, c 149, c 150, c 151, c 152, c 153, c 154, c 155, c 156, c 157, c 158, c 159, c 160, c 161, c 162, c 163, c 164, c 165, c 166, c 167, c 168, c 169, c 170, c 171, c 172, c 173, c 174, c 175, c 176, c 177, c 178, c 179, c 180, c 181, c 182, c 183, c 184, c 185, c 186, c 187, c 188, c 189, c 190, c 191, c 192, c 193, c 194, c 195, c 196, c 197, c 198, c 199, c 200, c 201, c 202, c 203, c 204, c 205, c 206, c 207, c 208, c 209, c 210, c 211, c 212, c 213, c 214, c 215, c 216, c 217, c 218, c 219, c 220, c 221, c 222, c 223, c 224, c 225, c 226, c 227, c 228, c 229, c 230, c 231, c 232, c 233, c 234, c 235, c 236, c 237, c 238, c 239, c 240, .func (.func 88) #[] #[.pointer (some ⟨B, 0, none⟩)], c 242, c 243, c 244, c 245, c 246, c 247, c 248, c 249, c 250], marks ds⟩ w := by
  have hle := hC.le
  have hltB : B < w.heap.size := World.block_lt_of_cell? w _ hB
  have hltb : b' < w.heap.size := hC.lt
  have hlto : Bo < w.heap.size := (Array.getElem?_eq_some_iff.1 hbo).1
  conv => arg 2; whnf
  refine range_law B b' es rfl hB hC rfl (fun pre W => (∃ v, Boxed W Bo 89 v ∧ W.ownsRow w.heap.size 85 7 v (pre.map (atE es)).length (enAll (pre.map (atE es))) ∧ True) ∧ Upd (fun k => k = Bo) w W)
    (fun _ _ _ => False)
    (OwnFrom.and (Own.from (holdsRow_own w.heap.size Bo 89 85 7 (fun pre : List Nat => (pre.map (atE es)).length) (fun pre : List Nat => enAll (pre.map (atE es))) (fun _ _ => True)) _) (own_upd _ w)) (fun _ _ _ _ _ hs _ _ => hs) ⟨⟨_, hbo, SlC.nil _ _, trivial⟩, Upd.refl _ _⟩
    (fun i a' W => ∃ Bx, W.heap[Bx]? = some (.cells #[.int .i64 (atE es i).root, .int .i64 (atE es i).page, .int .i64 (atE es i).dest, .bool (atE es i).may, .bool (atE es i).lf.there, .bool (atE es i).lf.wr, .int .i64 (atE es i).lf.fr] 85) ∧ a' = ⟨#[c 0, c 1, c 2, c 3, c 4, c 5, c 6, c 7, c 8, c 9, c 10, c 11, c 12, c 13, c 14, c 15, c 16, c 17, c 18, c 19, c 20, c 21, c 22, c 23, .pointer (some ⟨Bo, 0, none⟩), c 25, .pointer (some ⟨Bx, 0, none⟩), c 27, c 28, c 29, c 30, c 31, c 32, c 33, c 34, c 35, c 36, c 37, c 38, c 39, c 40, c 41, c 42, c 43, c 44, c 45, c 46, c 47, c 48, c 49, c 50, c 51, c 52, c 53, c 54, c 55, c 56, c 57, c 58, c 59, c 60, c 61, c 62, c 63, c 64, c 65, c 66, c 67, c 68, c 69, c 70, c 71, c 72, c 73, c 74, c 75, c 76, c 77, c 78, c 79, c 80, c 81, c 82, c 83, c 84, c 85, c 86, c 87, c 88, c 89, c 90, c 91, c 92, c 93, c 94, c 95, c 96, c 97, c 98, c 99, c 100, c 101, c 102, c 103, c 104, c 105, c 106, c 107, c 108, c 109, c 110, c 111, c 112, c 113, c 114, c 115, c 116, c 117, c 118, c 119, c 120, c 121, c 122, c 123, c 124, c 125, c 126, c 127, c 128, c 129, c 130, c 131, c 132, c 133, c 134, c 135, c 136, c 137, c 138, c 139, c 140, c 141, c 142, c 143, c 144, c 145, c 146, c 147, c 148, c 149, c 150, c 151, c 152, c 153, c 154, c 155, c 156, c 157, c 158, c 159, c 160, c 161, c 162, c 163, c 164, c 165, c 166, c 167, c 168, c 169, c 170, c 171, c 172, c 173, c 174, c 175, c 176, c 177, c 178, c 179, c 180, c 181, c 182, c 183, c 184, c 185, c 186, c 187, c 188, c 189, c 190, c 191, c 192, c 193, c 194, c 195, c 196, c 197, c 198, c 199, c 200, c 201, c 202, c 203, c 204, c 205, c 206, c 207, c 208, c 209, c 210, c 211, c 212, c 213, c 214, c 215, c 216, c 217, c 218, c 219, c 220, c 221, c 222, c 223, c 224, c 225, c 226, c 227, c 228, c 229, c 230, c 231, c 232, c 233, c 234, c 235, c 236, c 237, c 238, c 239, c 240, .func (.func 88) #[] #[.pointer (some ⟨B, 0, none⟩)], .int .i64 i, .agg #[.int .i64 (atE es i).root, .int .i64 (atE es i).page, .int .i64 (atE es i).dest, .bool (atE es i).may, .bool (atE es i).lf.there, .bool (atE es i).lf.wr, .int .i64 (atE es i).lf.fr], c 244, c 245, c 246, c 247, c 248, c 249, c 250], []⟩)
    (fun i a' => ?ax) (fun _ _ h => h.2.size) ?assign ?body ?done ?stop
  case ax =>
    rintro s X Y row ⟨Bx, hb, rfl⟩ hg hr
    exact ⟨Bx, own_block (β := Unit) w.heap.size (fun _ => (Bx, _, _)) () X Y row hb hg hr, rfl⟩
  case assign =>
    rintro l pre i W K ⟨⟨v, hv, hr, _⟩, hi⟩ hK
    unfold enArgs
    gi_wp2
    exact hK _ _ ((Upd.refl _ _).alloc _) ⟨⟨v, hv.alloc _, World.ownsRow.alloc hr _, trivial⟩, hi.alloc _⟩ ⟨_, box_new W _ _, rfl⟩
  case body =>
    rintro l pre i a' W ⟨⟨v, hv, hr, _⟩, hi⟩ ⟨Bx, hb, rfl⟩ hn
    have v0 := hv.cell
    have x0 : W.cell? ⟨Bx, 0, none⟩ = some (.int .i64 (atE es i).root) := box_cell hb 0
    have x1 : W.cell? ⟨Bx, 1, none⟩ = some (.int .i64 (atE es i).page) := box_cell hb 1
    have x2 : W.cell? ⟨Bx, 2, none⟩ = some (.int .i64 (atE es i).dest) := box_cell hb 2
    have x3 : W.cell? ⟨Bx, 3, none⟩ = some (.bool (atE es i).may) := box_cell hb 3
    have x4 : W.cell? ⟨Bx, 4, none⟩ = some (.bool (atE es i).lf.there) := box_cell hb 4
    have x5 : W.cell? ⟨Bx, 5, none⟩ = some (.bool (atE es i).lf.wr) := box_cell hb 5
    have x6 : W.cell? ⟨Bx, 6, none⟩ = some (.int .i64 (atE es i).lf.fr) := box_cell hb 6
    have hmap : (pre ++ [i]).map (atE es) = pre.map (atE es) ++ [atE es i] := by simp
    have HMAP : Hid _ := hmap
    have hpl : (pre.map (atE es)).length = pre.length := by simp
    have hpl4 : (pre.map (atE es)).length ≤ 4 := by omega
    have HV : Hid (Boxed W Bo 89 v) := hv
    have HI : Hid _ := hi
    have HR : Hid (SlC W w.heap.size v (pre.map (atE es))) := hr
    clear hb hm hbo hmap hpl hB hC hv hi hr
    generalize atE es i = x at *
    generalize pre.map (atE es) = fs at *
    obtain ⟨i0, hi0, he⟩ := Option.map_eq_some_iff.1 infoEn
    simp only [Prod.mk.injEq] at he
    obtain ⟨he1, he2, he3⟩ := he
    have HE1 : Hid _ := he1
    have HE2 : Hid _ := he2
    have HE3 : Hid _ := he3
    have HI0 : Hid _ := hi0
    have HN : Hid (∀ j u, (enCells x)[j]? = some u → (W.alloc (.cells #[.int .i64 x.root, .int .i64 x.page, .int .i64 x.dest, .bool x.may, .bool x.lf.there, .bool x.lf.wr, .int .i64 x.lf.fr] 85)).cell? ((⟨W.heap.size, 0, none⟩ : Addr).add j) = some u) := by
      show ∀ j u, _ → _
      intro j u hj
      rw [Addr.add_mid, Nat.zero_add, World.cell?_alloc_new, ← hj]
      show (enCells x).toArray[j]? = _
      simp
    have HO : Hid _ := World.ownsRow.alloc HR.out (.cells #[.int .i64 x.root, .int .i64 x.page, .int .i64 x.dest, .bool x.may, .bool x.lf.there, .bool x.lf.wr, .int .i64 x.lf.fr] 85)
    have HZ : Hid (w.heap.size ≤ (W.alloc (.cells #[.int .i64 x.root, .int .i64 x.page, .int .i64 x.dest, .bool x.may, .bool x.lf.there, .bool x.lf.wr, .int .i64 x.lf.fr] 85)).heap.size) := show _ ≤ _ by have := HI.out.size; simp only [World.size_alloc]; omega
    have H1 : Hid (∀ u ∈ enCells x, u.oneCell' = true) := show ∀ u ∈ enCells x, _ from fun u hu' => enAll_one [x] u (by simpa [enAll] using hu')
    clear he1 he2 he3 hi0
    gi_wp2_with (gi_at_builtin; refine wpListIn_append_own _ (by rfl) _ _ 89 (by rfl) w.heap.size 85 i0 (.agg zeroEn) 7 48 Try.underlying89 HI0.out HE3.out HE1.out HE2.out (by rfl) (by omega) v fs.length (enAll fs) (by rfl) HO.out ⟨W.heap.size, 0, none⟩ 1 1 (enCells x) (by rfl) (by rfl) HN.out H1.out (by unfold maxLen; omega) (by omega) HZ.out ?_; intro v' w1 hown' hgrow _; obtain ⟨g', cap', rfl⟩ := ownsRow_succ hown'; have hv1 := (HV.out.alloc (.cells #[.int .i64 x.root, .int .i64 x.page, .int .i64 x.dest, .bool x.may, .bool x.lf.there, .bool x.lf.wr, .int .i64 x.lf.fr] 85)).kept hgrow (HV.out.not_row (by decide) HR.out); have hc1 := hv1.cell; have hf1 := hv1.frozen)
    obtain ⟨hS2, hU2, hb2, hK2⟩ := SlC.grownS HI.out HR.out _ hown' hgrow
    have hv2 := hv1.set (.slice (some ⟨g', 0, none⟩) (fs.length + 1) cap')
    have hU3 := Upd.one w1 Bo 0 (.slice (some ⟨g', 0, none⟩) (fs.length + 1) cap')
    refine ⟨(hK2.trans (KeepsOthers.setCell _ _ _)).from _, ⟨(hU3.block b' (by have := hU2.size; omega) n1).trans (hb2 b' hltb), (hU3.block B (by have := hU2.size; omega) n2).trans (hb2 B hltB)⟩, ⟨_, hv2, ?_, trivial⟩, hU2.trans hU3 (fun _ _ e => e)⟩
    rw [HMAP.out]
    exact hS2.upd hU3 (fun k hk e => by
      have := (hS2.own_lt hk).1
      omega)
  case done =>
    rintro D W hD ⟨⟨v, hv, hr, _⟩, hi⟩ hd
    rw [range_eq (atE es) es (fun _ _ => rfl)] at hr
    exact hm D W v hD hi hv hr hd
  case stop =>
    intro D k n W hD hn h hd
    exact h.elim
end Go.Proofs.Ytehdddmpjimfhaa
