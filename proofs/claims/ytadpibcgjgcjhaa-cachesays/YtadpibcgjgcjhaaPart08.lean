/- undercroftlaw.CacheSays: its state; its two loops over entries. -/
import Derived.Test.YtadpibcgjgcjhaaPart07
import Derived.Maps.AppendAt
namespace Go.Proofs.Ytadpibcgjgcjhaa
open Go.ChangeShapes Go.WideShapes Go.ChangeAt Go.RowKit Go.Shelf
set_option maxRecDepth 1000000
attribute [local go_sem] Oper.semAt_some

theorem SlC.own_lt {w : World} {base : Nat} {v : Value} {es : List En} (h : SlC w base v es) {g : Nat} (hg : v.ownBlock = some g) : base ≤ g ∧ g < w.heap.size := by
  rcases h.2 with ⟨rfl, _⟩ | ⟨g', cap, cur, rfl, hb, hg', _⟩
  · simp [Value.ownBlock] at hg
  · obtain rfl : g' = g := by simpa [Value.ownBlock] using hg
    exact ⟨hb, (Array.getElem?_eq_some_iff.1 hg').1⟩
noncomputable def csRf1 : Code := (Try.f7.body.bind (rfAt 197)).getD .skip
noncomputable def csRf2 : Code := (Try.f7.body.bind (rfAt 241)).getD .skip

set_option maxHeartbeats 40000000 in
theorem cs_rf1 (c : Nat → Value) (ds : List Nat) (w : World) (B b' q R Bm Bk base : Nat) (vm : Value) (es : List En) (x : Ac) (rv : Bool) (hB : w.cell? ⟨B, 0, none⟩ = some (.pointer (some ⟨b', 0, none⟩))) (hC : CaL w b' es)
    (y2 : w.cell? ⟨q, 2, none⟩ = some (.int .i64 x.a)) (r0 : w.cell? ⟨R, 0, none⟩ = some (.bool rv)) (rz : w.frozen? ⟨R, 0, none⟩ = false)
    (pm : w.heap[Bm]? = some (.cells #[vm] 90)) (sm : SlC w base vm es) (hbk : w.heap[Bk]? = some (.cells #[.int .i64 0] 3))
    (n1 : R ≠ Bk) (n2 : Bm ≠ Bk) (n3 : q ≠ Bk) (n4 : b' ≠ Bk) (n5 : B ≠ Bk) (n6 : ∀ g, vm.ownBlock = some g → g ≠ Bk) {Q : Exit → Act → World → Prop}
    (hm : ∀ (D : Nat) (W : World), w.heap.size ≤ D → Upd (fun k => k = Bk) w W → W.heap[Bk]? = some (.cells #[.int .i64 (es.length : Nat)] 3) → W.heap[D]? = some (.deferred (some [])) → Q .normal ⟨#[c 0, c 1, .pointer (some ⟨R, 0, none⟩), c 3, c 4, .pointer (some ⟨Bm, 0, none⟩), c 6, .pointer (some ⟨q, 0, none⟩), c 8, c 9, c 10, c 11, c 12, c 13, c 14, c 15, c 16, c 17, c 18, .pointer (some ⟨Bk, 0, none⟩), c 20, c 21, c 22, c 23, c 24, c 25, c 26, c 27, c 28, c 29, c 30, c 31, c 32, c 33, c 34, c 35, c 36, c 37, c 38, c 39, c 40, c 41, c 42, c 43, c 44, c 45, c 46, c 47, c 48, c 49, c 50, c 51, c 52, c 53, c 54, c 55, c 56, c 57, c 58, c 59, c 60, c 61, c 62, c 63, c 64, c 65, c 66, c 67, c 68, c 69, c 70, c 71, c 72, c 73, c 74, c 75, c 76, c 77, c 78, c 79, c 80, c 81, c 82, c 83, c 84, c 85, c 86, c 87, c 88, c 89, c 90, c 91, c 92, c 93, c 94, c 95, c 96, c 97, c 98, c 99, c 100, c 101, c 102, c 103, c 104, c 105, c 106, c 107, c 108, c 109, c 110, c 111, c 112, c 113, c 114, c 115, c 116, c 117, c 118, c 119, c 120, c 121, c 122, c 123, c 124, c 125, c 126, c 127, c 128, c 129, c 130, c 131, c 132, c 133, c 134, c 135, c 136, c 137, c 138, c 139, c 140, c 141, c 142, c 143, c 144, c 145, c 146, c 147, c 148, c 149, c 150, c 151, c 152, c 153, c 154, c 155, c 156, c 157, c 158, c 159, c 160, c 161, c 162, c 163, c 164, c 165, c 166, c 167, c 168, c 169, c 170, c 171, c 172, c 173, c 174, c 175, c 176, c 177, c 178, c 179, c 180, c 181, c 182, c 183, c 184, c 185, c 186, c 187, c 188, c 189, c 190, c 191, c 192, c 193, c 194, c 195, c 196, .func (.func 91) #[] #[.pointer (some ⟨B, 0, none⟩)], c 198, c 199, c 200, c 201, c 202, c 203, c 204, c 205, c 206, c 207, c 208, c 209, c 210, c 211, c 212, c 213, c 214, c 215, c 216, c 217, c 218, c 219, c 220, c 221, c 222, c 223, c 224, c 225, c 226, c 227, c 228, c 229, c 230, c 231, c 232, c 233, c 234, c 235, c 236, c 237, c 238, c 239, c 240, c 241, c 242, c 243, c 244, c 245, c 246, c 247, c 248, c 249, c 250], marks (D :: ds)⟩ W)
    (hx : ∀ (D k : Nat) (W : World), w.heap.size ≤ D → k ≤ es.length → (k : Int) = x.a → Upd (fun k => k = Bk) w W → W.heap[Bk]? = some (.cells #[.int .i64 (k : Nat)] 3) → W.heap[D]? = some (.deferred (some [])) → Q (.exit 3) ⟨#[c 0, c 1, .pointer (some ⟨R, 0, none⟩), c 3, c 4, .pointer (some ⟨Bm, 0, none⟩), c 6, .pointer (some ⟨q, 0, none⟩), c 8, c 9, c 10, c 11, c 12, c 13, c 14, c 15, c 16, c 17, c 18, .pointer (some ⟨Bk, 0, none⟩), c 20, c 21, c 22, c 23, c 24, c 25, c 26, c 27, c 28, c 29, c 30, c 31, c 32, c 33, c 34, c 35, c 36, c 37, c 38, c 39, c 40, c 41, c 42, c 43, c 44, c 45, c 46, c 47, c 48, c 49, c 50, c 51, c 52, c 53, c 54, c 55, c 56, c 57, c 58, c 59, c 60, c 61, c 62, c 63, c 64, c 65, c 66, c 67, c 68, c 69, c 70, c 71, c 72, c 73, c 74, c 75, c 76, c 77, c 78, c 79, c 80, c 81, c 82, c 83, c 84, c 85, c 86, c 87, c 88, c 89, c 90, c 91, c 92, c 93, c 94, c 95, c 96, c 97, c 98, c 99, c 100, c 101, c 102, c 103, c 104, c 105, c 106, c 107, c 108, c 109, c 110, c 111, c 112, c 113, c 114, c 115, c 116, c 117, c 118, c 119, c 120, c 121, c 122, c 123, c 124, c 125, c 126, c 127, c 128, c 129, c 130, c 131, c 132, c 133, c 134, c 135, c 136, c 137, c 138, c 139, c 140, c 141, c 142, c 143, c 144, c 145, c 146, c 147, c 148, c 149, c 150, c 151, c 152, c 153, c 154, c 155, c 156, c 157, c 158, c 159, c 160, c 161, c 162, c 163, c 164, c 165, c 166, c 167, c 168, c 169, c 170, c 171, c 172, c 173, c 174, c 175, c 176, c 177, c 178, c 179, c 180, c 181, c 182, c 183, c 184, c 185, c 186, c 187, c 188, c 189, c 190, c 191, c 192, c 193, c 194, c 195, c 196, .func (.func 91) #[] #[.pointer (some ⟨B, 0, none⟩)], c 198, c 199, c 200, c 201, c 202, c 203, c 204, c 205, c 206, c 207, c 208, c 209, c 210, c 211, c 212, c 213, c 214, c 215, c 216, c 217, c 218, c 219, c 220, c 221, c 222, c 223, c 224, c 225, c 226, c 227, c 228, c 229, c 230, c 231, c 232, c 233, c 234, c 235, c 236, c 237, c 238, c 239, c 240, c 241, c 242, c 243, c 244, c 245, c 246, c 247, c 248, c 249, c 250], marks (D :: ds)⟩ W) :
    Code.wp Try.prog csRf1 Q ⟨#[c 0, c 1, .pointer (some ⟨R, 0, none⟩), c 3, c 4, .pointer (some ⟨Bm, 0, none⟩), c 6, .pointer (some ⟨q, 0, none⟩), c 8, c 9, c 10, c 11, c 12, c 13, c 14, c 15, c 16, c 17, c 18, .pointer (some ⟨Bk, 0, none⟩), c 20, c 21, c 22, c 23, c 24, c 25, c 26, c 27, c 28, c 29, c 30, c 31, c 32, c 33, c 34, c 35, c 36, c 37, c 38, c 39, c 40, c 41, c 42, c 43, c 44, c 45, c 46, c 47, c 48, c 49, c 50, c 51, c 52, c 53, c 54, c 55, c 56, c 57, c 58, c 59, c 60, c 61, c 62, c 63, c 64, c 65, c 66, c 67, c 68, c 69, c 70, c 71, c 72, c 73, c 74, c 75, c 76, c 77, c 78, c 79, c 80, c 81, c 82, c 83, c 84, c 85, c 86, c 87, c 88, c 89, c 90, c 91, c 92, c 93, c 94, c 95, c 96, c 97, c 98, c 99, c 100, c 101, c 102, c 103, c 104, c 105, c 106, c 107, c 108, c 109, c 110, c 111, c 112, c 113, c 114, c 115, c 116, c 117, c 118, c 119, c 120, c 121, c 122, c 123, c 124, c 125, c 126, c 127, c 128, c 129, c 130, c 131, c 132, c 133, c 134, c 135, c 136, c 137, c 138, c 139, c 140, c 141, c 142, c 143, c 144, c 145, c 146, c 147, c 148, c 149, c 150, c 151, c 152, c 153, c 154, c 155, c 156, c 157, c 158, c 159, c 160, c 161, c 162, c 163, c 164, c 165, c 166, c 167, c 168, c 169, c 170, c 171, c 172, c 173, c 174, c 175, c 176, c 177, c 178, c 179, c 180, c 181, c 182, c 183, c 184, c 185, c 186, c 187, c 188, c 189, c 190, c 191, c 192, c 193, c 194, c 195, c 196, .func (.func 91) #[] #[.pointer (some ⟨B, 0, none⟩)], c 198, c 199, c 200, c 201, c 202, c 203, c 204, c 205, c 206, c 207, c 208, c 209, c 210, c 211, c 212, c 213, c 214, c 215, c 216, c 217, c 218, c 219, c 220, c 221, c 222, c 223, c 224, c 225, c 226, c 227, c 228, c 229, c 230, c 231, c 232, c 233, c 234, c 235, c 236, c 237, c 238, c 239, c 240, c 241, c 242, c 243, c 244, c 245, c 246, c 247, c 248, c 249, c 250], marks ds⟩ w := by
  conv => arg 2; whnf
  refine range_law B b' es rfl hB hC rfl (fun pre W => Upd (fun k => k = Bk) w W ∧ W.heap[Bk]? = some (.cells #[.int .i64 (pre.length : Nat)] 3))
    (fun k pre W => (k = .ret ∧ ∀ m, pre ≠ List.range m) ∨ (k = .exit 3 ∧ ((pre.length : Nat) : Int) = x.a ∧ Upd (fun k => k = Bk) w W ∧ W.heap[Bk]? = some (.cells #[.int .i64 (pre.length : Nat)] 3)))
    (OwnFrom.and (own_upd _ w) (own_block w.heap.size (fun pre => (Bk, _, _)))) (fun k => ?ix) ⟨Upd.refl _ _, hbk⟩
    (fun i a' W => ∃ Bx, W.heap[Bx]? = some (.cells #[.int .i64 (atE es i).root, .int .i64 (atE es i).page, .int .i64 (atE es i).dest, .bool (atE es i).may, .bool (atE es i).lf.there, .bool (atE es i).lf.wr, .int .i64 (atE es i).lf.fr] 85) ∧ a' = ⟨#[c 0, c 1, .pointer (some ⟨R, 0, none⟩), c 3, c 4, .pointer (some ⟨Bm, 0, none⟩), c 6, .pointer (some ⟨q, 0, none⟩), c 8, c 9, c 10, c 11, c 12, c 13, c 14, c 15, c 16, c 17, c 18, .pointer (some ⟨Bk, 0, none⟩), .int .i64 i, .pointer (some ⟨Bx, 0, none⟩), c 22, c 23, c 24, c 25, c 26, c 27, c 28, c 29, c 30, c 31, c 32, c 33, c 34, c 35, c 36, c 37, c 38, c 39, c 40, c 41, c 42, c 43, c 44, c 45, c 46, c 47, c 48, c 49, c 50, c 51, c 52, c 53, c 54, c 55, c 56, c 57, c 58, c 59, c 60, c 61, c 62, c 63, c 64, c 65, c 66, c 67, c 68, c 69, c 70, c 71, c 72, c 73, c 74, c 75, c 76, c 77, c 78, c 79, c 80, c 81, c 82, c 83, c 84, c 85, c 86, c 87, c 88, c 89, c 90, c 91, c 92, c 93, c 94, c 95, c 96, c 97, c 98, c 99, c 100, c 101, c 102, c 103, c 104, c 105, c 106, c 107, c 108, c 109, c 110, c 111, c 112, c 113, c 114, c 115, c 116, c 117, c 118, c 119, c 120, c 121, c 122, c 123, c 124, c 125, c 126, c 127, c 128, c 129, c 130, c 131, c 132, c 133, c 134, c 135, c 136, c 137, c 138, c 139, c 140, c 141, c 142, c 143, c 144, c 145, c 146, c 147, c 148, c 149, c 150, c 151, c 152, c 153, c 154, c 155, c 156, c 157, c 158, c 159, c 160, c 161, c 162, c 163, c 164, c 165, c 166, c 167, c 168, c 169, c 170, c 171, c 172, c 173, c 174, c 175, c 176, c 177, c 178, c 179, c 180, c 181, c 182, c 183, c 184, c 185, c 186, c 187, c 188, c 189, c 190, c 191, c 192, c 193, c 194, c 195, c 196, .func (.func 91) #[] #[.pointer (some ⟨B, 0, none⟩)], .int .i64 i, .agg #[.int .i64 (atE es i).root, .int .i64 (atE es i).page, .int .i64 (atE es i).dest, .bool (atE es i).may, .bool (atE es i).lf.there, .bool (atE es i).lf.wr, .int .i64 (atE es i).lf.fr], c 200, c 201, c 202, c 203, c 204, c 205, c 206, c 207, c 208, c 209, c 210, c 211, c 212, c 213, c 214, c 215, c 216, c 217, c 218, c 219, c 220, c 221, c 222, c 223, c 224, c 225, c 226, c 227, c 228, c 229, c 230, c 231, c 232, c 233, c 234, c 235, c 236, c 237, c 238, c 239, c 240, c 241, c 242, c 243, c 244, c 245, c 246, c 247, c 248, c 249, c 250], []⟩)
    (fun i a' => ?ax) (fun _ _ h => h.1.size) ?assign ?body ?done ?stop
  case ix =>
    rintro s X Y row (hs | ⟨e1, e2, e3, e4⟩) hg hr
    · exact Or.inl hs
    · exact Or.inr ⟨e1, e2, own_upd (β := Unit) _ w () X Y row e3 hg hr, own_block (β := Unit) w.heap.size (fun _ => (Bk, _, _)) () X Y row e4 hg hr⟩
  case ax =>
    rintro s X Y row ⟨Bx, hb, rfl⟩ hg hr
    exact ⟨Bx, own_block (β := Unit) w.heap.size (fun _ => (Bx, _, _)) () X Y row hb hg hr, rfl⟩
  case assign =>
    rintro l pre i W K ⟨hi, hi2⟩ hK
    unfold enArgs
    gi_wp2
    exact hK _ _ ((Upd.refl _ _).alloc _) ⟨hi.alloc _, by rw [Below.heap_alloc _ _ _ (Array.getElem?_eq_some_iff.1 hi2).1]; exact hi2⟩ ⟨_, box_new W _ _, rfl⟩
  case body =>
    rintro l pre i a' W ⟨hi, hi2⟩ ⟨Bx, hb, rfl⟩ hn
    have k0 : W.cell? ⟨Bk, 0, none⟩ = some (.int .i64 (pre.length : Nat)) := box_cell hi2 0
    have k1 : W.frozen? ⟨Bk, 0, none⟩ = false := box_frozen hi2 0
    have hle := hC.le
    have HR0 : Hid _ := hi.cell r0 n1
    have HRZ : Hid (W.frozen? ⟨R, 0, none⟩ = false) := by show _ = _; rw [hi.frozen r0 n1]; exact rz
    have z2 := hi.cell y2 n3
    have hpm : W.heap[Bm]? = _ := (hi.block Bm (Array.getElem?_eq_some_iff.1 pm).1 n2).trans pm
    have m0 : W.cell? ⟨Bm, 0, none⟩ = some vm := box_cell hpm 0
    obtain ⟨va, vcap, rfl, hform⟩ := sm.form
    have HI : Hid _ := hi
    have HI2 : Hid _ := hi2
    have HB : Hid _ := hb
    have hltB : B < W.heap.size := Nat.lt_of_lt_of_le (World.block_lt_of_cell? w _ hB) hi.size
    have hltb : b' < W.heap.size := Nat.lt_of_lt_of_le hC.lt hi.size
    have HF : Hid _ := hform
    have HN6 : Hid _ := n6
    clear hi hi2 hb hm hx hbk r0 rz hB hC pm hpm sm y2 hform n6
    by_cases hx : i = pre.length
    · subst hx
      generalize hlen : pre.length = i at *
      have HL : Hid _ := hlen
      clear hlen
      obtain ⟨g, rfl, _, hglt, hcell⟩ := HF.out i hn
      have hng : g ≠ Bk := HN6.out g rfl
      have hrg : W.rangeAt g (i * 7) (enCells (atE es i)) := by
        intro j v hj
        have hj7 : j < 7 := (List.getElem?_eq_some_iff.1 hj).1
        exact HI.out.cell ((hcell j hj7).trans hj) hng
      have hrx : W.rangeAt Bx 0 (enCells (atE es i)) := by
        intro j v hj
        rw [Nat.zero_add, box_cell HB.out j, ← hj]
        show (enCells (atE es i)).toArray[j]? = _
        simp
      have i0 : (0 : Int) ≤ (i : Int) := by omega
      have i1 : (i : Int) < es.length := by omega
      have dd : decide (((es.length : Nat) : Int) ≤ (i : Int)) = false := by simp; omega
      have dn : decide (es.length ≤ i) = false := by simp; omega
      have dm : ¬ es.length ≤ i := by omega
      clear hcell HF
      generalize atE es i = y at *
      have hne : ((i : Int) != (i : Int)) = false := by simp
      gi_wp2_with fail
      refine region_quiet_round (by kernel_rfl) (by kernel_rfl) (by kernel_rfl) ?_
      repeat (first
        | (gi_big_quiet_want; refine quietIn_entry' _ (by rfl) Bx 0 (by rfl) y (by rintro _ ⟨n, rfl⟩; exact hrx) ?_; simp only [Act.put, List.setIfInBounds_toArray, List.set_cons_zero, List.set_cons_succ]; go_big_quiet_on)
        | (gi_big_quiet_want; refine quietIn_entry' _ (by rfl) g (i * 7) (by rfl) y (by rintro _ ⟨n, rfl⟩; exact hrg) ?_; simp only [Act.put, List.setIfInBounds_toArray, List.set_cons_zero, List.set_cons_succ]; go_big_quiet_on)
        | gi_big_quiet_step (fail))
      refine wpQuietIn_nil ?_
      rintro _ ⟨nq, rfl⟩
      have hu1 := (Upd.refl (fun _ => False) W).drewN nq
      have hB1 : (W.drewN nq).heap[Bk]? = some (.cells #[.int .i64 (i : Nat)] 3) := HI2.out
      have j0 : (W.drewN nq).cell? ⟨Bk, 0, none⟩ = some (.int .i64 (i : Nat)) := k0
      have j1 : (W.drewN nq).frozen? ⟨Bk, 0, none⟩ = false := k1
      have z3 : (W.drewN nq).cell? ⟨q, 2, none⟩ = some (.int .i64 x.a) := z2
      have HU1 : Hid _ := hu1
      have HB1 : Hid _ := hB1
      clear hu1 hB1 k0 k1 z2 m0 hrg hrx
      revert HU1 HB1 j0 j1 z3
      generalize W.drewN nq = W1
      intro j0 j1 z3 HU1 HB1
      have hU2 := Upd.one W1 Bk 0 (.int .i64 ((i : Nat) + 1))
      have z4 := hU2.cell z3 n3
      have j2 : (W1.setCell ⟨Bk, 0, none⟩ (.int .i64 ((i : Nat) + 1))).cell? ⟨Bk, 0, none⟩ = some (.int .i64 ((i : Nat) + 1)) := World.cell?_setCell_same _ _ _ j0
      have HU2 : Hid _ := hU2
      clear hU2
      have fin : Hid (KeepsFrom w.heap.size W (W1.setCell ⟨Bk, 0, none⟩ (.int .i64 ((i : Nat) + 1))) ∧ KpT b' B W (W1.setCell ⟨Bk, 0, none⟩ (.int .i64 ((i : Nat) + 1))) ∧ Upd (fun k => k = Bk) w (W1.setCell ⟨Bk, 0, none⟩ (.int .i64 ((i : Nat) + 1))) ∧ (W1.setCell ⟨Bk, 0, none⟩ (.int .i64 ((i : Nat) + 1))).heap[Bk]? = some (.cells #[.int .i64 (((pre ++ [i]).length : Nat) : Int)] 3)) := by
        refine ⟨(keeps_of_upd HU1.out).trans (keeps_of_box HU2.out HB1.out), (KpT.upd HU1.out hltb hltB (fun f => f) (fun f => f)).trans (KpT.upd HU2.out (Nat.lt_of_lt_of_le hltb HU1.out.size) (Nat.lt_of_lt_of_le hltB HU1.out.size) n4 n5), HI.out.trans (HU1.out.free.trans HU2.out (fun _ _ e => e)) (fun _ _ e => e), ?_⟩
        have := Boxed.set (.int .i64 ((i : Nat) + 1)) HB1.out
        rw [List.length_append, HL.out]
        exact this
      cases hq : (((i : Nat) : Int) + 1 == x.a) with
      | true =>
        gi_wp2_with fail
        have hqq : ((i : Nat) : Int) + 1 = x.a := by simpa using hq
        exact ⟨fin.out.1, Or.inr ⟨rfl, by rw [List.length_append, HL.out]; exact hqq, fin.out.2.2⟩⟩
      | false =>
        gi_wp2_with fail
        exact ⟨fin.out.1, fin.out.2.1, fin.out.2.2⟩
    · have hx2 : ((i : Int) != (pre.length : Int)) = true := by simp; omega
      have HX : Hid _ := hx
      clear hx HF
      gi_wp2_with fail
      refine region_quiet_round (by kernel_rfl) (by kernel_rfl) (by kernel_rfl) ?_
      repeat (gi_big_quiet_step (fail))
      refine wpQuietIn_nil ?_
      rintro _ ⟨nq, rfl⟩
      have q0 : (W.drewN nq).cell? ⟨R, 0, none⟩ = some (.bool rv) := HR0.out
      have q1 : (W.drewN nq).frozen? ⟨R, 0, none⟩ = false := HRZ.out
      have HU1 : Hid _ := (Upd.refl (fun _ => False) W).drewN nq
      clear k0 k1 z2 m0
      gi_wp2_with fail
      exact ⟨(keeps_of_upd HU1.out).trans ((KeepsOthers.setCell _ _ _).from _), Or.inl ⟨rfl, fun m => not_range HX.out⟩⟩
  case done =>
    intro D W hD hi hd
    exact hm D W hD hi.1 (by have := hi.2; rwa [List.length_range] at this) hd
  case stop =>
    rintro D k n W hD hn (⟨rfl, he⟩ | ⟨rfl, e2, e3, e4⟩) hd
    · exact absurd rfl (he n)
    · rw [List.length_range] at e2 e4
      have HX : Hid _ := hx D n W hD hn e2 e3 e4 hd
      clear hm hx
      go_wp2_with fail
      exact HX.out
end Go.Proofs.Ytadpibcgjgcjhaa
/- undercroftlaw.CacheSays: the loop that gathers. -/
namespace Go.Proofs.Ytadpibcgjgcjhaa
open Go.ChangeShapes Go.WideShapes Go.ChangeAt Go.RowKit Go.Shelf
set_option maxRecDepth 1000000
attribute [local go_sem] Oper.semAt_some

theorem SlC.grownS {S : Nat → Prop} {w wr w2 : World} {v : Value} {es : List En} {x : En} {g cap : Nat} (hu : Upd S w wr) (hS : SlC wr w.heap.size v es) (o : Obj)
    (hown : w2.ownsRow w.heap.size 85 7 (.slice (some ⟨g, 0, none⟩) (es.length + 1) cap) (es.length + 1) (enAll es ++ enCells x)) (hgrow : (wr.alloc o).grownBy w2 v.ownBlock) :
    SlC w2 w.heap.size (.slice (some ⟨g, 0, none⟩) (es.length + 1) cap) (es ++ [x]) ∧ Upd S w w2 ∧ (∀ k, k < w.heap.size → w2.heap[k]? = wr.heap[k]?) ∧ KeepsOthers wr w2 := by
  have hz := hu.size
  have hb : ∀ k, k < w.heap.size → w2.heap[k]? = wr.heap[k]? := fun k hk => by
    rw [hgrow.block k (by simp only [World.size_alloc]; omega) (by
      intro e
      have := World.ownsRow.lt hS k e.symm
      omega), Below.heap_alloc _ _ _ (by omega)]
  refine ⟨?_, ⟨hgrow.os.trans hu.os, hgrow.tape.trans hu.tape, hgrow.output.trans hu.output, ?_, fun k hk hn => (hb k hk).trans (hu.block k hk hn)⟩, hb, ?_⟩
  · unfold SlC
    rw [enAll_append, List.length_append]
    simpa [enAll] using hown
  · have := hgrow.size
    simp only [World.size_alloc] at this
    omega
  · refine (KeepsOthers.alloc wr o).trans (KeepsOthers.of_grownBy hgrow fun j o' ej hj => ?_)
    rcases (World.ownsRow.alloc hS o).2 with ⟨rfl, _⟩ | ⟨g', cap', cur, rfl, _, hgb, _⟩
    · simp [Value.ownBlock] at ej
    · obtain rfl : g' = j := by simpa [Value.ownBlock] using ej
      rw [hgb] at hj; cases hj; rfl
set_option maxHeartbeats 40000000 in
theorem cs_rf2 (c : Nat → Value) (ds : List Nat) (w : World) (B b' Bo : Nat) (es : List En) (hB : w.cell? ⟨B, 0, none⟩ = some (.pointer (some ⟨b', 0, none⟩))) (hC : CaL w b' es)
    (hbo : w.heap[Bo]? = some (.cells #[.slice none 0 0] 89)) (n1 : b' ≠ Bo) (n2 : B ≠ Bo) {Q : Exit → Act → World → Prop}
    (hm : ∀ (D : Nat) (W : World) (v : Value), w.heap.size ≤ D → Upd (fun k => k = Bo) w W → W.heap[Bo]? = some (.cells #[v] 89) → SlC W w.heap.size v es → W.heap[D]? = some (.deferred (some [])) → Q .normal ⟨#[c 0, c 1, c 2, c 3, c 4, c 5, c 6, c 7, c 8, c 9, c 10, c 11, c 12, c 13, c 14, c 15, c 16, c 17, c 18, c 19, c 20, c 21, c 22, c 23, .pointer (some ⟨Bo, 0, none⟩), c 25, c 26, c 27, c 28, c 29, c 30, c 31, c 32, c 33, c 34, c 35, c 36, c 37, c 38, c 39, c 40, c 41, c 42, c 43, c 44, c 45, c 46, c 47, c 48, c 49, c 50, c 51, c 52, c 53, c 54, c 55, c 56, c 57, c 58, c 59, c 60, c 61, c 62, c 63, c 64, c 65, c 66, c 67, c 68, c 69, c 70, c 71, c 72, c 73, c 74, c 75, c 76, c 77, c 78, c 79, c 80, c 81, c 82, c 83, c 84, c 85, c 86, c 87, c 88, c 89, c 90, c 91, c 92, c 93, c 94, c 95, c 96, c 97, c 98, c 99, c 100, c 101, c 102, c 103, c 104, c 105, c 106, c 107, c 108, c 109, c 110, c 111, c 112, c 113, c 114, c 115, c 116, c 117, c 118, c 119, c 120, c 121, c 122, c 123, c 124, c 125, c 126, c 127, c 128, c 129, c 130, c 131, c 132, c 133, c 134, c 135, c 136, c 137, c 138, c 139, c 140, c 141, c 142, c 143, c 144, c 145, c 146, c 147, c 148, c 149, c 150, c 151, c 152, c 153, c 154, c 155, c 156, c 157, c 158, c 159, c 160, c 161, c 162, c 163, c 164, c 165, c 166, c 167, c 168, c 169, c 170, c 171, c 172, c 173, c 174, c 175, c 176, c 177, c 178, c 179, c 180, c 181, c 182, c 183, c 184, c 185, c 186, c 187, c 188, c 189, c 190, c 191, c 192, c 193, c 194, c 195, c 196, c 197, c 198, c 199, c 200, c 201, c 202, c 203, c 204, c 205, c 206, c 207, c 208, c 209, c 210, c 211, c 212, c 213, c 214, c 215, c 216, c 217, c 218, c 219, c 220, c 221, c 222, c 223, c 224, c 225, c 226, c 227, c 228, c 229, c 230, c 231, c 232, c 233, c 234, c 235, c 236, c 237, c 238, c 239, c 240, .func (.func 91) #[] #[.pointer (some ⟨B, 0, none⟩)], c 242, c 243, c 244, c 245, c 246, c 247, c 248, c 249, c 250], marks (D :: ds)⟩ W) :
    Code.wp Try.prog csRf2 Q ⟨#[c 0, c 1, c 2, c 3, c 4, c 5, c 6, c 7, c 8, c 9, c 10, c 11, c 12, c 13, c 14, c 15, c 16, c 17, c 18, c 19, c 20, c 21, c 22, c 23, .pointer (some ⟨Bo, 0, none⟩), c 25, c 26, c 27, c 28, c 29, c 30, c 31, c 32, c 33, c 34, c 35, c 36, c 37, c 38, c 39, c 40, c 41, c 42, c 43, c 44, c 45, c 46, c 47, c 48, c 49, c 50, c 51, c 52, c 53, c 54, c 55, c 56, c 57, c 58, c 59, c 60, c 61, c 62, c 63, c 64, c 65, c 66, c 67, c 68, c 69, c 70, c 71, c 72, c 73, c 74, c 75, c 76, c 77, c 78, c 79, c 80, c 81, c 82, c 83, c 84, c 85, c 86, c 87, c 88, c 89, c 90, c 91, c 92, c 93, c 94, c 95, c 96, c 97, c 98, c 99, c 100, c 101, c 102, c 103, c 104, c 105, c 106, c 107, c 108, c 109, c 110, c 111, c 112, c 113, c 114, c 115, c 116, c 117, c 118, c 119, c 120, c 121, c 122, c 123, c 124, c 125, c 126, c 127, c 128, c 129, c 130, c 131, c 132, c 133, c 134, c 135, c 136, c 137, c 138, c 139, c 140, c 141, c 142, c 143, c 144, c 145, c 146, c 147, c 148, c 149, c 150, c 151, c 152, c 153, c 154, c 155, c 156, c 157, c 158, c 159, c 160, c 161, c 162, c 163, c 164, c 165, c 166, c 167, c 168, c 169, c 170, c 171, c 172, c 173, c 174, c 175, c 176, c 177, c 178, c 179, c 180, c 181, c 182, c 183, c 184, c 185, c 186, c 187, c 188, c 189, c 190, c 191, c 192, c 193, c 194, c 195, c 196, c 197, c 198, c 199, c 200, c 201, c 202, c 203, c 204, c 205, c 206, c 207, c 208, c 209, c 210, c 211, c 212, c 213, c 214, c 215, c 216, c 217, c 218, c 219, c 220, c 221, c 222, c 223, c 224, c 225, c 226, c 227, c 228, c 229, c 230, c 231, c 232, c 233, c 234, c 235, c 236, c 237, c 238, c 239, c 240, .func (.func 91) #[] #[.pointer (some ⟨B, 0, none⟩)], c 242, c 243, c 244, c 245, c 246, c 247, c 248, c 249, c 250], marks ds⟩ w := by
  have hle := hC.le
  have hltB : B < w.heap.size := World.block_lt_of_cell? w _ hB
  have hltb : b' < w.heap.size := hC.lt
  have hlto : Bo < w.heap.size := (Array.getElem?_eq_some_iff.1 hbo).1
  conv => arg 2; whnf
  refine range_law B b' es rfl hB hC rfl (fun pre W => (∃ v, Boxed W Bo 89 v ∧ W.ownsRow w.heap.size 85 7 v (pre.map (atE es)).length (enAll (pre.map (atE es))) ∧ True) ∧ Upd (fun k => k = Bo) w W)
    (fun _ _ _ => False)
    (OwnFrom.and (Own.from (holdsRow_own w.heap.size Bo 89 85 7 (fun pre : List Nat => (pre.map (atE es)).length) (fun pre : List Nat => enAll (pre.map (atE es))) (fun _ _ => True)) _) (own_upd _ w)) (fun _ _ _ _ _ hs _ _ => hs) ⟨⟨_, hbo, SlC.nil _ _, trivial⟩, Upd.refl _ _⟩
    (fun i a' W => ∃ Bx, W.heap[Bx]? = some (.cells #[.int .i64 (atE es i).root, .int .i64 (atE es i).page, .int .i64 (atE es i).dest, .bool (atE es i).may, .bool (atE es i).lf.there, .bool (atE es i).lf.wr, .int .i64 (atE es i).lf.fr] 85) ∧ a' = ⟨#[c 0, c 1, c 2, c 3, c 4, c 5, c 6, c 7, c 8, c 9, c 10, c 11, c 12, c 13, c 14, c 15, c 16, c 17, c 18, c 19, c 20, c 21, c 22, c 23, .pointer (some ⟨Bo, 0, none⟩), c 25, .pointer (some ⟨Bx, 0, none⟩), c 27, c 28, c 29, c 30, c 31, c 32, c 33, c 34, c 35, c 36, c 37, c 38, c 39, c 40, c 41, c 42, c 43, c 44, c 45, c 46, c 47, c 48, c 49, c 50, c 51, c 52, c 53, c 54, c 55, c 56, c 57, c 58, c 59, c 60, c 61, c 62, c 63, c 64, c 65, c 66, c 67, c 68, c 69, c 70, c 71, c 72, c 73, c 74, c 75, c 76, c 77, c 78, c 79, c 80, c 81, c 82, c 83, c 84, c 85, c 86, c 87, c 88, c 89, c 90, c 91, c 92, c 93, c 94, c 95, c 96, c 97, c 98, c 99, c 100, c 101, c 102, c 103, c 104, c 105, c 106, c 107, c 108, c 109, c 110, c 111, c 112, c 113, c 114, c 115, c 116, c 117, c 118, c 119, c 120, c 121, c 122, c 123, c 124, c 125, c 126, c 127, c 128, c 129, c 130, c 131, c 132, c 133, c 134, c 135, c 136, c 137, c 138, c 139, c 140, c 141, c 142, c 143, c 144, c 145, c 146, c 147, c 148, c 149, c 150, c 151, c 152, c 153, c 154, c 155, c 156, c 157, c 158, c 159, c 160, c 161, c 162, c 163, c 164, c 165, c 166, c 167, c 168, c 169, c 170, c 171, c 172, c 173, c 174, c 175, c 176, c 177, c 178, c 179, c 180, c 181, c 182, c 183, c 184, c 185, c 186, c 187, c 188, c 189, c 190, c 191, c 192, c 193, c 194, c 195, c 196, c 197, c 198, c 199, c 200, c 201, c 202, c 203, c 204, c 205, c 206, c 207, c 208, c 209, c 210, c 211, c 212, c 213, c 214, c 215, c 216, c 217, c 218, c 219, c 220, c 221, c 222, c 223, c 224, c 225, c 226, c 227, c 228, c 229, c 230, c 231, c 232, c 233, c 234, c 235, c 236, c 237, c 238, c 239, c 240, .func (.func 91) #[] #[.pointer (some ⟨B, 0, none⟩)], .int .i64 i, .agg #[.int .i64 (atE es i).root, .int .i64 (atE es i).page, .int .i64 (atE es i).dest, .bool (atE es i).may, .bool (atE es i).lf.there, .bool (atE es i).lf.wr, .int .i64 (atE es i).lf.fr], c 244, c 245, c 246, c 247, c 248, c 249, c 250], []⟩)
    (fun i a' => ?ax) (fun _ _ h => h.2.size) ?assign ?body ?done ?stop
  case ax =>
    rintro s X Y row ⟨Bx, hb, rfl⟩ hg hr
    exact ⟨Bx, own_block (β := Unit) w.heap.size (fun _ => (Bx, _, _)) () X Y row hb hg hr, rfl⟩
  case assign =>
    rintro l pre i W K ⟨⟨v, hv, hr, _⟩, hi⟩ hK
    unfold enArgs
    gi_wp2
    exact hK _ _ ((Upd.refl _ _).alloc _) ⟨⟨v, hv.alloc _, World.ownsRow.alloc hr _, trivial⟩, hi.alloc _⟩ ⟨_, box_new W _ _, rfl⟩
  case body =>
    rintro l pre i a' W ⟨⟨v, hv, hr, _⟩, hi⟩ ⟨Bx, hb, rfl⟩ hn
    have v0 := hv.cell
    have x0 : W.cell? ⟨Bx, 0, none⟩ = some (.int .i64 (atE es i).root) := box_cell hb 0
    have x1 : W.cell? ⟨Bx, 1, none⟩ = some (.int .i64 (atE es i).page) := box_cell hb 1
    have x2 : W.cell? ⟨Bx, 2, none⟩ = some (.int .i64 (atE es i).dest) := box_cell hb 2
    have x3 : W.cell? ⟨Bx, 3, none⟩ = some (.bool (atE es i).may) := box_cell hb 3
    have x4 : W.cell? ⟨Bx, 4, none⟩ = some (.bool (atE es i).lf.there) := box_cell hb 4
    have x5 : W.cell? ⟨Bx, 5, none⟩ = some (.bool (atE es i).lf.wr) := box_cell hb 5
    have x6 : W.cell? ⟨Bx, 6, none⟩ = some (.int .i64 (atE es i).lf.fr) := box_cell hb 6
    have hmap : (pre ++ [i]).map (atE es) = pre.map (atE es) ++ [atE es i] := by simp
    have HMAP : Hid _ := hmap
    have hpl : (pre.map (atE es)).length = pre.length := by simp
    have hpl4 : (pre.map (atE es)).length ≤ 4 := by omega
    have HV : Hid (Boxed W Bo 89 v) := hv
    have HI : Hid _ := hi
    have HR : Hid (SlC W w.heap.size v (pre.map (atE es))) := hr
    clear hb hm hbo hmap hpl hB hC hv hi hr
    generalize atE es i = x at *
    generalize pre.map (atE es) = fs at *
    obtain ⟨i0, hi0, he⟩ := Option.map_eq_some_iff.1 infoEn
    simp only [Prod.mk.injEq] at he
    obtain ⟨he1, he2, he3⟩ := he
    have HE1 : Hid _ := he1
    have HE2 : Hid _ := he2
    have HE3 : Hid _ := he3
    have HI0 : Hid _ := hi0
    have HN : Hid (∀ j u, (enCells x)[j]? = some u → (W.alloc (.cells #[.int .i64 x.root, .int .i64 x.page, .int .i64 x.dest, .bool x.may, .bool x.lf.there, .bool x.lf.wr, .int .i64 x.lf.fr] 85)).cell? ((⟨W.heap.size, 0, none⟩ : Addr).add j) = some u) := by
      show ∀ j u, _ → _
      intro j u hj
      rw [Addr.add_mid, Nat.zero_add, World.cell?_alloc_new, ← hj]
      show (enCells x).toArray[j]? = _
      simp
    have HO : Hid _ := World.ownsRow.alloc HR.out (.cells #[.int .i64 x.root, .int .i64 x.page, .int .i64 x.dest, .bool x.may, .bool x.lf.there, .bool x.lf.wr, .int .i64 x.lf.fr] 85)
    have HZ : Hid (w.heap.size ≤ (W.alloc (.cells #[.int .i64 x.root, .int .i64 x.page, .int .i64 x.dest, .bool x.may, .bool x.lf.there, .bool x.lf.wr, .int .i64 x.lf.fr] 85)).heap.size) := show _ ≤ _ by have := HI.out.size; simp only [World.size_alloc]; omega
    have H1 : Hid (∀ u ∈ enCells x, u.oneCell' = true) := show ∀ u ∈ enCells x, _ from fun u hu' => enAll_one [x] u (by simpa [enAll] using hu')
    clear he1 he2 he3 hi0
    gi_wp2_with (gi_at_builtin; refine wpListIn_append_own _ (by rfl) _ _ 89 (by rfl) w.heap.size 85 i0 (.agg zeroEn) 7 48 Try.underlying89 HI0.out HE3.out HE1.out HE2.out (by rfl) (by omega) v fs.length (enAll fs) (by rfl) HO.out ⟨W.heap.size, 0, none⟩ 1 1 (enCells x) (by rfl) (by rfl) HN.out H1.out (by unfold maxLen; omega) (by omega) HZ.out ?_; intro v' w1 hown' hgrow _; obtain ⟨g', cap', rfl⟩ := ownsRow_succ hown'; have hv1 := (HV.out.alloc (.cells #[.int .i64 x.root, .int .i64 x.page, .int .i64 x.dest, .bool x.may, .bool x.lf.there, .bool x.lf.wr, .int .i64 x.lf.fr] 85)).kept hgrow (HV.out.not_row (by decide) HR.out); have hc1 := hv1.cell; have hf1 := hv1.frozen)
    obtain ⟨hS2, hU2, hb2, hK2⟩ := SlC.grownS HI.out HR.out _ hown' hgrow
    have hv2 := hv1.set (.slice (some ⟨g', 0, none⟩) (fs.length + 1) cap')
    have hU3 := Upd.one w1 Bo 0 (.slice (some ⟨g', 0, none⟩) (fs.length + 1) cap')
    refine ⟨(hK2.trans (KeepsOthers.setCell _ _ _)).from _, ⟨(hU3.block b' (by have := hU2.size; omega) n1).trans (hb2 b' hltb), (hU3.block B (by have := hU2.size; omega) n2).trans (hb2 B hltB)⟩, ⟨_, hv2, ?_, trivial⟩, hU2.trans hU3 (fun _ _ e => e)⟩
    rw [HMAP.out]
    exact hS2.upd hU3 (fun k hk e => by
      have := (hS2.own_lt hk).1
      omega)
  case done =>
    rintro D W hD ⟨⟨v, hv, hr, _⟩, hi⟩ hd
    rw [range_eq (atE es) es (fun _ _ => rfl)] at hr
    exact hm D W v hD hi hv hr hd
  case stop =>
    intro D k n W hD hn h hd
    exact h.elim
end Go.Proofs.Ytadpibcgjgcjhaa
/- The walk of undercrofttop.TopCache. -/
namespace Go.Proofs.Ytadpibcgjgcjhaa
open Go.ChangeShapes Go.WideShapes Go.ChangeAt Go.RowKit Go.Shelf
set_option maxRecDepth 1000000
attribute [local go_sem ↓] Go.wp_at_zero Go.wp_at_succ

theorem mark_ne {w : World} {D b o : Nat} {v : Value} {x : Option (List Deferred)} (hD : w.heap[D]? = some (.deferred x)) (hc : w.cell? ⟨b, o, none⟩ = some v) : D ≠ b := by
  intro e
  subst e
  simp [World.cell?, hD] at hc
/-- What holds in each round of TopCache. -/
structure TcS (W w : World) (R Bc bc : Nat) (es : List En) (ds : List Nat) : Prop where
  ca : CaL w bc es
  pc : w.cell? ⟨Bc, 0, none⟩ = some (.pointer (some ⟨bc, 0, none⟩))
  r0 : ∃ rv, w.cell? ⟨R, 0, none⟩ = some (.bool rv)
  rz : w.frozen? ⟨R, 0, none⟩ = false
  up : Upd (fun _ => False) W w
  ms : Marks W.heap.size w ds
  di : Dist es
  g0 : W.heap.size ≤ R
  g1 : R < bc
  g2 : bc < Bc
theorem TcS.same {W w w' : World} {R Bc bc : Nat} {es : List En} {ds : List Nat} (h : TcS W w R Bc bc es ds) (u : Upd (fun _ => False) w w') : TcS W w' R Bc bc es ds where
  ca := h.ca.upd u (fun f => f)
  pc := u.cell h.pc (fun f => f)
  r0 := by obtain ⟨rv, hr⟩ := h.r0; exact ⟨rv, u.cell hr (fun f => f)⟩
  rz := by obtain ⟨rv, hr⟩ := h.r0; rw [u.frozen hr (fun f => f)]; exact h.rz
  up := h.up.trans u (fun _ _ f => f)
  ms := h.ms.upd u (fun _ _ f => f)
  di := h.di
  g0 := h.g0
  g1 := h.g1
  g2 := h.g2
theorem TcS.call {W w w' : World} {R Bc bc : Nat} {es es' : List En} {ds : List Nat} (h : TcS W w R Bc bc es ds) (u : Upd (fun k => k = bc) w w') (hc : CaL w' bc es') (hd : Dist es') : TcS W w' R Bc bc es' ds where
  ca := hc
  pc := u.cell h.pc (by have := h.g2; simp only; omega)
  r0 := by obtain ⟨rv, hr⟩ := h.r0; exact ⟨rv, u.cell hr (by have := h.g1; simp only; omega)⟩
  rz := by obtain ⟨rv, hr⟩ := h.r0; rw [u.frozen hr (by have := h.g1; simp only; omega)]; exact h.rz
  up := h.up.trans u (fun i hi e => by have := h.g0; have := h.g1; omega)
  ms := h.ms.upd u (fun D hD e => by
    obtain ⟨c, h1, _⟩ := h.ca
    exact mark_ne (h.ms.2 D hD).2.2 h1.cnt e)
  di := hd
  g0 := h.g0
  g1 := h.g1
  g2 := h.g2
theorem TcS.mark {W w w' : World} {R Bc bc D : Nat} {es : List En} {ds : List Nat} (h : TcS W w R Bc bc es ds) {S : Nat → Prop} (u : Upd S w w') (hS : ∀ k, S k → Bc < k) (hS2 : ∀ k, S k → ∃ v, w.cell? ⟨k, 0, none⟩ = some v) (hD : w.heap.size ≤ D) (hd : w'.heap[D]? = some (.deferred (some []))) : TcS W w' R Bc bc es (D :: ds) where
  ca := h.ca.upd u (fun e => by have := hS _ e; have := h.g2; omega)
  pc := u.cell h.pc (fun e => by have := hS _ e; simp only at this; omega)
  r0 := by obtain ⟨rv, hr⟩ := h.r0; exact ⟨rv, u.cell hr (fun e => by have := hS _ e; have := h.g1; have := h.g2; simp only at *; omega)⟩
  rz := by obtain ⟨rv, hr⟩ := h.r0; rw [u.frozen hr (fun e => by have := hS _ e; have := h.g1; have := h.g2; simp only at *; omega)]; exact h.rz
  up := h.up.trans u (fun i hi e => by have := hS _ e; have := h.g0; have := h.g1; have := h.g2; omega)
  ms := (h.ms.upd u (fun E hE e => by
    obtain ⟨v, hv⟩ := hS2 E e
    exact mark_ne (h.ms.2 E hE).2.2 hv rfl)).cons (Nat.le_trans h.up.size hD) hd (fun hE => by have := (h.ms.2 D hE).2.1; omega)
  di := h.di
  g0 := h.g0
  g1 := h.g1
  g2 := h.g2
/-- The frame, by a function. -/
def tcI (W : World) (R Bc bc len : Nat) (sl : Value) (k : Nat) (a : Act) (w : World) : Prop :=
  ∃ (c : Nat → Value) (es : List En) (ds : List Nat) (i : Nat), i + k = len ∧ c 0 = sl ∧ c 2 = .pointer (some ⟨R, 0, none⟩) ∧ c 6 = .pointer (some ⟨Bc, 0, none⟩) ∧ c 7 = .int .i64 i ∧ TcS W w R Bc bc es ds ∧ a = ⟨((List.range 142).map c).toArray, marks ds⟩
theorem tcI_intro {W : World} {R Bc bc len : Nat} {sl : Value} {k i : Nat} {l : List Value} {w : World} {es : List En} {ds : List Nat} (hl : l.length = 142) (hk : i + k = len) (h0 : l.getD 0 undef = sl) (h2 : l.getD 2 undef = .pointer (some ⟨R, 0, none⟩)) (h6 : l.getD 6 undef = .pointer (some ⟨Bc, 0, none⟩)) (h7 : l.getD 7 undef = .int .i64 i) (hS : TcS W w R Bc bc es ds) :
    tcI W R Bc bc len sl k ⟨l.toArray, marks ds⟩ w := ⟨fun j => l.getD j undef, es, ds, i, hk, h0, h2, h6, h7, hS, by rw [frame_fn l, hl]⟩
theorem tc_leaves {fn : Func} {tmps : Array Value} {P : Ending → World → Prop} {W w : World} {R Bc bc : Nat} {es : List En} {ds : List Nat} (h : TcS W w R Bc bc es ds) (hv : w.cell? ⟨R, 0, none⟩ = some (.bool true))
    (hm : ∀ w', w'.cell? ⟨R, 0, none⟩ = some (.bool true) → Upd (fun _ => False) W w' → LeavesIn Fence.wide 8 Try.prog fn tmps P [] .returning w') : LeavesInM Fence.wide 8 Try.prog fn tmps P (marks ds) .returning w := by
  refine leaves_marks ds w h.ms (fun w' ht => hm w' ?_ ?_)
  · rw [World.cell?_of_block (w := w) (ht.block R (fun hR => mark_ne (h.ms.2 R hR).2.2 hv rfl))]
    exact hv
  · exact h.up.trans (ht.upd (fun D hD => (h.ms.2 D hD).1)) (fun i hi e => by omega)
/-- What the switch must come to. -/
def tcPost (W : World) (R Bc bc : Nat) (sl : Value) (i : Nat) (Q : Exit → Act → World → Prop) : Prop :=
  ∀ (c' : Nat → Value) (es' : List En) (ds' : List Nat) (w' : World), c' 0 = sl → c' 2 = .pointer (some ⟨R, 0, none⟩) → c' 6 = .pointer (some ⟨Bc, 0, none⟩) → c' 7 = .int .i64 i → TcS W w' R Bc bc es' ds' → Q .normal ⟨((List.range 142).map c').toArray, marks ds'⟩ w'
theorem tcPost.use {W : World} {R Bc bc : Nat} {sl : Value} {i : Nat} {Q : Exit → Act → World → Prop} (h : tcPost W R Bc bc sl i Q) {l : List Value} {es : List En} {ds : List Nat} {w : World} (hl : l.length = 142) (h0 : l.getD 0 undef = sl) (h2 : l.getD 2 undef = .pointer (some ⟨R, 0, none⟩)) (h6 : l.getD 6 undef = .pointer (some ⟨Bc, 0, none⟩)) (h7 : l.getD 7 undef = .int .i64 i) (hS : TcS W w R Bc bc es ds) : Q .normal ⟨l.toArray, marks ds⟩ w := by
  have := h (fun j => l.getD j undef) es ds w h0 h2 h6 h7 hS
  rw [frame_fn l, hl]
  exact this
noncomputable def tcSw : Code := (Try.f8.body.bind (blkAt 2)).getD .skip
end Go.Proofs.Ytadpibcgjgcjhaa
