/- The document's host: Guests, NewHost; two lists of numbers. -/
import Derived.Test.YtadpibcgjgcjhabGreatDoorHrI
import Derived.Test.YtadpibcgjgcjhabGreatDoorHrE
import Derived.Test.YtadpibcgjgcjhabGreatDoorHpQ
namespace Go.Proofs.YtadpibcgjgcjhabGreatDoor
open Go.ChangeShapes Go.WideShapes Go.ChangeAt Go.RowKit
set_option maxRecDepth 100000
attribute [local go_sem ↓] Go.wp_at_zero Go.wp_at_succ
variable {w w' : World} {bh bm base : Nat} {bx : Nat → Nat} {v : Nat → Value} {h : Hs} {x : Gs} {W : Int}

set_option maxHeartbeats 2000000 in
theorem rGuests_any (r : RHo w bh bm base bx v h) : Calls Tryz.prog 21 #[.pointer (some ⟨bh, 0, none⟩)] w fun e w' => ∃ v, e = .returned v ∧ SlN w' w.heap.size v (hNums h 4) ∧ Upd (fun _ => False) w w' := by
  have HR : Hid (RHo w bh bm base bx v h) := r
  clear r
  go_enter Tryz.func21, Tryz.ntmps21
  go_wp2_with fail
  go_loopg [3, 4] 4 (fun g l i wr => ∃ k : Nat, k + g = 4 ∧ i = .int .i64 k ∧ Hid (SlN wr w.heap.size l (hNums h k)) ∧ Hid (Upd (fun _ => False) w wr))
  case atStart => exact ⟨0, by omega, rfl, SlN.nil _ _, Upd.refl _ _⟩
  case round =>
    obtain ⟨k, hk, rfl, HS, HU⟩ := hrel
    have HK : Hid _ := hk
    clear hk
    by_cases hlt : k < 4
    · have k0 : (0 : Int) ≤ (k : Int) := by omega
      have k1 : (k : Int) < 4 := by omega
      have hrw := HR.out.same HU.out
      cases hx : h.g k with
      | none =>
        have HST : Hid (hNums h (k + 1) = hNums h k) := show hNums h (k + 1) = _ by simp only [hNums, hx, List.append_nil]
        have c := hrw.cNone hlt hx
        clear hx hrw
        go_wp2_with fail
        go_roundg (4 - (k + 1))
        case rel => exact ⟨k + 1, by omega, by go_num, by rw [HST.out]; exact HS.out, HU.out⟩
        case measure => have := HK.out; omega
      | some y =>
        have HST : Hid (hNums h (k + 1) = hNums h k ++ [k]) := show hNums h (k + 1) = _ by simp only [hNums, hx]
        have c := hrw.cSome hlt hx
        clear hx hrw
        obtain ⟨i, hi, he⟩ := Option.map_eq_some_iff.1 infoInt
        simp only [Prod.mk.injEq] at he
        obtain ⟨he1, he2, he3⟩ := he
        have HE1 : Hid _ := he1
        have HE2 : Hid _ := he2
        have HE3 : Hid _ := he3
        have HI : Hid _ := hi
        clear he1 he2 he3 hi
        have hkl := hNums_len h k
        have HN : Hid (∀ j u, ([.int .i64 (k : Int)] : List Value)[j]? = some u → (wr.alloc (.cells #[.int .i64 (k : Int)] 3)).cell? ((⟨wr.heap.size, 0, none⟩ : Addr).add j) = some u) := by
          show ∀ j u, _
          intro j u hj
          rw [Addr.add_mid, Nat.zero_add, World.cell?_alloc_new, ← hj]
          simp
        have HO : Hid _ := World.ownsRow.alloc HS.out (.cells #[.int .i64 (k : Int)] 3)
        have HB : Hid (w.heap.size ≤ (wr.alloc (.cells #[.int .i64 (k : Int)] 3)).heap.size) := show _ ≤ _ by have := HU.out.size; simp only [World.size_alloc]; omega
        have H1 : Hid (∀ u ∈ ([.int .i64 (k : Int)] : List Value), u.oneCell' = true) := show ∀ u ∈ ([.int .i64 (k : Int)] : List Value), _ from fun u hu' => by simp at hu'; subst hu'; rfl
        generalize hfs : hNums h k = fs at *
        clear hfs
        go_wp2_with (at_builtin; refine wpList_append_lies _ (by rfl) _ _ 63 (by rfl) w.heap.size 3 i (.int .i64 0) 1 8 Tryz.underlying63 HI.out HE3.out HE1.out HE2.out (by rfl) (by omega) u3 fs.length (nmC fs) (by rfl) HO.out ⟨wr.heap.size, 0, none⟩ 1 1 ([.int .i64 (k : Int)]) (by rfl) (by rfl) HN.out H1.out (by omega) (by unfold maxLen; omega) (by omega) HB.out (wr.heap.size + 1) (by simp) ?_; intro g2 cap2 w2 hown hgrow hat hlt2)
        obtain ⟨hS2, hu2⟩ := SlN.grown (x := k) HU.out HS.out _ hown hgrow
        clear hown hgrow hat hlt2
        go_roundg (4 - (k + 1))
        case rel => exact ⟨k + 1, by omega, by go_num, by rw [HST.out]; exact hS2, hu2⟩
        case measure => have := HK.out; omega
    · obtain rfl : k = 4 := by have := HK.out; omega
      go_wp2_with fail
      go_ret
      exact ⟨_, rfl, HS.out, HU.out⟩
theorem wpList_runH {P : Program} {ops : Array Oper} {rest : List Oper} {op : Oper} {a a' : Act} {w w' : World} {Q : Exit → Act → World → Prop} (v : Value) (hg : op.guard = none) (hr : (execOp a.eval op).run P w = .ok (.value v) w') (ha : a.put op.dst v = a') (h : wpList P ops Q rest a' w') : wpList P ops Q (op :: rest) a w :=
  wpList_plain hg fun K hK => by unfold Oper.wp; rw [hr, Oper.upon_value, ha]; exact hK _ _ h
theorem newHost_any (w : World) (n : Nat) : Calls Tryz.prog 7 #[.int .i64 (n : Int)] w fun e w' => e = .returned (.pointer (some ⟨w.heap.size + 1, 0, none⟩)) ∧ w' = (w.alloc (.cells (refZero n) 48)).alloc (.cells #[.pointer (some ⟨w.heap.size, 0, none⟩), .pointer none, .pointer none, .pointer none, .pointer none] 52) := by
  go_enter Tryz.func7, Tryz.ntmps7
  go_upto_region 1 with fail
  refine wp_region_lit ?_
  refine wpList_runH (w' := w) (.int .i64 (n : Int)) rfl (by kernel_rfl) rfl ?_
  simp only [Act.put, List.setIfInBounds_toArray, List.set_cons_zero, List.set_cons_succ]
  refine wpList_runH (w' := w) (.agg (refZero n)) rfl (by kernel_rfl) rfl ?_
  simp only [Act.put, List.setIfInBounds_toArray, List.set_cons_zero, List.set_cons_succ]
  refine wpList_runH (w' := (w.alloc (.cells (refZero n) 48))) (.pointer (some ⟨w.heap.size, 0, none⟩)) rfl (by kernel_rfl) rfl ?_
  simp only [Act.put, List.setIfInBounds_toArray, List.set_cons_zero, List.set_cons_succ]
  refine wpList_runH (w' := (w.alloc (.cells (refZero n) 48))) (.agg #[.pointer (some ⟨w.heap.size, 0, none⟩), .pointer none, .pointer none, .pointer none, .pointer none]) rfl (by kernel_rfl) rfl ?_
  simp only [Act.put, List.setIfInBounds_toArray, List.set_cons_zero, List.set_cons_succ]
  refine wpList_runH (w' := (w.alloc (.cells (refZero n) 48)).alloc (.cells #[.pointer (some ⟨w.heap.size, 0, none⟩), .pointer none, .pointer none, .pointer none, .pointer none] 52)) (.pointer (some ⟨w.heap.size + 1, 0, none⟩)) rfl (by rw [← World.size_alloc w (.cells (refZero n) 48)]; kernel_rfl) rfl ?_
  simp only [Act.put, List.setIfInBounds_toArray, List.set_cons_zero, List.set_cons_succ]
  generalize hw6 : (w.alloc (.cells (refZero n) 48)).alloc (.cells #[.pointer (some ⟨w.heap.size, 0, none⟩), .pointer none, .pointer none, .pointer none, .pointer none] 52) = w6
  have HW6 : Hid _ := hw6
  clear hw6
  go_wp2_with fail
  go_ret
  exact ⟨rfl, HW6.out.symm⟩
end Go.Proofs.YtadpibcgjgcjhabGreatDoor
