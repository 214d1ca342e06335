/- Package host: Guests. -/
import Derived.Test.YtadpibcgjgcjhabGreatDoorHpL
import Derived.Test.YtadpibcgjgcjhabGreatDoorHpN
namespace Go.Proofs.YtadpibcgjgcjhabGreatDoor
open Go.ChangeShapes Go.WideShapes Go.ChangeAt Go.RowKit
set_option maxRecDepth 100000
attribute [local go_sem ↓] Go.wp_at_zero Go.wp_at_succ
variable {w w' : World} {bh bp bf : Nat} {G G' : Nat → G3} {h h' : Hs} {x : Gs} {W : Int}

/-- The guests' numbers, up to one. -/
def hNums (h : Hs) : Nat → List Nat
  | 0 => []
  | k + 1 => hNums h k ++ (match h.g k with | some _ => [k] | none => [])
theorem hNums_len (h : Hs) : ∀ k, (hNums h k).length ≤ k
  | 0 => Nat.le_refl _
  | k + 1 => by
    have := hNums_len h k
    simp only [hNums, List.length_append]
    split <;> simp <;> omega
theorem idx4 (p0 p1 p2 p3 : Value) (w : World) : (Instr.index 81 (.agg #[p0, p1, p2, p3]) (.int .i64 0)).run Tryz.prog w = .ok p0 w ∧ (Instr.index 81 (.agg #[p0, p1, p2, p3]) (.int .i64 1)).run Tryz.prog w = .ok p1 w ∧ (Instr.index 81 (.agg #[p0, p1, p2, p3]) (.int .i64 2)).run Tryz.prog w = .ok p2 w ∧ (Instr.index 81 (.agg #[p0, p1, p2, p3]) (.int .i64 3)).run Tryz.prog w = .ok p3 w := ⟨by kernel_rfl, by kernel_rfl, by kernel_rfl, by kernel_rfl⟩
set_option maxHeartbeats 2000000 in
theorem hGuests_any (m : HM w bh bp bf G h) : Calls Tryz.prog 87 #[.pointer (some ⟨bh, 0, none⟩)] w fun e w' => ∃ v, e = .returned v ∧ SlN w' w.heap.size v (hNums h 4) ∧ Upd (fun _ => False) w w' := by
  have c0 := m.cg 0 (by omega)
  have c1 := m.cg 1 (by omega)
  have c2 := m.cg 2 (by omega)
  have c3 := m.cg 3 (by omega)
  simp only [Nat.add_zero] at c0
  simp only [Nat.reduceAdd] at c1 c2 c3
  clear m
  generalize hp0 : gPtr (h.g 0) (G 0).g = p0 at *
  generalize hp1 : gPtr (h.g 1) (G 1).g = p1 at *
  generalize hp2 : gPtr (h.g 2) (G 2).g = p2 at *
  generalize hp3 : gPtr (h.g 3) (G 3).g = p3 at *
  have HP0 : Hid _ := hp0
  have HP1 : Hid _ := hp1
  have HP2 : Hid _ := hp2
  have HP3 : Hid _ := hp3
  clear hp0 hp1 hp2 hp3
  go_enter Tryz.func87, Tryz.ntmps87
  go_wp2_with fail
  go_loopg [3, 10] 4 (fun g l i wr => ∃ k : Nat, k + g = 4 ∧ i = .int .i64 k ∧ Hid (SlN wr w.heap.size l (hNums h k)) ∧ Hid (Upd (fun _ => False) w wr))
  case atStart => exact ⟨0, by omega, rfl, SlN.nil _ _, Upd.refl _ _⟩
  case round =>
    clear c0 c1 c2 c3
    obtain ⟨k, hk, rfl, HS, HU⟩ := hrel
    have HK : Hid _ := hk
    by_cases hlt : k < 4
    · clear hk
      have hk4 : k = 0 ∨ k = 1 ∨ k = 2 ∨ k = 3 := by omega
      rcases hk4 with rfl | rfl | rfl | rfl
      · cases hx : h.g 0 with
        | none =>
          have HST : Hid (hNums h (0 + 1) = hNums h 0) := show hNums h (0 + 1) = _ by simp only [hNums, hx, List.append_nil]
          have hb : (binOp .neq 80 p0 (.pointer none)).run Tryz.prog wr = .ok (.bool false) wr := by rw [← HP0.out, hx]; rfl
          have hg : (eqGuard .neq 80 (Operand.tmp 14) (Operand.const (.pointer none)) p0 (.pointer none)).run Tryz.prog wr = .ok () wr := by rw [← HP0.out, hx]; rfl
          clear hx
          have ix := (idx4 p0 p1 p2 p3 wr).1
          go_wp2_with fail
          go_roundg (4 - (0 + 1))
          case rel => exact ⟨0 + 1, by omega, by go_num, by rw [HST.out]; exact HS.out, HU.out⟩
          case measure => have := HK.out; omega
        | some y =>
          have hb : (binOp .neq 80 p0 (.pointer none)).run Tryz.prog wr = .ok (.bool true) wr := by rw [← HP0.out, hx]; rfl
          have hg : (eqGuard .neq 80 (Operand.tmp 14) (Operand.const (.pointer none)) p0 (.pointer none)).run Tryz.prog wr = .ok () wr := by rw [← HP0.out, hx]; rfl
          have ix := (idx4 p0 p1 p2 p3 wr).1
          obtain ⟨i, hi, he⟩ := Option.map_eq_some_iff.1 infoInt
          simp only [Prod.mk.injEq] at he
          obtain ⟨he1, he2, he3⟩ := he
          have HE1 : Hid _ := he1
          have HE2 : Hid _ := he2
          have HE3 : Hid _ := he3
          have HI : Hid _ := hi
          clear he1 he2 he3 hi
          have hkl := hNums_len h 0
          have HN : Hid (∀ j u, ([.int .i64 (0 : Int)] : List Value)[j]? = some u → (wr.alloc (.cells #[.int .i64 (0 : Int)] 3)).cell? ((⟨wr.heap.size, 0, none⟩ : Addr).add j) = some u) := by
            show ∀ j u, _
            intro j u hj
            rw [Addr.add_mid, Nat.zero_add, World.cell?_alloc_new, ← hj]
            simp
          have HO : Hid _ := World.ownsRow.alloc HS.out (.cells #[.int .i64 (0 : Int)] 3)
          have HB : Hid (w.heap.size ≤ (wr.alloc (.cells #[.int .i64 (0 : Int)] 3)).heap.size) := show _ ≤ _ by have := HU.out.size; simp only [World.size_alloc]; omega
          have H1 : Hid (∀ u ∈ ([.int .i64 (0 : Int)] : List Value), u.oneCell' = true) := show ∀ u ∈ ([.int .i64 (0 : Int)] : List Value), _ from fun u hu' => by simp at hu'; subst hu'; rfl
          have HST : Hid (hNums h (0 + 1) = hNums h 0 ++ [0]) := show hNums h (0 + 1) = _ by simp only [hNums, hx]
          clear hx
          generalize hfs : hNums h 0 = fs at *
          clear hfs
          go_wp2_with (at_builtin; refine wpList_append_lies _ (by rfl) _ _ 63 (by rfl) w.heap.size 3 i (.int .i64 0) 1 8 Tryz.underlying63 HI.out HE3.out HE1.out HE2.out (by rfl) (by omega) u3 fs.length (nmC fs) (by rfl) HO.out ⟨wr.heap.size, 0, none⟩ 1 1 ([.int .i64 (0 : Int)]) (by rfl) (by rfl) HN.out H1.out (by omega) (by unfold maxLen; omega) (by omega) HB.out (wr.heap.size + 1) (by simp) ?_; intro g2 cap2 w2 hown hgrow hat hlt2)
          obtain ⟨hS2, hu2⟩ := SlN.grown (x := 0) HU.out HS.out _ hown hgrow
          clear hown hgrow hat hlt2
          go_roundg (4 - (0 + 1))
          case rel => exact ⟨0 + 1, by omega, by go_num, by rw [HST.out]; exact hS2, hu2⟩
          case measure => have := HK.out; omega
      · cases hx : h.g 1 with
        | none =>
          have HST : Hid (hNums h (1 + 1) = hNums h 1) := show hNums h (1 + 1) = _ by simp only [hNums, hx, List.append_nil]
          have hb : (binOp .neq 80 p1 (.pointer none)).run Tryz.prog wr = .ok (.bool false) wr := by rw [← HP1.out, hx]; rfl
          have hg : (eqGuard .neq 80 (Operand.tmp 14) (Operand.const (.pointer none)) p1 (.pointer none)).run Tryz.prog wr = .ok () wr := by rw [← HP1.out, hx]; rfl
          clear hx
          have ix := (idx4 p0 p1 p2 p3 wr).2.1
          go_wp2_with fail
          go_roundg (4 - (1 + 1))
          case rel => exact ⟨1 + 1, by omega, by go_num, by rw [HST.out]; exact HS.out, HU.out⟩
          case measure => have := HK.out; omega
        | some y =>
          have hb : (binOp .neq 80 p1 (.pointer none)).run Tryz.prog wr = .ok (.bool true) wr := by rw [← HP1.out, hx]; rfl
          have hg : (eqGuard .neq 80 (Operand.tmp 14) (Operand.const (.pointer none)) p1 (.pointer none)).run Tryz.prog wr = .ok () wr := by rw [← HP1.out, hx]; rfl
          have ix := (idx4 p0 p1 p2 p3 wr).2.1
          obtain ⟨i, hi, he⟩ := Option.map_eq_some_iff.1 infoInt
          simp only [Prod.mk.injEq] at he
          obtain ⟨he1, he2, he3⟩ := he
          have HE1 : Hid _ := he1
          have HE2 : Hid _ := he2
          have HE3 : Hid _ := he3
          have HI : Hid _ := hi
          clear he1 he2 he3 hi
          have hkl := hNums_len h 1
          have HN : Hid (∀ j u, ([.int .i64 (1 : Int)] : List Value)[j]? = some u → (wr.alloc (.cells #[.int .i64 (1 : Int)] 3)).cell? ((⟨wr.heap.size, 0, none⟩ : Addr).add j) = some u) := by
            show ∀ j u, _
            intro j u hj
            rw [Addr.add_mid, Nat.zero_add, World.cell?_alloc_new, ← hj]
            simp
          have HO : Hid _ := World.ownsRow.alloc HS.out (.cells #[.int .i64 (1 : Int)] 3)
          have HB : Hid (w.heap.size ≤ (wr.alloc (.cells #[.int .i64 (1 : Int)] 3)).heap.size) := show _ ≤ _ by have := HU.out.size; simp only [World.size_alloc]; omega
          have H1 : Hid (∀ u ∈ ([.int .i64 (1 : Int)] : List Value), u.oneCell' = true) := show ∀ u ∈ ([.int .i64 (1 : Int)] : List Value), _ from fun u hu' => by simp at hu'; subst hu'; rfl
          have HST : Hid (hNums h (1 + 1) = hNums h 1 ++ [1]) := show hNums h (1 + 1) = _ by simp only [hNums, hx]
          clear hx
          generalize hfs : hNums h 1 = fs at *
          clear hfs
          go_wp2_with (at_builtin; refine wpList_append_lies _ (by rfl) _ _ 63 (by rfl) w.heap.size 3 i (.int .i64 0) 1 8 Tryz.underlying63 HI.out HE3.out HE1.out HE2.out (by rfl) (by omega) u3 fs.length (nmC fs) (by rfl) HO.out ⟨wr.heap.size, 0, none⟩ 1 1 ([.int .i64 (1 : Int)]) (by rfl) (by rfl) HN.out H1.out (by omega) (by unfold maxLen; omega) (by omega) HB.out (wr.heap.size + 1) (by simp) ?_; intro g2 cap2 w2 hown hgrow hat hlt2)
          obtain ⟨hS2, hu2⟩ := SlN.grown (x := 1) HU.out HS.out _ hown hgrow
          clear hown hgrow hat hlt2
          go_roundg (4 - (1 + 1))
          case rel => exact ⟨1 + 1, by omega, by go_num, by rw [HST.out]; exact hS2, hu2⟩
          case measure => have := HK.out; omega
      · cases hx : h.g 2 with
        | none =>
          have HST : Hid (hNums h (2 + 1) = hNums h 2) := show hNums h (2 + 1) = _ by simp only [hNums, hx, List.append_nil]
          have hb : (binOp .neq 80 p2 (.pointer none)).run Tryz.prog wr = .ok (.bool false) wr := by rw [← HP2.out, hx]; rfl
          have hg : (eqGuard .neq 80 (Operand.tmp 14) (Operand.const (.pointer none)) p2 (.pointer none)).run Tryz.prog wr = .ok () wr := by rw [← HP2.out, hx]; rfl
          clear hx
          have ix := (idx4 p0 p1 p2 p3 wr).2.2.1
          go_wp2_with fail
          go_roundg (4 - (2 + 1))
          case rel => exact ⟨2 + 1, by omega, by go_num, by rw [HST.out]; exact HS.out, HU.out⟩
          case measure => have := HK.out; omega
        | some y =>
          have hb : (binOp .neq 80 p2 (.pointer none)).run Tryz.prog wr = .ok (.bool true) wr := by rw [← HP2.out, hx]; rfl
          have hg : (eqGuard .neq 80 (Operand.tmp 14) (Operand.const (.pointer none)) p2 (.pointer none)).run Tryz.prog wr = .ok () wr := by rw [← HP2.out, hx]; rfl
          have ix := (idx4 p0 p1 p2 p3 wr).2.2.1
          obtain ⟨i, hi, he⟩ := Option.map_eq_some_iff.1 infoInt
          simp only [Prod.mk.injEq] at he
          obtain ⟨he1, he2, he3⟩ := he
          have HE1 : Hid _ := he1
          have HE2 : Hid _ := he2
          have HE3 : Hid _ := he3
          have HI : Hid _ := hi
          clear he1 he2 he3 hi
          have hkl := hNums_len h 2
          have HN : Hid (∀ j u, ([.int .i64 (2 : Int)] : List Value)[j]? = some u → (wr.alloc (.cells #[.int .i64 (2 : Int)] 3)).cell? ((⟨wr.heap.size, 0, none⟩ : Addr).add j) = some u) := by
            show ∀ j u, _
            intro j u hj
            rw [Addr.add_mid, Nat.zero_add, World.cell?_alloc_new, ← hj]
            simp
          have HO : Hid _ := World.ownsRow.alloc HS.out (.cells #[.int .i64 (2 : Int)] 3)
          have HB : Hid (w.heap.size ≤ (wr.alloc (.cells #[.int .i64 (2 : Int)] 3)).heap.size) := show _ ≤ _ by have := HU.out.size; simp only [World.size_alloc]; omega
          have H1 : Hid (∀ u ∈ ([.int .i64 (2 : Int)] : List Value), u.oneCell' = true) := show ∀ u ∈ ([.int .i64 (2 : Int)] : List Value), _ from fun u hu' => by simp at hu'; subst hu'; rfl
          have HST : Hid (hNums h (2 + 1) = hNums h 2 ++ [2]) := show hNums h (2 + 1) = _ by simp only [hNums, hx]
          clear hx
          generalize hfs : hNums h 2 = fs at *
          clear hfs
          go_wp2_with (at_builtin; refine wpList_append_lies _ (by rfl) _ _ 63 (by rfl) w.heap.size 3 i (.int .i64 0) 1 8 Tryz.underlying63 HI.out HE3.out HE1.out HE2.out (by rfl) (by omega) u3 fs.length (nmC fs) (by rfl) HO.out ⟨wr.heap.size, 0, none⟩ 1 1 ([.int .i64 (2 : Int)]) (by rfl) (by rfl) HN.out H1.out (by omega) (by unfold maxLen; omega) (by omega) HB.out (wr.heap.size + 1) (by simp) ?_; intro g2 cap2 w2 hown hgrow hat hlt2)
          obtain ⟨hS2, hu2⟩ := SlN.grown (x := 2) HU.out HS.out _ hown hgrow
          clear hown hgrow hat hlt2
          go_roundg (4 - (2 + 1))
          case rel => exact ⟨2 + 1, by omega, by go_num, by rw [HST.out]; exact hS2, hu2⟩
          case measure => have := HK.out; omega
      · cases hx : h.g 3 with
        | none =>
          have HST : Hid (hNums h (3 + 1) = hNums h 3) := show hNums h (3 + 1) = _ by simp only [hNums, hx, List.append_nil]
          have hb : (binOp .neq 80 p3 (.pointer none)).run Tryz.prog wr = .ok (.bool false) wr := by rw [← HP3.out, hx]; rfl
          have hg : (eqGuard .neq 80 (Operand.tmp 14) (Operand.const (.pointer none)) p3 (.pointer none)).run Tryz.prog wr = .ok () wr := by rw [← HP3.out, hx]; rfl
          clear hx
          have ix := (idx4 p0 p1 p2 p3 wr).2.2.2
          go_wp2_with fail
          go_roundg (4 - (3 + 1))
          case rel => exact ⟨3 + 1, by omega, by go_num, by rw [HST.out]; exact HS.out, HU.out⟩
          case measure => have := HK.out; omega
        | some y =>
          have hb : (binOp .neq 80 p3 (.pointer none)).run Tryz.prog wr = .ok (.bool true) wr := by rw [← HP3.out, hx]; rfl
          have hg : (eqGuard .neq 80 (Operand.tmp 14) (Operand.const (.pointer none)) p3 (.pointer none)).run Tryz.prog wr = .ok () wr := by rw [← HP3.out, hx]; rfl
          have ix := (idx4 p0 p1 p2 p3 wr).2.2.2
          obtain ⟨i, hi, he⟩ := Option.map_eq_some_iff.1 infoInt
          simp only [Prod.mk.injEq] at he
          obtain ⟨he1, he2, he3⟩ := he
          have HE1 : Hid _ := he1
          have HE2 : Hid _ := he2
          have HE3 : Hid _ := he3
          have HI : Hid _ := hi
          clear he1 he2 he3 hi
          have hkl := hNums_len h 3
          have HN : Hid (∀ j u, ([.int .i64 (3 : Int)] : List Value)[j]? = some u → (wr.alloc (.cells #[.int .i64 (3 : Int)] 3)).cell? ((⟨wr.heap.size, 0, none⟩ : Addr).add j) = some u) := by
            show ∀ j u, _
            intro j u hj
            rw [Addr.add_mid, Nat.zero_add, World.cell?_alloc_new, ← hj]
            simp
          have HO : Hid _ := World.ownsRow.alloc HS.out (.cells #[.int .i64 (3 : Int)] 3)
          have HB : Hid (w.heap.size ≤ (wr.alloc (.cells #[.int .i64 (3 : Int)] 3)).heap.size) := show _ ≤ _ by have := HU.out.size; simp only [World.size_alloc]; omega
          have H1 : Hid (∀ u ∈ ([.int .i64 (3 : Int)] : List Value), u.oneCell' = true) := show ∀ u ∈ ([.int .i64 (3 : Int)] : List Value), _ from fun u hu' => by simp at hu'; subst hu'; rfl
          have HST : Hid (hNums h (3 + 1) = hNums h 3 ++ [3]) := show hNums h (3 + 1) = _ by simp only [hNums, hx]
          clear hx
          generalize hfs : hNums h 3 = fs at *
          clear hfs
          go_wp2_with (at_builtin; refine wpList_append_lies _ (by rfl) _ _ 63 (by rfl) w.heap.size 3 i (.int .i64 0) 1 8 Tryz.underlying63 HI.out HE3.out HE1.out HE2.out (by rfl) (by omega) u3 fs.length (nmC fs) (by rfl) HO.out ⟨wr.heap.size, 0, none⟩ 1 1 ([.int .i64 (3 : Int)]) (by rfl) (by rfl) HN.out H1.out (by omega) (by unfold maxLen; omega) (by omega) HB.out (wr.heap.size + 1) (by simp) ?_; intro g2 cap2 w2 hown hgrow hat hlt2)
          obtain ⟨hS2, hu2⟩ := SlN.grown (x := 3) HU.out HS.out _ hown hgrow
          clear hown hgrow hat hlt2
          go_roundg (4 - (3 + 1))
          case rel => exact ⟨3 + 1, by omega, by go_num, by rw [HST.out]; exact hS2, hu2⟩
          case measure => have := HK.out; omega
    · obtain rfl : k = 4 := by omega
      go_wp2_with fail
      go_ret
      exact ⟨_, rfl, HS.out, HU.out⟩
end Go.Proofs.YtadpibcgjgcjhabGreatDoor
