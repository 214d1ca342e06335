/- Package host: Guests. -/
import Derived.Test.YtadpibcgjgcjhaaGreatPart21
import Derived.Test.YtadpibcgjgcjhaaGreatPart18
namespace Go.Proofs.YtadpibcgjgcjhaaGreat
open Go.ChangeShapes Go.WideShapes Go.ChangeAt Go.RowKit
set_option maxRecDepth 100000
attribute [local go_sem ↓] Go.wp_at_zero Go.wp_at_succ
variable {w w' : World} {bh bp bf : Nat} {G G' : Nat → G3} {h h' : Hs} {x : Gs} {W : Int}

/-- The guests' numbers, up to one. -/
def hNums (h : Hs) : Nat → List Nat
  | 0 => []
  | k + 1 => hNums h k ++ (match h.g k with | some _ => [k] | none => [])
theorem hNums_len (h : Hs) : ∀ k, (hNums h k).length ≤ k
  | 0 => Nat.le_refl _
  | k + 1 => by
    have := hNums_len h k
    simp only [hNums, List.length_append]
    split <;> simp <;> omega
theorem idx4 (p0 p1 p2 p3 : Value) (w : World) : (Instr.index 134 (.agg #[p0, p1, p2, p3]) (.int .i64 0)).run Tryz.prog w = .ok p0 w ∧ (Instr.index 134 (.agg #[p0, p1, p2, p3]) (.int .i64 1)).run Tryz.prog w = .ok p1 w ∧ (Instr.index 134 (.agg #[p0, p1, p2, p3]) (.int .i64 2)).run Tryz.prog w = .ok p2 w ∧ (Instr.index 134 (.agg #[p0, p1, p2, p3]) (.int .i64 3)).run Tryz.prog w = .ok p3 w := ⟨by kernel_rfl, by kernel_rfl, by kernel_rfl, by kernel_rfl⟩
set_option maxHeartbeats 2000000 in
theorem hGuests_any (m : HM w bh bp bf G h) : Calls Tryz.prog 103 #[.pointer (some ⟨bh, 0, none⟩)] w fun e w' => ∃ v, e = .returned v ∧ SlN w' w.heap.size v (hNums h 4) ∧ Upd (fun _ => False) w w' := by
  have c0 := m.cg 0 (by omega)
  have c1 := m.cg 1 (by omega)
  have c2 := m.cg 2 (by omega)
  have c3 := m.cg 3 (by omega)
  simp only [Nat.add_zero] at c0
  simp only [Nat.reduceAdd] at c1 c2 c3
  clear m
  generalize hp0 : gPtr (h.g 0) (G 0).g = p0 at *
  generalize hp1 : gPtr (h.g 1) (G 1).g = p1 at *
  generalize hp2 : gPtr (h.g 2) (G 2).g = p2 at *
  generalize hp3 : gPtr (h.g 3) (G 3).g = p3 at *
  have HP0 : Hid _ := hp0
  have HP1 : Hid _ := hp1
  have HP2 : Hid _ := hp2
  have HP3 : Hid _ := hp3
  clear hp0 hp1 hp2 hp3
  go_enter Tryz.func103, Tryz.ntmps103
  go_wp2_with fail
  go_loopg [3, 10] 4 (fun g l i wr => ∃ k : Nat, k + g = 4 ∧ i = .int .i64 k ∧ Hid (SlN wr w.heap.size l (hNums h k)) ∧ Hid (Upd (fun _ => False) w wr))
  case atStart => exact ⟨0, by omega, rfl, SlN.nil _ _, Upd.refl _ _⟩
  case round =>
    clear c0 c1 c2 c3
    obtain ⟨k, hk, rfl, HS, HU⟩ := hrel
    have HK : Hid _ := hk
    by_cases hlt : k < 4
    · clear hk
      have hk4 : k = 0 ∨ k = 1 ∨ k = 2 ∨ k = 3 := by omega
      rcases hk4 with rfl | rfl | rfl | rfl
      · cases hx : h.g 0 with
        | none =>
          have HST : Hid (hNums h (0 + 1) = hNums h 0) := show hNums h (0 + 1) = _ by simp only [hNums, hx, List.append_nil]
          have hb : (binOp .neq 30 p0 (.pointer none)).run Tryz.prog wr = .ok (.bool false) wr := by rw [← HP0.out, hx]; rfl
          have hg : (eqGuard .neq 30 (Operand.tmp 14) (Operand.const (.pointer none)) p0 (.pointer none)).run Tryz.prog wr = .ok () wr := by rw [← HP0.out, hx]; rfl
          clear hx
          have ix := (idx4 p0 p1 p2 p3 wr).1
          go_wp2_with fail
          go_roundg (4 - (0 + 1))
          case rel => exact ⟨0 + 1, by omega, by go_num, by rw [HST.out]; exact HS.out, HU.out⟩
          case measure => have := HK.out; omega
        | some y =>
          have hb : (binOp .neq 30 p0 (.pointer none)).run Tryz.prog wr = .ok (.bool true) wr := by rw [← HP0.out, hx]; rfl
          have hg : (eqGuard .neq 30 (Operand.tmp 14) (Operand.const (.pointer none)) p0 (.pointer none)).run Tryz.prog wr = .ok () wr := by rw [← HP0.out, hx]; rfl
          have ix := (idx4 p0 p1 p2 p3 wr).1
          obtain ⟨i, hi, he⟩ := Option.map_eq_some_iff.1 infoInt
          simp only [Prod.mk.injEq] at he
          obtain ⟨he1, he2, he3⟩ := he
          have HE1 : Hid _ := he1
          have HE2 : Hid _ := he2
          have HE3 : Hid _ := he3
          have HI : Hid _ := hi
          clear he1 he2 he3 hi
          have hkl := hNums_len h 0
          have HN : Hid (∀ j u, ([.int .i64 (0 : Int)] : List Value)[j]? = some u → (wr.alloc (.cells #[.int .i64 (0 : Int)] 3)).cell? ((⟨wr.heap.size, 0, none⟩ : Addr).add j) = some u) := by
            show ∀ j u, _
            intro j u hj
            rw [Addr.add_mid, Nat.zero_add, World.cell?_alloc_new, ← hj]
            simp
          have HO : Hid _ := World.ownsRow.alloc HS.out (.cells #[.int .i64 (0 : Int)] 3)
          have HB : Hid (w.heap.size ≤ (wr.alloc (.cells #[.int .i64 (0 : Int)] 3)).heap.size) := show _ ≤ _ by have := HU.out.size; simp only [World.size_alloc]; omega
          have H1 : Hid (∀ u ∈ ([.int .i64 (0 : Int)] : List Value), u.oneCell' = true) := show ∀ u ∈ ([.int .i64 (0 : Int)] : List Value), _ from fun u hu' => by simp at hu'; subst hu'; rfl
          have HST : Hid (hNums h (0 + 1) = hNums h 0 ++ [0]) := show hNums h (0 + 1) = _ by simp only [hNums, hx]
          clear hx
          generalize hfs : hNums h 0 = fs at *
          clear hfs
          go_wp2_with (at_builtin; refine wpList_append_lies _ (by rfl) _ _ 153 (by rfl) w.heap.size 3 i (.int .i64 0) 1 8 Tryz.underlying153 HI.out HE3.out HE1.out HE2.out (by rfl) (by omega) u3 fs.length (nmC fs) (by rfl) HO.out ⟨wr.heap.size, 0, none⟩ 1 1 ([.int .i64 (0 : Int)]) (by rfl) (by rfl) HN.out H1.out (by omega) (by unfold maxLen; omega) (by omega) HB.out (wr.heap.size + 1) (by simp) ?_; intro g2 cap2 w2 hown hgrow hat hlt2)
          obtain ⟨hS2, hu2⟩ := SlN.grown (x := 0) HU.out HS.out _ hown hgrow
          clear hown hgrow hat hlt2
          go_roundg (4 - (0 + 1))
          case rel => exact ⟨0 + 1, by omega, by go_num, by rw [HST.out]; exact hS2, hu2⟩
          case measure => have := HK.out; omega
      · cases hx : h.g 1 with
        | none =>
          have HST : Hid (hNums h (1 + 1) = hNums h 1) := show hNums h (1 + 1) = _ by simp only [hNums, hx, List.append_nil]
          have hb : (binOp .neq 30 p1 (.pointer none)).run Tryz.prog wr = .ok (.bool false) wr := by rw [← HP1.out, hx]; rfl
          have hg : (eqGuard .neq 30 (Operand.tmp 14) (Operand.const (.pointer none)) p1 (.pointer none)).run Tryz.prog wr = .ok () wr := by rw [← HP1.out, hx]; rfl
          clear hx
          have ix := (idx4 p0 p1 p2 p3 wr).2.1
          go_wp2_with fail
          go_roundg (4 - (1 + 1))
          case rel => exact ⟨1 + 1, by omega, by go_num, by rw [HST.out]; exact HS.out, HU.out⟩
          case measure => have := HK.out; omega
        | some y =>
          have hb : (binOp .neq 30 p1 (.pointer none)).run Tryz.prog wr = .ok (.bool true) wr := by rw [← HP1.out, hx]; rfl
          have hg : (eqGuard .neq 30 (Operand.tmp 14) (Operand.const (.pointer none)) p1 (.pointer none)).run Tryz.prog wr = .ok () wr := by rw [← HP1.out, hx]; rfl
          have ix := (idx4 p0 p1 p2 p3 wr).2.1
          obtain ⟨i, hi, he⟩ := Option.map_eq_some_iff.1 infoInt
          simp only [Prod.mk.injEq] at he
          obtain ⟨he1, he2, he3⟩ := he
          have HE1 : Hid _ := he1
          have HE2 : Hid _ := he2
          have HE3 : Hid _ := he3
          have HI : Hid _ := hi
          clear he1 he2 he3 hi
          have hkl := hNums_len h 1
          have HN : Hid (∀ j u, ([.int .i64 (1 : Int)] : List Value)[j]? = some u → (wr.alloc (.cells #[.int .i64 (1 : Int)] 3)).cell? ((⟨wr.heap.size, 0, none⟩ : Addr).add j) = some u) := by
            show ∀ j u, _
            intro j u hj
            rw [Addr.add_mid, Nat.zero_add, World.cell?_alloc_new, ← hj]
            simp
          have HO : Hid _ := World.ownsRow.alloc HS.out (.cells #[.int .i64 (1 : Int)] 3)
          have HB : Hid (w.heap.size ≤ (wr.alloc (.cells #[.int .i64 (1 : Int)] 3)).heap.size) := show _ ≤ _ by have := HU.out.size; simp only [World.size_alloc]; omega
          have H1 : Hid (∀ u ∈ ([.int .i64 (1 : Int)] : List Value), u.oneCell' = true) := show ∀ u ∈ ([.int .i64 (1 : Int)] : List Value), _ from fun u hu' => by simp at hu'; subst hu'; rfl
          have HST : Hid (hNums h (1 + 1) = hNums h 1 ++ [1]) := show hNums h (1 + 1) = _ by simp only [hNums, hx]
          clear hx
          generalize hfs : hNums h 1 = fs at *
          clear hfs
          go_wp2_with (at_builtin; refine wpList_append_lies _ (by rfl) _ _ 153 (by rfl) w.heap.size 3 i (.int .i64 0) 1 8 Tryz.underlying153 HI.out HE3.out HE1.out HE2.out (by rfl) (by omega) u3 fs.length (nmC fs) (by rfl) HO.out ⟨wr.heap.size, 0, none⟩ 1 1 ([.int .i64 (1 : Int)]) (by rfl) (by rfl) HN.out H1.out (by omega) (by unfold maxLen; omega) (by omega) HB.out (wr.heap.size + 1) (by simp) ?_; intro g2 cap2 w2 hown hgrow hat hlt2)
          obtain ⟨hS2, hu2⟩ := SlN.grown (x := 1) HU.out HS.out _ hown hgrow
          clear hown hgrow hat hlt2
          go_roundg (4 - (1 + 1))
          case rel => exact ⟨1 + 1, by omega, by go_num, by rw [HST.out]; exact hS2, hu2⟩
          case measure => have := HK.out; omega
      · cases hx : h.g 2 with
        | none =>
          have HST : Hid (hNums h (2 + 1) = hNums h 2) := show hNums h (2 + 1) = _ by simp only [hNums, hx, List.append_nil]
          have hb : (binOp .neq 30 p2 (.pointer none)).run Tryz.prog wr = .ok (.bool false) wr := by rw [← HP2.out, hx]; rfl
          have hg : (eqGuard .neq 30 (Operand.tmp 14) (Operand.const (.pointer none)) p2 (.pointer none)).run Tryz.prog wr = .ok () wr := by rw [← HP2.out, hx]; rfl
          clear hx
          have ix := (idx4 p0 p1 p2 p3 wr).2.2.1
          go_wp2_with fail
          go_roundg (4 - (2 + 1))
          case rel => exact ⟨2 + 1, by omega, by go_num, by rw [HST.out]; exact HS.out, HU.out⟩
          case measure => have := HK.out; omega
        | some y =>
          have hb : (binOp .neq 30 p2 (.pointer none)).run Tryz.prog wr = .ok (.bool true) wr := by rw [← HP2.out, hx]; rfl
          have hg : (eqGuard .neq 30 (Operand.tmp 14) (Operand.const (.pointer none)) p2 (.pointer none)).run Tryz.prog wr = .ok () wr := by rw [← HP2.out, hx]; rfl
          have ix := (idx4 p0 p1 p2 p3 wr).2.2.1
          obtain ⟨i, hi, he⟩ := Option.map_eq_some_iff.1 infoInt
          simp only [Prod.mk.injEq] at he
          obtain ⟨he1, he2, he3⟩ := he
          have HE1 : Hid _ := he1
          have HE2 : Hid _ := he2
          have HE3 : Hid _ := he3
          have HI : Hid _ := hi
          clear he1 he2 he3 hi
          have hkl := hNums_len h 2
          have HN : Hid (∀ j u, ([.int .i64 (2 : Int)] : List Value)[j]? = some u → (wr.alloc (.cells #[.int .i64 (2 : Int)] 3)).cell? ((⟨wr.heap.size, 0, none⟩ : Addr).add j) = some u) := by
            show ∀ j u, _
            intro j u hj
            rw [Addr.add_mid, Nat.zero_add, World.cell?_alloc_new, ← hj]
            simp
          have HO : Hid _ := World.ownsRow.alloc HS.out (.cells #[.int .i64 (2 : Int)] 3)
          have HB : Hid (w.heap.size ≤ (wr.alloc (.cells #[.int .i64 (2 : Int)] 3)).heap.size) := show _ ≤ _ by have := HU.out.size; simp only [World.size_alloc]; omega
          have H1 : Hid (∀ u ∈ ([.int .i64 (2 : Int)] : List Value), u.oneCell' = true) := show ∀ u ∈ ([.int .i64 (2 : Int)] : List Value), _ from fun u hu' => by simp at hu'; subst hu'; rfl
          have HST : Hid (hNums h (2 + 1) = hNums h 2 ++ [2]) := show hNums h (2 + 1) = _ by simp only [hNums, hx]
          clear hx
          generalize hfs : hNums h 2 = fs at *
          clear hfs
          go_wp2_with (at_builtin; refine wpList_append_lies _ (by rfl) _ _ 153 (by rfl) w.heap.size 3 i (.int .i64 0) 1 8 Tryz.underlying153 HI.out HE3.out HE1.out HE2.out (by rfl) (by omega) u3 fs.length (nmC fs) (by rfl) HO.out ⟨wr.heap.size, 0, none⟩ 1 1 ([.int .i64 (2 : Int)]) (by rfl) (by rfl) HN.out H1.out (by omega) (by unfold maxLen; omega) (by omega) HB.out (wr.heap.size + 1) (by simp) ?_; intro g2 cap2 w2 hown hgrow hat hlt2)
          obtain ⟨hS2, hu2⟩ := SlN.grown (x := 2) HU.out HS.out _ hown hgrow
          clear hown hgrow hat hlt2
          go_roundg (4 - (2 + 1))
          case rel => exact ⟨2 + 1, by omega, by go_num, by rw [HST.out]; exact hS2, hu2⟩
          case measure => have := HK.out; omega
      · cases hx : h.g 3 with
        | none =>
          have HST : Hid (hNums h (3 + 1) = hNums h 3) := show hNums h (3 + 1) = _ by simp only [hNums, hx, List.append_nil]
          have hb : (binOp .neq 30 p3 (.pointer none)).run Tryz.prog wr = .ok (.bool false) wr := by rw [← HP3.out, hx]; rfl
          have hg : (eqGuard .neq 30 (Operand.tmp 14) (Operand.const (.pointer none)) p3 (.pointer none)).run Tryz.prog wr = .ok () wr := by rw [← HP3.out, hx]; rfl
          clear hx
          have ix := (idx4 p0 p1 p2 p3 wr).2.2.2
          go_wp2_with fail
          go_roundg (4 - (3 + 1))
          case rel => exact ⟨3 + 1, by omega, by go_num, by rw [HST.out]; exact HS.out, HU.out⟩
          case measure => have := HK.out; omega
        | some y =>
          have hb : (binOp .neq 30 p3 (.pointer none)).run Tryz.prog wr = .ok (.bool true) wr := by rw [← HP3.out, hx]; rfl
          have hg : (eqGuard .neq 30 (Operand.tmp 14) (Operand.const (.pointer none)) p3 (.pointer none)).run Tryz.prog wr = .ok () wr := by rw [← HP3.out, hx]; rfl
          have ix := (idx4 p0 p1 p2 p3 wr).2.2.2
          obtain ⟨i, hi, he⟩ := Option.map_eq_some_iff.1 infoInt
          simp only [Prod.mk.injEq] at he
          obtain ⟨he1, he2, he3⟩ := he
          have HE1 : Hid _ := he1
          have HE2 : Hid _ := he2
          have HE3 : Hid _ := he3
          have HI : Hid _ := hi
          clear he1 he2 he3 hi
          have hkl := hNums_len h 3
          have HN : Hid (∀ j u, ([.int .i64 (3 : Int)] : List Value)[j]? = some u → (wr.alloc (.cells #[.int .i64 (3 : Int)] 3)).cell? ((⟨wr.heap.size, 0, none⟩ : Addr).add j) = some u) := by
            show ∀ j u, _
            intro j u hj
            rw [Addr.add_mid, Nat.zero_add, World.cell?_alloc_new, ← hj]
            simp
          have HO : Hid _ := World.ownsRow.alloc HS.out (.cells #[.int .i64 (3 : Int)] 3)
          have HB : Hid (w.heap.size ≤ (wr.alloc (.cells #[.int .i64 (3 : Int)] 3)).heap.size) := show _ ≤ _ by have := HU.out.size; simp only [World.size_alloc]; omega
          have H1 : Hid (∀ u ∈ ([.int .i64 (3 : Int)] : List Value), u.oneCell' = true) := show ∀ u ∈ ([.int .i64 (3 : Int)] : List Value), _ from fun u hu' => by simp at hu'; subst hu'; rfl
          have HST : Hid (hNums h (3 + 1) = hNums h 3 ++ [3]) := show hNums h (3 + 1) = _ by simp only [hNums, hx]
          clear hx
          generalize hfs : hNums h 3 = fs at *
          clear hfs
          go_wp2_with (at_builtin; refine wpList_append_lies _ (by rfl) _ _ 153 (by rfl) w.heap.size 3 i (.int .i64 0) 1 8 Tryz.underlying153 HI.out HE3.out HE1.out HE2.out (by rfl) (by omega) u3 fs.length (nmC fs) (by rfl) HO.out ⟨wr.heap.size, 0, none⟩ 1 1 ([.int .i64 (3 : Int)]) (by rfl) (by rfl) HN.out H1.out (by omega) (by unfold maxLen; omega) (by omega) HB.out (wr.heap.size + 1) (by simp) ?_; intro g2 cap2 w2 hown hgrow hat hlt2)
          obtain ⟨hS2, hu2⟩ := SlN.grown (x := 3) HU.out HS.out _ hown hgrow
          clear hown hgrow hat hlt2
          go_roundg (4 - (3 + 1))
          case rel => exact ⟨3 + 1, by omega, by go_num, by rw [HST.out]; exact hS2, hu2⟩
          case measure => have := HK.out; omega
    · obtain rfl : k = 4 := by omega
      go_wp2_with fail
      go_ret
      exact ⟨_, rfl, HS.out, HU.out⟩
end Go.Proofs.YtadpibcgjgcjhaaGreat
/- The tops' did: an act on a host. -/
namespace Go.Proofs.YtadpibcgjgcjhaaGreat
open Go.ChangeShapes Go.WideShapes Go.ChangeAt Go.RowKit
set_option maxRecDepth 100000
attribute [local go_sem ↓] Go.wp_at_zero Go.wp_at_succ
variable {w w' : World} {bh bp bf : Nat} {G G' : Nat → G3} {h h' : Hs} {W : Int} {t : Nat → Nat → Int} {F : Nat → Option Fl}

/-- An act on a host, plainly: a number, an error. -/
def hDid (h : Hs) (x : Ac) : (Int × Int) × Hs :=
  if (x.kind.toList == [97, 100, 100]) = true then hAdd h else
  if (x.kind.toList == [114, 101, 109, 111, 118, 101]) = true then ((0, (hRemove h x.n).1), (hRemove h x.n).2) else
  if (x.kind.toList == [112, 108, 117, 103]) = true then ((0, (hPlug h x.n x.a).1), (hPlug h x.n x.a).2) else
  if (x.kind.toList == [117, 110, 112, 108, 117, 103]) = true then ((0, (hUnplug h x.n x.a).1), (hUnplug h x.n x.a).2) else
  if (x.kind.toList == [103, 105, 118, 101]) = true then ((0, (hGive h x.n x.a false).1), (hGive h x.n x.a false).2) else
  if (x.kind.toList == [98, 97, 99, 107]) = true then ((0, (hGive h x.n x.a true).1), (hGive h x.n x.a true).2) else
  if (x.kind.toList == [108, 111, 97, 100]) = true then hLoad h x.n x.a else
  if (x.kind.toList == [115, 116, 111, 114, 101]) = true then ((0, (hStore h x.n x.a x.v).1), (hStore h x.n x.a x.v).2) else
  if (x.kind.toList == [114, 111, 111, 116]) = true then ((0, (hRoot h x.n x.a).1), (hRoot h x.n x.a).2) else
  if (x.kind.toList == [102, 111, 114, 103, 101, 116]) = true then ((0, (hForget h x.n x.a).1), (hForget h x.n x.a).2) else
  if (x.kind.toList == [100, 114, 111, 112]) = true then ((0, (hDrop h x.n x.a).1), (hDrop h x.n x.a).2) else
  if (x.kind.toList == [115, 99, 97, 110]) = true then ((0, (hScan h x.n x.a).1.2), (hScan h x.n x.a).2) else
  if (x.kind.toList == [115, 99, 97, 110, 97, 108, 108]) = true then ((0, 0), (hScanTo h 64).2) else
  ((0, 0), h)
theorem give_false (h : Hs) (n p : Int) : hGive h n p false = hAct h n fun s x => gGive s x p false := by
  unfold hGive hAct
  simp only [Bool.false_and, Bool.false_eq_true, false_and, if_false]
theorem load_le {s : Pl} {x : Gs} (a : Int) : 0 ≤ (gLoad s x a).1.2 := by
  have := at_code s x a false
  unfold gLoad
  split <;> simp only <;> omega
theorem act_le {n : Int} {r : Pl → Gs → Int × Pl × Gs} (hr : ∀ s x, 0 ≤ (r s x).1) : 0 ≤ (hAct h n r).1 := by
  have := hWho_le (h := h) n
  unfold hAct
  split
  · exact this
  · exact hr _ _
theorem hLoad_val (hf : HF h t F W) (n a : Int) : 0 ≤ (hLoad h n a).1.1 ∧ (hLoad h n a).1.1 ≤ 255 := by
  unfold hLoad
  split
  · simp
  · next h0 =>
    obtain ⟨k, x, rfl, _, hx, hat⟩ := hWho_zero (show hWho h n = 0 by have := hWho_le (h := h) n; omega)
    obtain ⟨f, hq, _⟩ := hf.view hx
    have hb := (hf.load hx hq a).2.hr.inv.byt
    have hb : BytOk (gLoad h.s x a).2.1 := hb
    rw [hat]
    unfold gLoad at hb ⊢
    split
    · simp
    · next e =>
      rw [if_neg e] at hb
      exact hb _ _
theorem hDid_cases {P : (Int × Int) × Hs → Prop} (x : Ac) (h0 : (x.kind.toList == [97, 100, 100]) = true → P (hAdd h)) (h1 : (x.kind.toList == [114, 101, 109, 111, 118, 101]) = true → P (((0, (hRemove h x.n).1), (hRemove h x.n).2))) (h2 : (x.kind.toList == [112, 108, 117, 103]) = true → P (((0, (hPlug h x.n x.a).1), (hPlug h x.n x.a).2))) (h3 : (x.kind.toList == [117, 110, 112, 108, 117, 103]) = true → P (((0, (hUnplug h x.n x.a).1), (hUnplug h x.n x.a).2))) (h4 : (x.kind.toList == [103, 105, 118, 101]) = true → P (((0, (hGive h x.n x.a false).1), (hGive h x.n x.a false).2))) (h5 : (x.kind.toList == [98, 97, 99, 107]) = true → P (((0, (hGive h x.n x.a true).1), (hGive h x.n x.a true).2))) (h6 : (x.kind.toList == [108, 111, 97, 100]) = true → P (hLoad h x.n x.a)) (h7 : (x.kind.toList == [115, 116, 111, 114, 101]) = true → P (((0, (hStore h x.n x.a x.v).1), (hStore h x.n x.a x.v).2))) (h8 : (x.kind.toList == [114, 111, 111, 116]) = true → P (((0, (hRoot h x.n x.a).1), (hRoot h x.n x.a).2))) (h9 : (x.kind.toList == [102, 111, 114, 103, 101, 116]) = true → P (((0, (hForget h x.n x.a).1), (hForget h x.n x.a).2))) (h10 : (x.kind.toList == [100, 114, 111, 112]) = true → P (((0, (hDrop h x.n x.a).1), (hDrop h x.n x.a).2))) (h11 : (x.kind.toList == [115, 99, 97, 110]) = true → P (((0, (hScan h x.n x.a).1.2), (hScan h x.n x.a).2))) (h12 : (x.kind.toList == [115, 99, 97, 110, 97, 108, 108]) = true → P (((0, 0), (hScanTo h 64).2))) (he : P ((0, 0), h)) : P (hDid h x) := by
  unfold hDid
  by_cases k0 : (x.kind.toList == [97, 100, 100]) = true
  · rw [if_pos k0]; exact h0 k0
  · rw [if_neg k0]
    by_cases k1 : (x.kind.toList == [114, 101, 109, 111, 118, 101]) = true
    · rw [if_pos k1]; exact h1 k1
    · rw [if_neg k1]
      by_cases k2 : (x.kind.toList == [112, 108, 117, 103]) = true
      · rw [if_pos k2]; exact h2 k2
      · rw [if_neg k2]
        by_cases k3 : (x.kind.toList == [117, 110, 112, 108, 117, 103]) = true
        · rw [if_pos k3]; exact h3 k3
        · rw [if_neg k3]
          by_cases k4 : (x.kind.toList == [103, 105, 118, 101]) = true
          · rw [if_pos k4]; exact h4 k4
          · rw [if_neg k4]
            by_cases k5 : (x.kind.toList == [98, 97, 99, 107]) = true
            · rw [if_pos k5]; exact h5 k5
            · rw [if_neg k5]
              by_cases k6 : (x.kind.toList == [108, 111, 97, 100]) = true
              · rw [if_pos k6]; exact h6 k6
              · rw [if_neg k6]
                by_cases k7 : (x.kind.toList == [115, 116, 111, 114, 101]) = true
                · rw [if_pos k7]; exact h7 k7
                · rw [if_neg k7]
                  by_cases k8 : (x.kind.toList == [114, 111, 111, 116]) = true
                  · rw [if_pos k8]; exact h8 k8
                  · rw [if_neg k8]
                    by_cases k9 : (x.kind.toList == [102, 111, 114, 103, 101, 116]) = true
                    · rw [if_pos k9]; exact h9 k9
                    · rw [if_neg k9]
                      by_cases k10 : (x.kind.toList == [100, 114, 111, 112]) = true
                      · rw [if_pos k10]; exact h10 k10
                      · rw [if_neg k10]
                        by_cases k11 : (x.kind.toList == [115, 99, 97, 110]) = true
                        · rw [if_pos k11]; exact h11 k11
                        · rw [if_neg k11]
                          by_cases k12 : (x.kind.toList == [115, 99, 97, 110, 97, 108, 108]) = true
                          · rw [if_pos k12]; exact h12 k12
                          · rw [if_neg k12]
                            exact he
theorem hDid_code (hf : HF h t F W) (x : Ac) (hW : 0 ≤ W) : 0 ≤ (hDid h x).1.2 := by
  have hw := hWho_le (h := h) x.n
  refine hDid_cases (P := fun r => 0 ≤ r.1.2) x (fun _ => ?_) (fun _ => ?_) (fun _ => ?_) (fun _ => ?_) (fun _ => ?_) (fun _ => ?_) (fun _ => ?_) (fun _ => ?_) (fun _ => ?_) (fun _ => ?_) (fun _ => ?_) (fun _ => ?_) (fun _ => ?_) ?_
  · exact (hf.hadd hW).2.2
  · exact (hf.rem x.n).choose_spec.2.2
  · exact (hf.plug x.n x.a).choose_spec.2.2.1
  · exact (hf.unplug x.n x.a).choose_spec.2.2.1
  · exact (hf.give x.n x.a false).choose_spec.2.2.1
  · exact (hf.give x.n x.a true).choose_spec.2.2.1
  · unfold hLoad
    split
    · exact hw
    · exact load_le _
  · refine act_le (fun s x => ?_)
    have := at_code s x
    unfold gStore
    split
    · exact this _ _
    · unfold Pl.set
      repeat' split
      all_goals simp
  · refine act_le (fun s x => ?_)
    unfold onS gRoot
    simp only
    split <;> simp
  · refine act_le (fun s x => ?_)
    unfold onS gForget
    simp only
    split <;> simp
  · refine act_le (fun s x => ?_)
    unfold onS gForgetAll
    simp only
    split <;> simp
  · by_cases h0 : 0 < hWho h x.n
    · rw [hScan_wrong _ h0]; exact hw
    · obtain ⟨k, y, e, hk, hx, _⟩ := hWho_zero (show hWho h x.n = 0 by omega)
      rw [e]
      cases hp : onB x.a with
      | false => rw [hScan_off hx hk hp]; simp
      | true =>
        obtain ⟨p0, p1⟩ := (onB_iff x.a).1 hp
        obtain ⟨q, e2⟩ := Int.eq_ofNat_of_zero_le p0
        rw [e2, (hf.scan hx (show q < 16 by omega)).2.1]
        exact Int.le_refl _
  · exact Int.le_refl _
  · exact Int.le_refl _
/-- How an act ends. -/
def DPost (w : World) (bh bp bf : Nat) (G : Nat → G3) (h : Hs) (r : (Int × Int) × Hs) (w' : World) : Prop :=
  (∃ G', HM w' bh bp bf G' r.2 ∧ ∀ k, Own bh bp bf G' r.2 k → Own bh bp bf G h k ∨ w.heap.size ≤ k) ∧ Upd (Own bh bp bf G h) w w'
theorem dpost_of {W1 : World} {r : (Int × Int) × Hs} (u0 : Upd (fun _ => False) w W1) (hm : HM w' bh bp bf G r.2) (ho : ∀ k, Own bh bp bf G r.2 k → Own bh bp bf G h k) (hu : Upd (Own bh bp bf G h) W1 w') : DPost w bh bp bf G h r w' :=
  ⟨⟨G, hm, fun k hk => Or.inl (ho k hk)⟩, (MRead.no _ u0).trans hu (fun _ _ f => f)⟩
theorem own_act {n : Int} {r : Pl → Gs → Int × Pl × Gs} {k : Nat} (hk : Own bh bp bf G (hAct h n r).2 k) : Own bh bp bf G h k := by
  unfold hAct at hk
  split at hk
  · exact hk
  · next h0 =>
    obtain ⟨j, x, rfl, _, hx, hat⟩ := hWho_zero (show hWho h n = 0 by have := hWho_le (h := h) n; omega)
    rw [Int.toNat_natCast] at hk
    exact own_put hx hk
theorem own_load {n a : Int} {k : Nat} (hk : Own bh bp bf G (hLoad h n a).2 k) : Own bh bp bf G h k := by
  unfold hLoad at hk
  split at hk
  · exact hk
  · next h0 =>
    obtain ⟨j, x, rfl, _, hx, hat⟩ := hWho_zero (show hWho h n = 0 by have := hWho_le (h := h) n; omega)
    rw [Int.toNat_natCast] at hk
    exact own_put hx hk
theorem own_remove {n : Int} {k : Nat} (hk : Own bh bp bf G (hRemove h n).2 k) : Own bh bp bf G h k := by
  unfold hRemove at hk
  split at hk
  · exact hk
  · rcases hk with e | e | e | ⟨i, y, hy, e⟩
    · exact Or.inl e
    · exact Or.inr (Or.inl e)
    · exact Or.inr (Or.inr (Or.inl e))
    · have hy : setAt h.g n.toNat none i = some y := hy
      by_cases ei : i = n.toNat
      · rw [ei, setAt_same] at hy; cases hy
      · rw [setAt_other _ _ _ _ ei] at hy
        exact Or.inr (Or.inr (Or.inr ⟨i, y, hy, e⟩))
theorem own_plug {n c : Int} {k : Nat} (hk : Own bh bp bf G (hPlug h n c).2 k) : Own bh bp bf G h k := by
  unfold hPlug at hk
  repeat' split at hk
  all_goals first | exact hk | skip
  next h0 _ _ _ =>
    obtain ⟨j, x, rfl, _, hx, hat⟩ := hWho_zero (show hWho h n = 0 by have := hWho_le (h := h) n; omega)
    rw [Int.toNat_natCast] at hk
    exact own_put hx hk
theorem own_unplug {n c : Int} {k : Nat} (hk : Own bh bp bf G (hUnplug h n c).2 k) : Own bh bp bf G h k := by
  unfold hUnplug at hk
  repeat' split at hk
  all_goals first | exact hk | skip
  next h0 _ =>
    obtain ⟨j, x, rfl, _, hx, hat⟩ := hWho_zero (show hWho h n = 0 by have := hWho_le (h := h) n; omega)
    rw [Int.toNat_natCast] at hk
    exact own_put hx hk
theorem own_give {n p : Int} {bk : Bool} {k : Nat} (hk : Own bh bp bf G (hGive h n p bk).2 k) : Own bh bp bf G h k := by
  unfold hGive at hk
  repeat' split at hk
  all_goals first | exact hk | skip
  next h0 _ =>
    obtain ⟨j, x, rfl, _, hx, hat⟩ := hWho_zero (show hWho h n = 0 by have := hWho_le (h := h) n; omega)
    rw [Int.toNat_natCast] at hk
    exact own_put hx hk
theorem own_scan (hf : HF h t F W) {n p : Int} {k : Nat} (hk : Own bh bp bf G (hScan h n p).2 k) : Own bh bp bf G h k := by
  by_cases h0 : 0 < hWho h n
  · rw [hScan_wrong _ h0] at hk; exact hk
  · obtain ⟨j, y, rfl, hj, hx, _⟩ := hWho_zero (show hWho h n = 0 by have := hWho_le (h := h) n; omega)
    cases hp : onB p with
    | false => rw [hScan_off hx hj hp] at hk; exact hk
    | true =>
      obtain ⟨p0, p1⟩ := (onB_iff p).1 hp
      obtain ⟨q, rfl⟩ := Int.eq_ofNat_of_zero_le p0
      exact own_of (hf.scan hx (show q < 16 by omega)).2.2.2.2.2.2.2.1 hk
set_option maxHeartbeats 8000000 in
theorem did_any (m : HM w bh bp bf G h) (hf : HF h t F W) (hW0 : 0 ≤ W) (hW : W ≤ 1000000) (x : Ac) (v0 : 0 ≤ x.v) (v1 : x.v ≤ 255) :
    Calls Tryz.prog 31 #[.pointer (some ⟨bh, 0, none⟩), .agg #[.string x.kind, .int .i64 x.n, .int .i64 x.a, .int .i64 x.b, .int .u8 x.v, .bool x.on]] w
      fun e w' => e = .returned (.tuple #[.int .i64 (hDid h x).1.1, .int .i64 (hDid h x).1.2]) ∧ DPost w bh bp bf G h (hDid h x) w' := by
  have HCD : Hid _ := hDid_code hf x hW0
  have HHF : Hid (HF h t F W) := hf
  have HI : Hid (HInv h W) := hf.hr.inv
  go_enter Tryz.func31, Tryz.ntmps31
  go_upto_block 0 with fail
  have hB := BoxAt.new w x
  have u0 := (Upd.refl (fun _ => False) w).alloc (.cells #[.string x.kind, .int .i64 x.n, .int .i64 x.a, .int .i64 x.b, .int .u8 x.v, .bool x.on] 52)
  have HJ : Hid (HM (w.alloc (.cells #[.string x.kind, .int .i64 x.n, .int .i64 x.a, .int .i64 x.b, .int .u8 x.v, .bool x.on] 52)) bh bp bf G h) := m.same u0
  have HU0 : Hid _ := u0
  clear m u0 hf
  revert hB HU0 HJ
  generalize w.alloc (.cells #[.string x.kind, .int .i64 x.n, .int .i64 x.a, .int .i64 x.b, .int .u8 x.v, .bool x.on] 52) = W1
  generalize w.heap.size = q
  intro hB HJ HU0
  go_cut [6, 7] (fun ev nv wc => ev = errV (hDid h x).1.2 ∧ nv = .int .i64 (hDid h x).1.1 ∧ Hid (DPost w bh bp bf G h (hDid h x) wc))
  case first =>
    by_cases k0 : (x.kind.toList == [97, 100, 100]) = true
    · have HD : Hid (hDid h x = hAdd h) := show hDid h x = _ by unfold hDid; simp only [k0, if_true]
      have HC : Hid _ := hAdd_m HJ.out
      go_wp2_with fail
      refine Calls.mono HC.out ?_
      rintro e w4 ⟨rfl, ⟨G4, hm4, ho4⟩, hu4⟩
      have HP : Hid (DPost w bh bp bf G h (hAdd h) w4) := ⟨⟨G4, hm4, fun j hj => (ho4 j hj).imp id (fun e => Nat.le_trans HU0.out.size e)⟩, (MRead.no _ HU0.out).trans hu4 (fun _ _ f => f)⟩
      clear hm4 ho4 hu4 HC
      go_wp2_with fail
      go_meet
      case rel => exact ⟨by rw [HD.out]; first | done | rfl, by rw [HD.out]; first | done | rfl | rw [wv], by rw [HD.out]; exact HP.out⟩
    · have k0' : (x.kind.toList == [97, 100, 100]) = false := by simpa using k0
      clear k0
      by_cases k1 : (x.kind.toList == [114, 101, 109, 111, 118, 101]) = true
      · have HD : Hid (hDid h x = ((0, (hRemove h x.n).1), (hRemove h x.n).2)) := show hDid h x = _ by unfold hDid; simp only [k0', k1, Bool.false_eq_true, if_false, if_true]
        have c1 := hB.c1
        have HC : Hid _ := hRemove_m HJ.out HI.out x.n
        go_wp2_with fail
        refine Calls.mono HC.out ?_
        rintro e w4 ⟨rfl, hm4, hu4⟩
        have HP : Hid (DPost w bh bp bf G h (((0, (hRemove h x.n).1), (hRemove h x.n).2)) w4) := dpost_of HU0.out hm4 (fun j hk => own_remove hk) hu4
        clear hm4 hu4 HC
        go_wp2_with fail
        go_meet
        case rel => exact ⟨by rw [HD.out]; first | done | rfl, by rw [HD.out]; first | done | rfl | rw [wv], by rw [HD.out]; exact HP.out⟩
      · have k1' : (x.kind.toList == [114, 101, 109, 111, 118, 101]) = false := by simpa using k1
        clear k1
        by_cases k2 : (x.kind.toList == [112, 108, 117, 103]) = true
        · have HD : Hid (hDid h x = ((0, (hPlug h x.n x.a).1), (hPlug h x.n x.a).2)) := show hDid h x = _ by unfold hDid; simp only [k0', k1', k2, Bool.false_eq_true, if_false, if_true]
          have c1 := hB.c1
          have c2 := hB.c2
          have HC : Hid _ := hPlug_m HJ.out HI.out HHF.out.blk x.n x.a
          go_wp2_with fail
          refine Calls.mono HC.out ?_
          rintro e w4 ⟨rfl, hm4, hu4⟩
          have HP : Hid (DPost w bh bp bf G h (((0, (hPlug h x.n x.a).1), (hPlug h x.n x.a).2)) w4) := dpost_of HU0.out hm4 (fun j hk => own_plug hk) hu4
          clear hm4 hu4 HC
          go_wp2_with fail
          go_meet
          case rel => exact ⟨by rw [HD.out]; first | done | rfl, by rw [HD.out]; first | done | rfl | rw [wv], by rw [HD.out]; exact HP.out⟩
        · have k2' : (x.kind.toList == [112, 108, 117, 103]) = false := by simpa using k2
          clear k2
          by_cases k3 : (x.kind.toList == [117, 110, 112, 108, 117, 103]) = true
          · have HD : Hid (hDid h x = ((0, (hUnplug h x.n x.a).1), (hUnplug h x.n x.a).2)) := show hDid h x = _ by unfold hDid; simp only [k0', k1', k2', k3, Bool.false_eq_true, if_false, if_true]
            have c1 := hB.c1
            have c2 := hB.c2
            have HC : Hid _ := hUnplug_m HJ.out HI.out x.n x.a
            go_wp2_with fail
            refine Calls.mono HC.out ?_
            rintro e w4 ⟨rfl, hm4, hu4⟩
            have HP : Hid (DPost w bh bp bf G h (((0, (hUnplug h x.n x.a).1), (hUnplug h x.n x.a).2)) w4) := dpost_of HU0.out hm4 (fun j hk => own_unplug hk) hu4
            clear hm4 hu4 HC
            go_wp2_with fail
            go_meet
            case rel => exact ⟨by rw [HD.out]; first | done | rfl, by rw [HD.out]; first | done | rfl | rw [wv], by rw [HD.out]; exact HP.out⟩
          · have k3' : (x.kind.toList == [117, 110, 112, 108, 117, 103]) = false := by simpa using k3
            clear k3
            by_cases k4 : (x.kind.toList == [103, 105, 118, 101]) = true
            · have HD : Hid (hDid h x = ((0, (hGive h x.n x.a false).1), (hGive h x.n x.a false).2)) := show hDid h x = _ by unfold hDid; simp only [k0', k1', k2', k3', k4, Bool.false_eq_true, if_false, if_true]
              have c1 := hB.c1
              have c2 := hB.c2
              rw [give_false] at HD
              have HC : Hid _ := hGive_m HJ.out HI.out x.n x.a
              go_wp2_with fail
              refine Calls.mono HC.out ?_
              rintro e w4 ⟨rfl, hm4, hu4⟩
              have HP : Hid (DPost w bh bp bf G h (((0, (hAct h x.n fun s y => gGive s y x.a false).1), (hAct h x.n fun s y => gGive s y x.a false).2)) w4) := dpost_of HU0.out hm4 (fun j hk => own_act hk) hu4
              clear hm4 hu4 HC
              go_wp2_with fail
              go_meet
              case rel => exact ⟨by rw [HD.out]; first | done | rfl, by rw [HD.out]; first | done | rfl | rw [wv], by rw [HD.out]; exact HP.out⟩
            · have k4' : (x.kind.toList == [103, 105, 118, 101]) = false := by simpa using k4
              clear k4
              by_cases k5 : (x.kind.toList == [98, 97, 99, 107]) = true
              · have HD : Hid (hDid h x = ((0, (hGive h x.n x.a true).1), (hGive h x.n x.a true).2)) := show hDid h x = _ by unfold hDid; simp only [k0', k1', k2', k3', k4', k5, Bool.false_eq_true, if_false, if_true]
                have c1 := hB.c1
                have c2 := hB.c2
                have HC : Hid _ := hBack_m HJ.out HI.out HHF.out.hr.le x.n x.a
                go_wp2_with fail
                refine Calls.mono HC.out ?_
                rintro e w4 ⟨rfl, hm4, hu4⟩
                have HP : Hid (DPost w bh bp bf G h (((0, (hGive h x.n x.a true).1), (hGive h x.n x.a true).2)) w4) := dpost_of HU0.out hm4 (fun j hk => own_give hk) hu4
                clear hm4 hu4 HC
                go_wp2_with fail
                go_meet
                case rel => exact ⟨by rw [HD.out]; first | done | rfl, by rw [HD.out]; first | done | rfl | rw [wv], by rw [HD.out]; exact HP.out⟩
              · have k5' : (x.kind.toList == [98, 97, 99, 107]) = false := by simpa using k5
                clear k5
                by_cases k6 : (x.kind.toList == [108, 111, 97, 100]) = true
                · have HD : Hid (hDid h x = hLoad h x.n x.a) := show hDid h x = _ by unfold hDid; simp only [k0', k1', k2', k3', k4', k5', k6, Bool.false_eq_true, if_false, if_true]
                  have c1 := hB.c1
                  have c2 := hB.c2
                  have wv : wrap64 (hLoad h x.n x.a).1.1 = (hLoad h x.n x.a).1.1 := by have := hLoad_val HHF.out x.n x.a; unfold wrap64; omega
                  have HC : Hid _ := hLoad_m HJ.out HI.out x.n x.a hW
                  go_wp2_with fail
                  refine Calls.mono HC.out ?_
                  rintro e w4 ⟨rfl, hm4, hu4⟩
                  have HP : Hid (DPost w bh bp bf G h (hLoad h x.n x.a) w4) := dpost_of HU0.out hm4 (fun j hk => own_load hk) hu4
                  clear hm4 hu4 HC
                  go_wp2_with fail
                  go_meet
                  case rel => exact ⟨by rw [HD.out]; first | done | rfl, by rw [HD.out]; first | done | rfl | rw [wv], by rw [HD.out]; exact HP.out⟩
                · have k6' : (x.kind.toList == [108, 111, 97, 100]) = false := by simpa using k6
                  clear k6
                  by_cases k7 : (x.kind.toList == [115, 116, 111, 114, 101]) = true
                  · have HD : Hid (hDid h x = ((0, (hStore h x.n x.a x.v).1), (hStore h x.n x.a x.v).2)) := show hDid h x = _ by unfold hDid; simp only [k0', k1', k2', k3', k4', k5', k6', k7, Bool.false_eq_true, if_false, if_true]
                    have c1 := hB.c1
                    have c2 := hB.c2
                    have c4 := hB.c4
                    have HC : Hid _ := hStore_m HJ.out HI.out x.n x.a x.v v0 v1 hW
                    go_wp2_with fail
                    refine Calls.mono HC.out ?_
                    rintro e w4 ⟨rfl, hm4, hu4⟩
                    have HP : Hid (DPost w bh bp bf G h (((0, (hStore h x.n x.a x.v).1), (hStore h x.n x.a x.v).2)) w4) := dpost_of HU0.out hm4 (fun j hk => own_act hk) hu4
                    clear hm4 hu4 HC
                    go_wp2_with fail
                    go_meet
                    case rel => exact ⟨by rw [HD.out]; first | done | rfl, by rw [HD.out]; first | done | rfl | rw [wv], by rw [HD.out]; exact HP.out⟩
                  · have k7' : (x.kind.toList == [115, 116, 111, 114, 101]) = false := by simpa using k7
                    clear k7
                    by_cases k8 : (x.kind.toList == [114, 111, 111, 116]) = true
                    · have HD : Hid (hDid h x = ((0, (hRoot h x.n x.a).1), (hRoot h x.n x.a).2)) := show hDid h x = _ by unfold hDid; simp only [k0', k1', k2', k3', k4', k5', k6', k7', k8, Bool.false_eq_true, if_false, if_true]
                      have c1 := hB.c1
                      have c2 := hB.c2
                      have HC : Hid _ := hSetRoot_m HJ.out HI.out x.n x.a
                      go_wp2_with fail
                      refine Calls.mono HC.out ?_
                      rintro e w4 ⟨rfl, hm4, hu4⟩
                      have HP : Hid (DPost w bh bp bf G h (((0, (hRoot h x.n x.a).1), (hRoot h x.n x.a).2)) w4) := dpost_of HU0.out hm4 (fun j hk => own_act hk) hu4
                      clear hm4 hu4 HC
                      go_wp2_with fail
                      go_meet
                      case rel => exact ⟨by rw [HD.out]; first | done | rfl, by rw [HD.out]; first | done | rfl | rw [wv], by rw [HD.out]; exact HP.out⟩
                    · have k8' : (x.kind.toList == [114, 111, 111, 116]) = false := by simpa using k8
                      clear k8
                      by_cases k9 : (x.kind.toList == [102, 111, 114, 103, 101, 116]) = true
                      · have HD : Hid (hDid h x = ((0, (hForget h x.n x.a).1), (hForget h x.n x.a).2)) := show hDid h x = _ by unfold hDid; simp only [k0', k1', k2', k3', k4', k5', k6', k7', k8', k9, Bool.false_eq_true, if_false, if_true]
                        have c1 := hB.c1
                        have c2 := hB.c2
                        have HC : Hid _ := hForget_m HJ.out HI.out x.n x.a
                        go_wp2_with fail
                        refine Calls.mono HC.out ?_
                        rintro e w4 ⟨rfl, hm4, hu4⟩
                        have HP : Hid (DPost w bh bp bf G h (((0, (hForget h x.n x.a).1), (hForget h x.n x.a).2)) w4) := dpost_of HU0.out hm4 (fun j hk => own_act hk) hu4
                        clear hm4 hu4 HC
                        go_wp2_with fail
                        go_meet
                        case rel => exact ⟨by rw [HD.out]; first | done | rfl, by rw [HD.out]; first | done | rfl | rw [wv], by rw [HD.out]; exact HP.out⟩
                      · have k9' : (x.kind.toList == [102, 111, 114, 103, 101, 116]) = false := by simpa using k9
                        clear k9
                        by_cases k10 : (x.kind.toList == [100, 114, 111, 112]) = true
                        · have HD : Hid (hDid h x = ((0, (hDrop h x.n x.a).1), (hDrop h x.n x.a).2)) := show hDid h x = _ by unfold hDid; simp only [k0', k1', k2', k3', k4', k5', k6', k7', k8', k9', k10, Bool.false_eq_true, if_false, if_true]
                          have c1 := hB.c1
                          have c2 := hB.c2
                          have HC : Hid _ := hForgetAll_m HJ.out HI.out x.n x.a
                          go_wp2_with fail
                          refine Calls.mono HC.out ?_
                          rintro e w4 ⟨rfl, hm4, hu4⟩
                          have HP : Hid (DPost w bh bp bf G h (((0, (hDrop h x.n x.a).1), (hDrop h x.n x.a).2)) w4) := dpost_of HU0.out hm4 (fun j hk => own_act hk) hu4
                          clear hm4 hu4 HC
                          go_wp2_with fail
                          go_meet
                          case rel => exact ⟨by rw [HD.out]; first | done | rfl, by rw [HD.out]; first | done | rfl | rw [wv], by rw [HD.out]; exact HP.out⟩
                        · have k10' : (x.kind.toList == [100, 114, 111, 112]) = false := by simpa using k10
                          clear k10
                          by_cases k11 : (x.kind.toList == [115, 99, 97, 110]) = true
                          · have HD : Hid (hDid h x = ((0, (hScan h x.n x.a).1.2), (hScan h x.n x.a).2)) := show hDid h x = _ by unfold hDid; simp only [k0', k1', k2', k3', k4', k5', k6', k7', k8', k9', k10', k11, Bool.false_eq_true, if_false, if_true]
                            have c1 := hB.c1
                            have c2 := hB.c2
                            have HC : Hid _ := hScan_m HJ.out HHF.out x.n x.a
                            go_wp2_with fail
                            refine Calls.mono HC.out ?_
                            rintro e w4 ⟨rfl, hm4, hu4⟩
                            have HP : Hid (DPost w bh bp bf G h (((0, (hScan h x.n x.a).1.2), (hScan h x.n x.a).2)) w4) := dpost_of HU0.out hm4 (fun j hk => own_scan HHF.out hk) hu4
                            clear hm4 hu4 HC
                            go_wp2_with fail
                            go_meet
                            case rel => exact ⟨by rw [HD.out]; first | done | rfl, by rw [HD.out]; first | done | rfl | rw [wv], by rw [HD.out]; exact HP.out⟩
                          · have k11' : (x.kind.toList == [115, 99, 97, 110]) = false := by simpa using k11
                            clear k11
                            by_cases k12 : (x.kind.toList == [115, 99, 97, 110, 97, 108, 108]) = true
                            · have HD : Hid (hDid h x = ((0, 0), (hScanTo h 64).2)) := show hDid h x = _ by unfold hDid; simp only [k0', k1', k2', k3', k4', k5', k6', k7', k8', k9', k10', k11', k12, Bool.false_eq_true, if_false, if_true]
                              have HC : Hid _ := hScanAll_m HJ.out HHF.out
                              go_wp2_with fail
                              refine Calls.mono HC.out ?_
                              rintro e w4 ⟨rfl, hm4, hu4⟩
                              have HP : Hid (DPost w bh bp bf G h (((0, 0), (hScanTo h 64).2)) w4) := dpost_of HU0.out hm4 (fun j hk => own_of (HHF.out.scans 64 (Nat.le_refl _)).2.2.2.1 hk) hu4
                              clear hm4 hu4 HC
                              go_wp2_with fail
                              go_meet
                              case rel => exact ⟨by rw [HD.out]; first | done | rfl | (exact errV_zero.symm), by rw [HD.out]; first | done | rfl | rw [wv], by rw [HD.out]; exact HP.out⟩
                            · have k12' : (x.kind.toList == [115, 99, 97, 110, 97, 108, 108]) = false := by simpa using k12
                              clear k12
                              have HD : Hid (hDid h x = ((0, 0), h)) := show hDid h x = _ by unfold hDid; simp only [k0', k1', k2', k3', k4', k5', k6', k7', k8', k9', k10', k11', k12', Bool.false_eq_true, if_false]
                              have HP : Hid (DPost w bh bp bf G h ((0, 0), h) W1) := dpost_of HU0.out HJ.out (fun _ f => f) (Upd.refl _ _)
                              go_wp2_with fail
                              go_meet
                              case rel => exact ⟨by rw [HD.out]; exact errV_zero.symm, by rw [HD.out], by rw [HD.out]; exact HP.out⟩
  case rest =>
    obtain ⟨rfl, rfl, HP⟩ := hcut
    clear hB HJ HU0
    have hc := HCD.out
    obtain ⟨r1, r2, r3, he⟩ : ∃ r1 r2 r3, hDid h x = ((r1, r2), r3) := ⟨_, _, _, rfl⟩
    have HE : Hid (hDid h x = ((r1, r2), r3)) := he
    rw [he] at HP hc ⊢
    simp only at hc ⊢
    clear HCD he
    by_cases h0 : r2 = 0
    · subst h0
      rw [errV_zero]
      go_wp2_with fail
      go_ret2
      rw [HE.out]
      exact ⟨rfl, HP.out⟩
    · rw [errV_no h0]
      have h2 := assert61 wc (.int .i64 r2)
      clear h0
      go_wp2_with fail
      go_ret2
      rw [HE.out]
      exact ⟨rfl, HP.out⟩
end Go.Proofs.YtadpibcgjgcjhaaGreat
