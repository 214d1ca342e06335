/- Package host: Scan, ScanAll, Frame. -/
import Derived.Test.YtadpibcgjgcjhabGreatPart16
import Derived.Test.YtadpibcgjgcjhabGreatPart03
namespace Go.Proofs.YtadpibcgjgcjhabGreat
open Go.ChangeShapes Go.WideShapes Go.ChangeAt Go.RowKit
set_option maxRecDepth 100000
attribute [local go_sem ↓] Go.wp_at_zero Go.wp_at_succ
variable {w w' : World} {bh bp bf : Nat} {G G' : Nat → G3} {h h' : Hs} {x : Gs} {s' : Pl} {x' : Gs} {b : Mp} {W : Int} {t : Nat → Nat → Int} {F : Nat → Option Fl}

theorem hScan_m (m : HM w bh bp bf G h) (hf : HF h t F W) (n p : Int) : Calls Tryz.prog 24 #[.pointer (some ⟨bh, 0, none⟩), .int .i64 n, .int .i64 p] w (MScan w bh bp bf G h (hScan h n p)) := by
  by_cases h0 : 0 < hWho h n
  · rw [hScan_wrong p h0]
    exact hScan_bad m hf.hr.inv n p _ (by omega) (by unfold hLeaf; rw [if_pos h0])
  · obtain ⟨k, x, rfl, hk, hx, hat⟩ := hWho_zero (show hWho h n = 0 by have := hWho_le (h := h) n; omega)
    cases hp : onB p with
    | false =>
      rw [hScan_off hx hk hp]
      refine hScan_bad m hf.hr.inv _ p _ (by omega) ?_
      unfold hLeaf lfR
      rw [if_neg h0, hat, hp]; rfl
    | true =>
      obtain ⟨p0, p1⟩ := (onB_iff p).1 hp
      obtain ⟨q, rfl⟩ := Int.eq_ofNat_of_zero_le p0
      have hq : q < 16 := by omega
      cases ht : (x.m.lf q).there with
      | false =>
        rw [hScan_gone hx hk hq ht]
        exact hScan_out m hf.hr.inv hk hq hx ht
      | true => exact hScan_in m hf hk hq hx ht
theorem own_of {k : Nat} (hn : ∀ i, h'.g i = none ↔ h.g i = none) (hk : Own bh bp bf G h' k) : Own bh bp bf G h k := by
  rcases hk with e | e | e | ⟨i, y, hy, e⟩
  · exact Or.inl e
  · exact Or.inr (Or.inl e)
  · exact Or.inr (Or.inr (Or.inl e))
  · cases hx : h.g i with
    | none => have := (hn i).2 hx; rw [hy] at this; cases this
    | some x => exact Or.inr (Or.inr (Or.inr ⟨i, x, hx, e⟩))
set_option maxHeartbeats 1000000 in
theorem hScanAll_m (m : HM w bh bp bf G h) (hf : HF h t F W) : Calls Tryz.prog 8 #[.pointer (some ⟨bh, 0, none⟩)] w fun e w' => e = .returned (.int .i64 (hScanTo h 64).1) ∧ HM w' bh bp bf G (hScanTo h 64).2 ∧ Upd (Own bh bp bf G h) w w' := by
  have HMM : Hid (HM w bh bp bf G h) := m
  have HHF : Hid (HF h t F W) := hf
  clear m hf
  go_enter Tryz.func8, Tryz.ntmps8
  go_wp2_with fail
  go_loopg [3, 7] 64 (fun g c i wr => ∃ k : Nat, k + g = 64 ∧ i = .int .i64 k ∧ c = .int .i64 (hScanTo h k).1 ∧ Hid (HM wr bh bp bf G (hScanTo h k).2) ∧ Hid (Upd (Own bh bp bf G h) w wr))
  case atStart => exact ⟨0, by omega, rfl, rfl, HMM.out, Upd.refl _ _⟩
  case round =>
    obtain ⟨k, hk, rfl, rfl, HMk, HU⟩ := hrel
    have HK : Hid _ := hk
    clear hk
    by_cases hlt : k < 64
    · have HA : Hid _ := fun wr => at_any wr k hlt
      obtain ⟨hs1, _, _, hs4, _, hs6, hs7, _⟩ := HHF.out.scans k (by omega)
      have HS1 : Hid _ := hs1
      have HS4 : Hid _ := hs4
      have HST : Hid (hScanTo h (k + 1) = ((hScanTo h k).1 + (if (hScan (hScanTo h k).2 ((k / 16 : Nat) : Int) ((k % 16 : Nat) : Int)).1.1 = true then 1 else 0), (hScan (hScanTo h k).2 ((k / 16 : Nat) : Int) ((k % 16 : Nat) : Int)).2)) := rfl
      clear hs1 hs4
      go_wp2_with fail
      refine Calls.mono (HA.out _) ?_
      rintro e w1 ⟨rfl, hu1⟩
      have hs := hScan_m (HMk.out.same hu1) HS1.out ((k / 16 : Nat) : Int) ((k % 16 : Nat) : Int)
      have HU1 : Hid (Upd (Own bh bp bf G h) w w1) := HU.out.trans (MRead.no _ hu1) (fun _ _ f => f)
      unfold MScan at hs
      revert hs HST
      generalize hScan (hScanTo h k).2 ((k / 16 : Nat) : Int) ((k % 16 : Nat) : Int) = r
      obtain ⟨⟨r1, r2⟩, r3⟩ := r
      simp only
      generalize errV r2 = ev
      intro HST hs
      have HS : Hid _ := hs
      clear hs hu1 HA HMk HU
      generalize (hScanTo h k).1 = cnt at *
      go_wp2_with fail
      refine Calls.mono HS.out ?_
      rintro e w2 ⟨rfl, hm2, hu2⟩
      have HM2 : Hid (HM w2 bh bp bf G r3) := hm2
      have HU2 : Hid (Upd (Own bh bp bf G h) w w2) := HU1.out.trans hu2 (fun i _ e => own_of HS4.out e)
      clear hm2 hu2 HS
      cases r1 with
      | true =>
        go_wp2_with fail
        go_roundg (64 - (k + 1))
        case rel => exact ⟨k + 1, by omega, by go_num, by rw [HST.out]; go_num, by rw [HST.out]; exact HM2.out, HU2.out⟩
        case measure => have := HK.out; omega
      | false =>
        go_wp2_with fail
        go_roundg (64 - (k + 1))
        case rel => exact ⟨k + 1, by omega, by go_num, by rw [HST.out]; simp, by rw [HST.out]; exact HM2.out, HU2.out⟩
        case measure => have := HK.out; omega
    · obtain rfl : k = 64 := by have := HK.out; omega
      go_wp2_with fail
      go_ret
      exact ⟨rfl, HMk.out, HU.out⟩
end Go.Proofs.YtadpibcgjgcjhabGreat
/- Package host: Frame, Cached, Guests. -/
namespace Go.Proofs.YtadpibcgjgcjhabGreat
open Go.ChangeShapes Go.WideShapes Go.ChangeAt Go.RowKit
set_option maxRecDepth 100000
attribute [local go_sem ↓] Go.wp_at_zero Go.wp_at_succ
variable {w w' : World} {bh bp bf : Nat} {G G' : Nat → G3} {h h' : Hs} {x : Gs} {s' : Pl} {x' : Gs} {b : Mp} {W : Int} {t : Nat → Nat → Int} {F : Nat → Option Fl}

end Go.Proofs.YtadpibcgjgcjhabGreat
/- Slices of numbers. -/
namespace Go.Proofs.YtadpibcgjgcjhabGreat
open Go.ChangeShapes Go.WideShapes Go.ChangeAt Go.RowKit
set_option maxRecDepth 100000

def nmC (l : List Nat) : List Value := l.map fun (n : Nat) => Value.int .i64 (n : Int)
theorem nmC_length (l : List Nat) : (nmC l).length = l.length := by simp [nmC]
/-- A list of numbers that a slice holds. -/
def SlN (w : World) (base : Nat) (v : Value) (l : List Nat) : Prop := w.ownsRow base 3 1 v l.length (nmC l)
theorem SlN.nil (w : World) (base : Nat) : SlN w base (.slice none 0 0) [] := World.ownsRow_nil _ _ _ _
theorem SlN.form {w : World} {base : Nat} {v : Value} {l : List Nat} (h : SlN w base v l) : ∃ a cap, v = .slice a l.length cap ∧ (∀ i, i < l.length → ∃ g, a = some ⟨g, 0, none⟩ ∧ base ≤ g ∧ g < w.heap.size ∧ w.cell? ⟨g, i, none⟩ = some (.int .i64 (l.getD i 0 : Nat))) := by
  rcases h.2 with ⟨rfl, h0⟩ | ⟨g, cap, cur, rfl, hb, hg, _⟩
  · exact ⟨none, 0, by rw [h0], fun i hi => absurd hi (by omega)⟩
  · refine ⟨some ⟨g, 0, none⟩, cap, rfl, fun i hi => ⟨g, rfl, hb, ?_, ?_⟩⟩
    · rcases Nat.lt_or_ge g w.heap.size with hlt | hge
      · exact hlt
      · rw [Array.getElem?_eq_none hge] at hg; cases hg
    · have hu : (nmC l)[i]? = some (.int .i64 (l.getD i 0 : Nat)) := by
        simp [nmC, List.getElem?_map, List.getElem?_eq_getElem hi, List.getD_eq_getElem?_getD]
      have := World.ownsRow.cells h (g := g) rfl _ _ hu
      rw [Addr.add_mid, Nat.zero_add] at this
      exact this
theorem SlN.upd {S : Nat → Prop} {w w' : World} {base : Nat} {v : Value} {l : List Nat} (h : SlN w base v l) (u : Upd S w w') (hS : ∀ k, v.ownBlock = some k → ¬ S k) : SlN w' base v l := by
  refine ⟨h.1, ?_⟩
  rcases h.2 with h0 | ⟨g, cap, cur, rfl, hb, hg, r⟩
  · exact Or.inl h0
  · refine Or.inr ⟨g, cap, cur, rfl, hb, ?_, r⟩
    have hlt : g < w.heap.size := by
      rcases Nat.lt_or_ge g w.heap.size with hlt | hge
      · exact hlt
      · rw [Array.getElem?_eq_none hge] at hg; cases hg
    rw [u.block g hlt (hS g (by simp [Value.ownBlock]))]
    exact hg
theorem SlN.grown {w wr w2 : World} {v : Value} {l : List Nat} {x : Nat} {g cap : Nat} (hu : Upd (fun _ => False) w wr) (hS : SlN wr w.heap.size v l) (o : Obj)
    (hown : w2.ownsRow w.heap.size 3 1 (.slice (some ⟨g, 0, none⟩) (l.length + 1) cap) (l.length + 1) (nmC l ++ [.int .i64 (x : Int)])) (hgrow : (wr.alloc o).grownBy w2 v.ownBlock) :
    SlN w2 w.heap.size (.slice (some ⟨g, 0, none⟩) (l.length + 1) cap) (l ++ [x]) ∧ Upd (fun _ => False) w w2 := by
  refine ⟨?_, hgrow.os.trans hu.os, hgrow.tape.trans hu.tape, hgrow.output.trans hu.output, ?_, ?_⟩
  · unfold SlN
    rw [List.length_append]
    simpa [nmC] using hown
  · have := hgrow.size
    simp only [World.size_alloc] at this
    have := hu.size
    omega
  · intro k hk _
    have hz := hu.size
    rw [hgrow.block k (by simp only [World.size_alloc]; omega) (by
      intro e
      have := World.ownsRow.lt hS k e.symm
      omega), Below.heap_alloc _ _ _ (by omega)]
    exact hu.block k hk (fun f => f)
theorem infoInt : (Tryz.prog.info? 3).map (fun i => (i.size, i.bytes, i.zero)) = some (1, 8, some (.int .i64 0)) := by kernel_rfl
end Go.Proofs.YtadpibcgjgcjhabGreat
/- Package host: Guests. -/
namespace Go.Proofs.YtadpibcgjgcjhabGreat
open Go.ChangeShapes Go.WideShapes Go.ChangeAt Go.RowKit
set_option maxRecDepth 100000
attribute [local go_sem ↓] Go.wp_at_zero Go.wp_at_succ
variable {w w' : World} {bh bp bf : Nat} {G G' : Nat → G3} {h h' : Hs} {x : Gs} {W : Int}

/-- The guests' numbers, up to one. -/
def hNums (h : Hs) : Nat → List Nat
  | 0 => []
  | k + 1 => hNums h k ++ (match h.g k with | some _ => [k] | none => [])
theorem hNums_len (h : Hs) : ∀ k, (hNums h k).length ≤ k
  | 0 => Nat.le_refl _
  | k + 1 => by
    have := hNums_len h k
    simp only [hNums, List.length_append]
    split <;> simp <;> omega
theorem idx4 (p0 p1 p2 p3 : Value) (w : World) : (Instr.index 48 (.agg #[p0, p1, p2, p3]) (.int .i64 0)).run Tryz.prog w = .ok p0 w ∧ (Instr.index 48 (.agg #[p0, p1, p2, p3]) (.int .i64 1)).run Tryz.prog w = .ok p1 w ∧ (Instr.index 48 (.agg #[p0, p1, p2, p3]) (.int .i64 2)).run Tryz.prog w = .ok p2 w ∧ (Instr.index 48 (.agg #[p0, p1, p2, p3]) (.int .i64 3)).run Tryz.prog w = .ok p3 w := ⟨by kernel_rfl, by kernel_rfl, by kernel_rfl, by kernel_rfl⟩
set_option maxHeartbeats 2000000 in
theorem hGuests_any (m : HM w bh bp bf G h) : Calls Tryz.prog 9 #[.pointer (some ⟨bh, 0, none⟩)] w fun e w' => ∃ v, e = .returned v ∧ SlN w' w.heap.size v (hNums h 4) ∧ Upd (fun _ => False) w w' := by
  have c0 := m.cg 0 (by omega)
  have c1 := m.cg 1 (by omega)
  have c2 := m.cg 2 (by omega)
  have c3 := m.cg 3 (by omega)
  simp only [Nat.add_zero] at c0
  simp only [Nat.reduceAdd] at c1 c2 c3
  clear m
  generalize hp0 : gPtr (h.g 0) (G 0).g = p0 at *
  generalize hp1 : gPtr (h.g 1) (G 1).g = p1 at *
  generalize hp2 : gPtr (h.g 2) (G 2).g = p2 at *
  generalize hp3 : gPtr (h.g 3) (G 3).g = p3 at *
  have HP0 : Hid _ := hp0
  have HP1 : Hid _ := hp1
  have HP2 : Hid _ := hp2
  have HP3 : Hid _ := hp3
  clear hp0 hp1 hp2 hp3
  go_enter Tryz.func9, Tryz.ntmps9
  go_wp2_with fail
  go_loopg [3, 10] 4 (fun g l i wr => ∃ k : Nat, k + g = 4 ∧ i = .int .i64 k ∧ Hid (SlN wr w.heap.size l (hNums h k)) ∧ Hid (Upd (fun _ => False) w wr))
  case atStart => exact ⟨0, by omega, rfl, SlN.nil _ _, Upd.refl _ _⟩
  case round =>
    clear c0 c1 c2 c3
    obtain ⟨k, hk, rfl, HS, HU⟩ := hrel
    have HK : Hid _ := hk
    by_cases hlt : k < 4
    · clear hk
      have hk4 : k = 0 ∨ k = 1 ∨ k = 2 ∨ k = 3 := by omega
      rcases hk4 with rfl | rfl | rfl | rfl
      · cases hx : h.g 0 with
        | none =>
          have HST : Hid (hNums h (0 + 1) = hNums h 0) := show hNums h (0 + 1) = _ by simp only [hNums, hx, List.append_nil]
          have hb : (binOp .neq 47 p0 (.pointer none)).run Tryz.prog wr = .ok (.bool false) wr := by rw [← HP0.out, hx]; rfl
          have hg : (eqGuard .neq 47 (Operand.tmp 14) (Operand.const (.pointer none)) p0 (.pointer none)).run Tryz.prog wr = .ok () wr := by rw [← HP0.out, hx]; rfl
          clear hx
          have ix := (idx4 p0 p1 p2 p3 wr).1
          go_wp2_with fail
          go_roundg (4 - (0 + 1))
          case rel => exact ⟨0 + 1, by omega, by go_num, by rw [HST.out]; exact HS.out, HU.out⟩
          case measure => have := HK.out; omega
        | some y =>
          have hb : (binOp .neq 47 p0 (.pointer none)).run Tryz.prog wr = .ok (.bool true) wr := by rw [← HP0.out, hx]; rfl
          have hg : (eqGuard .neq 47 (Operand.tmp 14) (Operand.const (.pointer none)) p0 (.pointer none)).run Tryz.prog wr = .ok () wr := by rw [← HP0.out, hx]; rfl
          have ix := (idx4 p0 p1 p2 p3 wr).1
          obtain ⟨i, hi, he⟩ := Option.map_eq_some_iff.1 infoInt
          simp only [Prod.mk.injEq] at he
          obtain ⟨he1, he2, he3⟩ := he
          have HE1 : Hid _ := he1
          have HE2 : Hid _ := he2
          have HE3 : Hid _ := he3
          have HI : Hid _ := hi
          clear he1 he2 he3 hi
          have hkl := hNums_len h 0
          have HN : Hid (∀ j u, ([.int .i64 (0 : Int)] : List Value)[j]? = some u → (wr.alloc (.cells #[.int .i64 (0 : Int)] 3)).cell? ((⟨wr.heap.size, 0, none⟩ : Addr).add j) = some u) := by
            show ∀ j u, _
            intro j u hj
            rw [Addr.add_mid, Nat.zero_add, World.cell?_alloc_new, ← hj]
            simp
          have HO : Hid _ := World.ownsRow.alloc HS.out (.cells #[.int .i64 (0 : Int)] 3)
          have HB : Hid (w.heap.size ≤ (wr.alloc (.cells #[.int .i64 (0 : Int)] 3)).heap.size) := show _ ≤ _ by have := HU.out.size; simp only [World.size_alloc]; omega
          have H1 : Hid (∀ u ∈ ([.int .i64 (0 : Int)] : List Value), u.oneCell' = true) := show ∀ u ∈ ([.int .i64 (0 : Int)] : List Value), _ from fun u hu' => by simp at hu'; subst hu'; rfl
          have HST : Hid (hNums h (0 + 1) = hNums h 0 ++ [0]) := show hNums h (0 + 1) = _ by simp only [hNums, hx]
          clear hx
          generalize hfs : hNums h 0 = fs at *
          clear hfs
          go_wp2_with (at_builtin; refine wpList_append_lies _ (by rfl) _ _ 34 (by rfl) w.heap.size 3 i (.int .i64 0) 1 8 Tryz.underlying34 HI.out HE3.out HE1.out HE2.out (by rfl) (by omega) u3 fs.length (nmC fs) (by rfl) HO.out ⟨wr.heap.size, 0, none⟩ 1 1 ([.int .i64 (0 : Int)]) (by rfl) (by rfl) HN.out H1.out (by omega) (by unfold maxLen; omega) (by omega) HB.out (wr.heap.size + 1) (by simp) ?_; intro g2 cap2 w2 hown hgrow hat hlt2)
          obtain ⟨hS2, hu2⟩ := SlN.grown (x := 0) HU.out HS.out _ hown hgrow
          clear hown hgrow hat hlt2
          go_roundg (4 - (0 + 1))
          case rel => exact ⟨0 + 1, by omega, by go_num, by rw [HST.out]; exact hS2, hu2⟩
          case measure => have := HK.out; omega
      · cases hx : h.g 1 with
        | none =>
          have HST : Hid (hNums h (1 + 1) = hNums h 1) := show hNums h (1 + 1) = _ by simp only [hNums, hx, List.append_nil]
          have hb : (binOp .neq 47 p1 (.pointer none)).run Tryz.prog wr = .ok (.bool false) wr := by rw [← HP1.out, hx]; rfl
          have hg : (eqGuard .neq 47 (Operand.tmp 14) (Operand.const (.pointer none)) p1 (.pointer none)).run Tryz.prog wr = .ok () wr := by rw [← HP1.out, hx]; rfl
          clear hx
          have ix := (idx4 p0 p1 p2 p3 wr).2.1
          go_wp2_with fail
          go_roundg (4 - (1 + 1))
          case rel => exact ⟨1 + 1, by omega, by go_num, by rw [HST.out]; exact HS.out, HU.out⟩
          case measure => have := HK.out; omega
        | some y =>
          have hb : (binOp .neq 47 p1 (.pointer none)).run Tryz.prog wr = .ok (.bool true) wr := by rw [← HP1.out, hx]; rfl
          have hg : (eqGuard .neq 47 (Operand.tmp 14) (Operand.const (.pointer none)) p1 (.pointer none)).run Tryz.prog wr = .ok () wr := by rw [← HP1.out, hx]; rfl
          have ix := (idx4 p0 p1 p2 p3 wr).2.1
          obtain ⟨i, hi, he⟩ := Option.map_eq_some_iff.1 infoInt
          simp only [Prod.mk.injEq] at he
          obtain ⟨he1, he2, he3⟩ := he
          have HE1 : Hid _ := he1
          have HE2 : Hid _ := he2
          have HE3 : Hid _ := he3
          have HI : Hid _ := hi
          clear he1 he2 he3 hi
          have hkl := hNums_len h 1
          have HN : Hid (∀ j u, ([.int .i64 (1 : Int)] : List Value)[j]? = some u → (wr.alloc (.cells #[.int .i64 (1 : Int)] 3)).cell? ((⟨wr.heap.size, 0, none⟩ : Addr).add j) = some u) := by
            show ∀ j u, _
            intro j u hj
            rw [Addr.add_mid, Nat.zero_add, World.cell?_alloc_new, ← hj]
            simp
          have HO : Hid _ := World.ownsRow.alloc HS.out (.cells #[.int .i64 (1 : Int)] 3)
          have HB : Hid (w.heap.size ≤ (wr.alloc (.cells #[.int .i64 (1 : Int)] 3)).heap.size) := show _ ≤ _ by have := HU.out.size; simp only [World.size_alloc]; omega
          have H1 : Hid (∀ u ∈ ([.int .i64 (1 : Int)] : List Value), u.oneCell' = true) := show ∀ u ∈ ([.int .i64 (1 : Int)] : List Value), _ from fun u hu' => by simp at hu'; subst hu'; rfl
          have HST : Hid (hNums h (1 + 1) = hNums h 1 ++ [1]) := show hNums h (1 + 1) = _ by simp only [hNums, hx]
          clear hx
          generalize hfs : hNums h 1 = fs at *
          clear hfs
          go_wp2_with (at_builtin; refine wpList_append_lies _ (by rfl) _ _ 34 (by rfl) w.heap.size 3 i (.int .i64 0) 1 8 Tryz.underlying34 HI.out HE3.out HE1.out HE2.out (by rfl) (by omega) u3 fs.length (nmC fs) (by rfl) HO.out ⟨wr.heap.size, 0, none⟩ 1 1 ([.int .i64 (1 : Int)]) (by rfl) (by rfl) HN.out H1.out (by omega) (by unfold maxLen; omega) (by omega) HB.out (wr.heap.size + 1) (by simp) ?_; intro g2 cap2 w2 hown hgrow hat hlt2)
          obtain ⟨hS2, hu2⟩ := SlN.grown (x := 1) HU.out HS.out _ hown hgrow
          clear hown hgrow hat hlt2
          go_roundg (4 - (1 + 1))
          case rel => exact ⟨1 + 1, by omega, by go_num, by rw [HST.out]; exact hS2, hu2⟩
          case measure => have := HK.out; omega
      · cases hx : h.g 2 with
        | none =>
          have HST : Hid (hNums h (2 + 1) = hNums h 2) := show hNums h (2 + 1) = _ by simp only [hNums, hx, List.append_nil]
          have hb : (binOp .neq 47 p2 (.pointer none)).run Tryz.prog wr = .ok (.bool false) wr := by rw [← HP2.out, hx]; rfl
          have hg : (eqGuard .neq 47 (Operand.tmp 14) (Operand.const (.pointer none)) p2 (.pointer none)).run Tryz.prog wr = .ok () wr := by rw [← HP2.out, hx]; rfl
          clear hx
          have ix := (idx4 p0 p1 p2 p3 wr).2.2.1
          go_wp2_with fail
          go_roundg (4 - (2 + 1))
          case rel => exact ⟨2 + 1, by omega, by go_num, by rw [HST.out]; exact HS.out, HU.out⟩
          case measure => have := HK.out; omega
        | some y =>
          have hb : (binOp .neq 47 p2 (.pointer none)).run Tryz.prog wr = .ok (.bool true) wr := by rw [← HP2.out, hx]; rfl
          have hg : (eqGuard .neq 47 (Operand.tmp 14) (Operand.const (.pointer none)) p2 (.pointer none)).run Tryz.prog wr = .ok () wr := by rw [← HP2.out, hx]; rfl
          have ix := (idx4 p0 p1 p2 p3 wr).2.2.1
          obtain ⟨i, hi, he⟩ := Option.map_eq_some_iff.1 infoInt
          simp only [Prod.mk.injEq] at he
          obtain ⟨he1, he2, he3⟩ := he
          have HE1 : Hid _ := he1
          have HE2 : Hid _ := he2
          have HE3 : Hid _ := he3
          have HI : Hid _ := hi
          clear he1 he2 he3 hi
          have hkl := hNums_len h 2
          have HN : Hid (∀ j u, ([.int .i64 (2 : Int)] : List Value)[j]? = some u → (wr.alloc (.cells #[.int .i64 (2 : Int)] 3)).cell? ((⟨wr.heap.size, 0, none⟩ : Addr).add j) = some u) := by
            show ∀ j u, _
            intro j u hj
            rw [Addr.add_mid, Nat.zero_add, World.cell?_alloc_new, ← hj]
            simp
          have HO : Hid _ := World.ownsRow.alloc HS.out (.cells #[.int .i64 (2 : Int)] 3)
          have HB : Hid (w.heap.size ≤ (wr.alloc (.cells #[.int .i64 (2 : Int)] 3)).heap.size) := show _ ≤ _ by have := HU.out.size; simp only [World.size_alloc]; omega
          have H1 : Hid (∀ u ∈ ([.int .i64 (2 : Int)] : List Value), u.oneCell' = true) := show ∀ u ∈ ([.int .i64 (2 : Int)] : List Value), _ from fun u hu' => by simp at hu'; subst hu'; rfl
          have HST : Hid (hNums h (2 + 1) = hNums h 2 ++ [2]) := show hNums h (2 + 1) = _ by simp only [hNums, hx]
          clear hx
          generalize hfs : hNums h 2 = fs at *
          clear hfs
          go_wp2_with (at_builtin; refine wpList_append_lies _ (by rfl) _ _ 34 (by rfl) w.heap.size 3 i (.int .i64 0) 1 8 Tryz.underlying34 HI.out HE3.out HE1.out HE2.out (by rfl) (by omega) u3 fs.length (nmC fs) (by rfl) HO.out ⟨wr.heap.size, 0, none⟩ 1 1 ([.int .i64 (2 : Int)]) (by rfl) (by rfl) HN.out H1.out (by omega) (by unfold maxLen; omega) (by omega) HB.out (wr.heap.size + 1) (by simp) ?_; intro g2 cap2 w2 hown hgrow hat hlt2)
          obtain ⟨hS2, hu2⟩ := SlN.grown (x := 2) HU.out HS.out _ hown hgrow
          clear hown hgrow hat hlt2
          go_roundg (4 - (2 + 1))
          case rel => exact ⟨2 + 1, by omega, by go_num, by rw [HST.out]; exact hS2, hu2⟩
          case measure => have := HK.out; omega
      · cases hx : h.g 3 with
        | none =>
          have HST : Hid (hNums h (3 + 1) = hNums h 3) := show hNums h (3 + 1) = _ by simp only [hNums, hx, List.append_nil]
          have hb : (binOp .neq 47 p3 (.pointer none)).run Tryz.prog wr = .ok (.bool false) wr := by rw [← HP3.out, hx]; rfl
          have hg : (eqGuard .neq 47 (Operand.tmp 14) (Operand.const (.pointer none)) p3 (.pointer none)).run Tryz.prog wr = .ok () wr := by rw [← HP3.out, hx]; rfl
          clear hx
          have ix := (idx4 p0 p1 p2 p3 wr).2.2.2
          go_wp2_with fail
          go_roundg (4 - (3 + 1))
          case rel => exact ⟨3 + 1, by omega, by go_num, by rw [HST.out]; exact HS.out, HU.out⟩
          case measure => have := HK.out; omega
        | some y =>
          have hb : (binOp .neq 47 p3 (.pointer none)).run Tryz.prog wr = .ok (.bool true) wr := by rw [← HP3.out, hx]; rfl
          have hg : (eqGuard .neq 47 (Operand.tmp 14) (Operand.const (.pointer none)) p3 (.pointer none)).run Tryz.prog wr = .ok () wr := by rw [← HP3.out, hx]; rfl
          have ix := (idx4 p0 p1 p2 p3 wr).2.2.2
          obtain ⟨i, hi, he⟩ := Option.map_eq_some_iff.1 infoInt
          simp only [Prod.mk.injEq] at he
          obtain ⟨he1, he2, he3⟩ := he
          have HE1 : Hid _ := he1
          have HE2 : Hid _ := he2
          have HE3 : Hid _ := he3
          have HI : Hid _ := hi
          clear he1 he2 he3 hi
          have hkl := hNums_len h 3
          have HN : Hid (∀ j u, ([.int .i64 (3 : Int)] : List Value)[j]? = some u → (wr.alloc (.cells #[.int .i64 (3 : Int)] 3)).cell? ((⟨wr.heap.size, 0, none⟩ : Addr).add j) = some u) := by
            show ∀ j u, _
            intro j u hj
            rw [Addr.add_mid, Nat.zero_add, World.cell?_alloc_new, ← hj]
            simp
          have HO : Hid _ := World.ownsRow.alloc HS.out (.cells #[.int .i64 (3 : Int)] 3)
          have HB : Hid (w.heap.size ≤ (wr.alloc (.cells #[.int .i64 (3 : Int)] 3)).heap.size) := show _ ≤ _ by have := HU.out.size; simp only [World.size_alloc]; omega
          have H1 : Hid (∀ u ∈ ([.int .i64 (3 : Int)] : List Value), u.oneCell' = true) := show ∀ u ∈ ([.int .i64 (3 : Int)] : List Value), _ from fun u hu' => by simp at hu'; subst hu'; rfl
          have HST : Hid (hNums h (3 + 1) = hNums h 3 ++ [3]) := show hNums h (3 + 1) = _ by simp only [hNums, hx]
          clear hx
          generalize hfs : hNums h 3 = fs at *
          clear hfs
          go_wp2_with (at_builtin; refine wpList_append_lies _ (by rfl) _ _ 34 (by rfl) w.heap.size 3 i (.int .i64 0) 1 8 Tryz.underlying34 HI.out HE3.out HE1.out HE2.out (by rfl) (by omega) u3 fs.length (nmC fs) (by rfl) HO.out ⟨wr.heap.size, 0, none⟩ 1 1 ([.int .i64 (3 : Int)]) (by rfl) (by rfl) HN.out H1.out (by omega) (by unfold maxLen; omega) (by omega) HB.out (wr.heap.size + 1) (by simp) ?_; intro g2 cap2 w2 hown hgrow hat hlt2)
          obtain ⟨hS2, hu2⟩ := SlN.grown (x := 3) HU.out HS.out _ hown hgrow
          clear hown hgrow hat hlt2
          go_roundg (4 - (3 + 1))
          case rel => exact ⟨3 + 1, by omega, by go_num, by rw [HST.out]; exact hS2, hu2⟩
          case measure => have := HK.out; omega
    · obtain rfl : k = 4 := by omega
      go_wp2_with fail
      go_ret
      exact ⟨_, rfl, HS.out, HU.out⟩
end Go.Proofs.YtadpibcgjgcjhabGreat
/- Package host: Copy. -/
namespace Go.Proofs.YtadpibcgjgcjhabGreat
open Go.ChangeShapes Go.WideShapes Go.ChangeAt Go.RowKit
set_option maxRecDepth 100000
attribute [local go_sem ↓] Go.wp_at_zero Go.wp_at_succ
variable {w w' : World} {bh bp bf : Nat} {G G' : Nat → G3} {h h' : Hs} {x : Gs} {s' : Pl} {x' : Gs} {b : Mp} {W : Int}

/-- A guest is laid. -/
theorem HM.laid {k : Nat} {q : G3} {z0 : Gs} (m : HM w bh bp bf G h) (hk : k < 4) (hx : h.g k = none) (u0 : Upd (fun _ => False) w w') (g : GM1 w' bp q z0) (ap : GAp q.g bp bf q.l q.c) (hq : ∀ j, q.has j → w.heap.size ≤ j) :
    HM (w'.setCell ⟨bh, 1 + k, none⟩ (.pointer (some ⟨q.g, 0, none⟩))) bh bp bf (setAt G k q) ⟨h.s, setAt h.g k (some z0)⟩ := by
  have m1 := m.same u0
  have u := Upd.one w' bh (1 + k) (.pointer (some ⟨q.g, 0, none⟩))
  have hlt := m.lt
  have hp := m.hp
  have hne : ∀ i y, setAt h.g k (some z0) i = some y → (i = k ∧ y = z0) ∨ (i ≠ k ∧ h.g i = some y) := fun i y hy => by
    by_cases e : i = k
    · subst e; rw [setAt_same] at hy; cases hy; exact Or.inl ⟨rfl, rfl⟩
    · rw [setAt_other _ _ _ _ e] at hy; exact Or.inr ⟨e, hy⟩
  have hc := m1.cg k hk
  refine ⟨?_, fun i hi => ?_, fun o => by rw [World.frozen?_setCell]; exact m1.fz o, m1.pool.upd u (fun e => hp.1 e.symm) (fun e => hp.2 e.symm) m1.lt.2.2, fun i y hy => ?_, fun i y hy => ?_, hp, fun i y hy => ?_, fun i j y z hy hz e => ?_, m.hn⟩
  · rw [World.cell?_setCell_other _ _ _ _ (addr_ne (Or.inr (by omega)))]; exact m1.c0
  · by_cases e : i = k
    · subst e
      rw [World.cell?_setCell_same _ _ _ hc]
      show _ = some (gPtr (setAt h.g i (some z0) i) (setAt G i q i).g)
      rw [setAt_same, setAt_same]; rfl
    · rw [World.cell?_setCell_other _ _ _ _ (addr_ne (Or.inr (by omega))), m1.cg i hi]
      show _ = some (gPtr (setAt h.g k (some z0) i) (setAt G k q i).g)
      rw [setAt_other _ _ _ _ e, setAt_other _ _ _ _ e]
  · rcases hne i y hy with ⟨rfl, rfl⟩ | ⟨e, hy'⟩
    · rw [setAt_same]
      exact g.upd u (fun j hj e => by have := hq j hj; omega)
    · rw [setAt_other _ _ _ _ e]
      exact (m1.gu i y hy').upd u (fun j hj e => m.ne i y hy' (by rw [← e]; exact hj))
  · rcases hne i y hy with ⟨rfl, rfl⟩ | ⟨e, hy'⟩
    · rw [setAt_same]; exact ap
    · rw [setAt_other _ _ _ _ e]; exact m.ap i y hy'
  · rcases hne i y hy with ⟨rfl, rfl⟩ | ⟨e, hy'⟩
    · rw [setAt_same]
      intro hj
      have := hq _ hj
      omega
    · rw [setAt_other _ _ _ _ e]; exact m.ne i y hy'
  · rcases hne i y hy with ⟨rfl, rfl⟩ | ⟨e1, hy'⟩
    · rcases hne j z hz with ⟨rfl, rfl⟩ | ⟨e2, hz'⟩
      · exact absurd rfl e
      · rw [setAt_same, setAt_other _ _ _ _ e2]
        intro a ha hb
        have := hq a ha
        have := m.gLt hz' hb
        omega
    · rcases hne j z hz with ⟨rfl, rfl⟩ | ⟨e2, hz'⟩
      · rw [setAt_same, setAt_other _ _ _ _ e1]
        intro a ha hb
        have := hq a hb
        have := m.gLt hy' ha
        omega
      · rw [setAt_other _ _ _ _ e1, setAt_other _ _ _ _ e2]
        exact m.nx i j y z hy' hz' e
theorem HM.bare {s : Pl} (hn : 0 < s.n) (hp : PoolAt w bp bf s) : HM (w.alloc (.cells #[.pointer (some ⟨bp, 0, none⟩), .pointer none, .pointer none, .pointer none, .pointer none] 50)) w.heap.size bp bf G ⟨s, fun _ => none⟩ := by
  have u := (Upd.refl (fun _ => False) w).alloc (.cells #[.pointer (some ⟨bp, 0, none⟩), .pointer none, .pointer none, .pointer none, .pointer none] 50)
  have hlt := hp.lt hn
  have hlp := hp.ltp
  refine ⟨by rw [World.cell?_alloc_new]; rfl, fun i hi => ?_, fun o => World.frozen?_alloc_new _ _ _ _, hp.upd u (fun f => f) (fun f => f) hlt, fun i y hy => (by cases hy), fun i y hy => (by cases hy), ⟨by omega, by omega⟩, fun i y hy => (by cases hy), fun i j y z hy => (by cases hy), hn⟩
  rw [World.cell?_alloc_new]
  have : i = 0 ∨ i = 1 ∨ i = 2 ∨ i = 3 := by omega
  rcases this with rfl | rfl | rfl | rfl <;> rfl
/-- A host's first guests alone. -/
def hTo (h : Hs) (k : Nat) : Hs := ⟨h.s, fun i => if i < k then h.g i else none⟩
theorem hTo_none {k : Nat} (hx : h.g k = none) : hTo h (k + 1) = hTo h k := by
  unfold hTo
  congr
  funext i
  by_cases e : i = k
  · subst e; rw [if_pos (by omega), if_neg (by omega)]; exact hx
  · by_cases l : i < k
    · rw [if_pos l, if_pos (by omega)]
    · rw [if_neg l, if_neg (by omega)]
theorem hTo_some {k : Nat} (hx : h.g k = some x) : hTo h (k + 1) = ⟨h.s, setAt (hTo h k).g k (some x)⟩ := by
  unfold hTo
  congr
  funext i
  by_cases e : i = k
  · subst e; rw [if_pos (by omega), setAt_same]; exact hx
  · rw [setAt_other _ _ _ _ e]
    show _ = if i < k then h.g i else none
    by_cases l : i < k
    · rw [if_pos l, if_pos (by omega)]
    · rw [if_neg l, if_neg (by omega)]
theorem hTo_four (hi : HInv h W) : hTo h 4 = h := by
  obtain ⟨s, g⟩ := h
  unfold hTo
  congr
  funext i
  by_cases l : i < 4
  · rw [if_pos l]
  · rw [if_neg l]
    cases hx : g i with
    | none => rfl
    | some x => have := (hi.gi i x hx).1; omega
/-- The copy, up to a guest. -/
structure Cpd (w wr : World) (bo cp cf : Nat) (h : Hs) : Prop where
  ex : ∃ C, HM wr bo cp cf C h ∧ ∀ k, Own bo cp cf C h k → w.heap.size ≤ k
  up : Upd (fun _ => False) w wr
set_option maxHeartbeats 2000000 in
theorem hCopy_any (m : HM w bh bp bf G h) (hi : HInv h W) : Calls Tryz.prog 29 #[.pointer (some ⟨bh, 0, none⟩)] w fun e w' => ∃ bo cp cf, e = .returned (.pointer (some ⟨bo, 0, none⟩)) ∧ Cpd w w' bo cp cf h := by
  have HMM : Hid (HM w bh bp bf G h) := m
  have HI : Hid (HInv h W) := hi
  have c := m.c0
  have HC : Hid _ := copy_any w bp bf h.s m.pool m.hn
  clear m hi
  go_enter Tryz.func29, Tryz.ntmps29
  go_wp2_with fail
  refine Calls.mono HC.out ?_
  rintro e w1 ⟨cp, cf, rfl, hpool, q1, q2, _, _, hu1⟩
  have u2 := hu1.alloc (.cells #[.pointer (some ⟨cp, 0, none⟩), .pointer none, .pointer none, .pointer none, .pointer none] 50)
  have HC0 : Hid (Cpd w (w1.alloc (.cells #[.pointer (some ⟨cp, 0, none⟩), .pointer none, .pointer none, .pointer none, .pointer none] 50)) w1.heap.size cp cf (hTo h 0)) := by
    refine ⟨⟨G, HM.bare HMM.out.hn hpool, fun k hk => ?_⟩, u2⟩
    have := hu1.size
    rcases hk with e | e | e | ⟨i, x, hx, _⟩
    · omega
    · omega
    · omega
    · cases hx
  have m2 := HMM.out.same u2
  have c0 := m2.cg 0 (by omega)
  have c1 := m2.cg 1 (by omega)
  have c2 := m2.cg 2 (by omega)
  have c3 := m2.cg 3 (by omega)
  simp only [Nat.add_zero] at c0
  simp only [Nat.reduceAdd] at c1 c2 c3
  clear m2 u2 hpool hu1 HC q1 q2 c
  generalize hp0 : gPtr (h.g 0) (G 0).g = p0 at *
  generalize hp1 : gPtr (h.g 1) (G 1).g = p1 at *
  generalize hp2 : gPtr (h.g 2) (G 2).g = p2 at *
  generalize hp3 : gPtr (h.g 3) (G 3).g = p3 at *
  have HP0 : Hid _ := hp0
  have HP1 : Hid _ := hp1
  have HP2 : Hid _ := hp2
  have HP3 : Hid _ := hp3
  clear hp0 hp1 hp2 hp3
  go_wp2_with fail
  revert HC0
  generalize w1.heap.size = bo
  generalize w1.alloc (.cells #[.pointer (some ⟨cp, 0, none⟩), .pointer none, .pointer none, .pointer none, .pointer none] 50) = w2 at *
  intro HC0
  clear c0 c1 c2 c3
  go_loopg [17] 4 (fun g i wr => ∃ k : Nat, k + g = 4 ∧ i = .int .i64 k ∧ Hid (Cpd w wr bo cp cf (hTo h k)))
  case atStart => exact ⟨0, by omega, rfl, HC0.out⟩
  case round =>
    clear HC0
    obtain ⟨k, hk, rfl, HS⟩ := hrel
    have HK : Hid _ := hk
    by_cases hlt : k < 4
    · clear hk
      have hk4 : k = 0 ∨ k = 1 ∨ k = 2 ∨ k = 3 := by omega
      rcases hk4 with rfl | rfl | rfl | rfl
      · have ix := (idx4 p0 p1 p2 p3 wr).1
        cases hx : h.g 0 with
        | none =>
          have HST : Hid _ := hTo_none hx
          have hb : (binOp .neq 47 p0 (.pointer none)).run Tryz.prog wr = .ok (.bool false) wr := by rw [← HP0.out, hx]; rfl
          have hg : (eqGuard .neq 47 (Operand.tmp 21) (Operand.const (.pointer none)) p0 (.pointer none)).run Tryz.prog wr = .ok () wr := by rw [← HP0.out, hx]; rfl
          clear hx
          go_wp2_with fail
          go_roundg (4 - (0 + 1))
          case rel => exact ⟨0 + 1, by omega, by go_num, by rw [HST.out]; exact HS.out⟩
          case measure => have := HK.out; omega
        | some y =>
          have HST : Hid _ := hTo_some hx
          have hp : p0 = .pointer (some ⟨(G 0).g, 0, none⟩) := by rw [← HP0.out, hx]; rfl
          obtain ⟨C, hm, hn⟩ := HS.out.ex
          have HMC : Hid (HM wr bo cp cf C (hTo h 0)) := hm
          have HNC : Hid _ := hn
          have HUW : Hid _ := HS.out.up
          have hcp := hm.c0
          have hci : wr.cell? ⟨bo, 1, none⟩ = some (.pointer none) := hm.cNone (k := 0) (by omega) (by show (if 0 < 0 then h.g 0 else none) = none; exact if_neg (by omega))
          have HCO : Hid (Calls Tryz.prog 50 #[p0, .pointer (some ⟨cp, 0, none⟩)] wr.drew _) := show Calls _ _ _ _ _ by rw [hp]; exact ((HMM.out.same HUW.out.drew).gg HI.out hx).copy cp
          have hb : (binOp .neq 47 p0 (.pointer none)).run Tryz.prog wr = .ok (.bool true) wr := by rw [hp]; rfl
          have hg : (eqGuard .neq 47 (Operand.tmp 21) (Operand.const (.pointer none)) p0 (.pointer none)).run Tryz.prog wr = .ok () wr := by rw [hp]; rfl
          clear hx hm hn HS hp
          go_wp2_with fail
          go_region_held3 (fun w' => w'.cell? ⟨bo, 0, none⟩ = some (.pointer (some ⟨cp, 0, none⟩))) (first | exact hcp | exact d0 | exact d0s _)
            (first
              | (go_at_call 50; refine Calls.mono HCO.out ?_; rintro e w3 ⟨cg, cl, cc, rfl, hce, hlv, hca, s1, s2, s3, n1, n2, n3, hu3⟩; have d := hu3.cell (show wr.drew.cell? ⟨bo, 1, none⟩ = _ from hci) (fun f => f); have d0 := hu3.cell (show wr.drew.cell? _ = _ from hcp) (fun f => f); have z : w3.frozen? ⟨bo, 1, none⟩ = false := (HMC.out.drew.same hu3).fz 1; have d0s : ∀ u, (w3.setCell ⟨bo, 1, none⟩ u).cell? ⟨bo, 0, none⟩ = some (.pointer (some ⟨cp, 0, none⟩)) := fun u => by rw [World.cell?_setCell_other _ _ _ _ (addr_ne (Or.inr (by omega))), d0]))
          have hl := HMC.out.lt
          have hsw := HUW.out.drew.size
          have hdz : wr.drew.heap.size = wr.heap.size := rfl
          have hge := HNC.out
          have HM3 : Hid _ := HMC.out.drew.laid (k := 0) (z0 := y) (by omega) (by show (if 0 < 0 then h.g 0 else none) = none; exact if_neg (by omega)) hu3 (q := ⟨cg, cl, cc⟩) ⟨hce, hlv, hca⟩ (by unfold GAp; have := HMC.out.pool.ne; simp only; omega) (fun j hj => by rcases hj with e | e | e <;> simp only at e <;> omega)
          have HC3 : Hid (Cpd w (w3.setCell ⟨bo, 1, none⟩ (.pointer (some ⟨cg, 0, none⟩))) bo cp cf (hTo h (0 + 1))) := by
            refine ⟨⟨setAt C 0 ⟨cg, cl, cc⟩, by rw [HST.out]; exact HM3.out, fun j hj => ?_⟩, ?_⟩
            · rw [HST.out] at hj
              rcases hj with e | e | e | ⟨i, u, hy, e⟩
              · exact hge j (Or.inl e)
              · exact hge j (Or.inr (Or.inl e))
              · exact hge j (Or.inr (Or.inr (Or.inl e)))
              · by_cases ei : i = 0
                · subst ei
                  rw [setAt_same] at e
                  rcases e with e | e | e <;> simp only at e <;> omega
                · rw [setAt_other _ _ _ _ ei] at e
                  exact hge j (Or.inr (Or.inr (Or.inr ⟨i, u, by rw [← hy]; exact (setAt_other _ _ _ _ ei).symm, e⟩)))
            · exact (HUW.out.drew.trans hu3 (fun _ _ f => f)).setCell ⟨bo, 1, none⟩ (fun hb => by have := hge bo (Or.inl rfl); exact absurd hb (by show ¬ bo < _; omega)) _
          clear hce hlv hca hu3 hge HM3
          trace_state
          go_wp2_with fail
          go_roundg (4 - (0 + 1))
          case rel => exact ⟨0 + 1, by omega, by go_num, HC3.out⟩
          case measure => have := HK.out; omega
      · have ix := (idx4 p0 p1 p2 p3 wr).2.1
        cases hx : h.g 1 with
        | none =>
          have HST : Hid _ := hTo_none hx
          have hb : (binOp .neq 47 p1 (.pointer none)).run Tryz.prog wr = .ok (.bool false) wr := by rw [← HP1.out, hx]; rfl
          have hg : (eqGuard .neq 47 (Operand.tmp 21) (Operand.const (.pointer none)) p1 (.pointer none)).run Tryz.prog wr = .ok () wr := by rw [← HP1.out, hx]; rfl
          clear hx
          go_wp2_with fail
          go_roundg (4 - (1 + 1))
          case rel => exact ⟨1 + 1, by omega, by go_num, by rw [HST.out]; exact HS.out⟩
          case measure => have := HK.out; omega
        | some y =>
          have HST : Hid _ := hTo_some hx
          have hp : p1 = .pointer (some ⟨(G 1).g, 0, none⟩) := by rw [← HP1.out, hx]; rfl
          obtain ⟨C, hm, hn⟩ := HS.out.ex
          have HMC : Hid (HM wr bo cp cf C (hTo h 1)) := hm
          have HNC : Hid _ := hn
          have HUW : Hid _ := HS.out.up
          have hcp := hm.c0
          have hci : wr.cell? ⟨bo, 2, none⟩ = some (.pointer none) := hm.cNone (k := 1) (by omega) (by show (if 1 < 1 then h.g 1 else none) = none; exact if_neg (by omega))
          have HCO : Hid (Calls Tryz.prog 50 #[p1, .pointer (some ⟨cp, 0, none⟩)] wr.drew _) := show Calls _ _ _ _ _ by rw [hp]; exact ((HMM.out.same HUW.out.drew).gg HI.out hx).copy cp
          have hb : (binOp .neq 47 p1 (.pointer none)).run Tryz.prog wr = .ok (.bool true) wr := by rw [hp]; rfl
          have hg : (eqGuard .neq 47 (Operand.tmp 21) (Operand.const (.pointer none)) p1 (.pointer none)).run Tryz.prog wr = .ok () wr := by rw [hp]; rfl
          clear hx hm hn HS hp
          go_wp2_with fail
          go_region_held3 (fun w' => w'.cell? ⟨bo, 0, none⟩ = some (.pointer (some ⟨cp, 0, none⟩))) (first | exact hcp | exact d0 | exact d0s _)
            (first
              | (go_at_call 50; refine Calls.mono HCO.out ?_; rintro e w3 ⟨cg, cl, cc, rfl, hce, hlv, hca, s1, s2, s3, n1, n2, n3, hu3⟩; have d := hu3.cell (show wr.drew.cell? ⟨bo, 2, none⟩ = _ from hci) (fun f => f); have d0 := hu3.cell (show wr.drew.cell? _ = _ from hcp) (fun f => f); have z : w3.frozen? ⟨bo, 2, none⟩ = false := (HMC.out.drew.same hu3).fz 2; have d0s : ∀ u, (w3.setCell ⟨bo, 2, none⟩ u).cell? ⟨bo, 0, none⟩ = some (.pointer (some ⟨cp, 0, none⟩)) := fun u => by rw [World.cell?_setCell_other _ _ _ _ (addr_ne (Or.inr (by omega))), d0]))
          have hl := HMC.out.lt
          have hsw := HUW.out.drew.size
          have hdz : wr.drew.heap.size = wr.heap.size := rfl
          have hge := HNC.out
          have HM3 : Hid _ := HMC.out.drew.laid (k := 1) (z0 := y) (by omega) (by show (if 1 < 1 then h.g 1 else none) = none; exact if_neg (by omega)) hu3 (q := ⟨cg, cl, cc⟩) ⟨hce, hlv, hca⟩ (by unfold GAp; have := HMC.out.pool.ne; simp only; omega) (fun j hj => by rcases hj with e | e | e <;> simp only at e <;> omega)
          have HC3 : Hid (Cpd w (w3.setCell ⟨bo, 2, none⟩ (.pointer (some ⟨cg, 0, none⟩))) bo cp cf (hTo h (1 + 1))) := by
            refine ⟨⟨setAt C 1 ⟨cg, cl, cc⟩, by rw [HST.out]; exact HM3.out, fun j hj => ?_⟩, ?_⟩
            · rw [HST.out] at hj
              rcases hj with e | e | e | ⟨i, u, hy, e⟩
              · exact hge j (Or.inl e)
              · exact hge j (Or.inr (Or.inl e))
              · exact hge j (Or.inr (Or.inr (Or.inl e)))
              · by_cases ei : i = 1
                · subst ei
                  rw [setAt_same] at e
                  rcases e with e | e | e <;> simp only at e <;> omega
                · rw [setAt_other _ _ _ _ ei] at e
                  exact hge j (Or.inr (Or.inr (Or.inr ⟨i, u, by rw [← hy]; exact (setAt_other _ _ _ _ ei).symm, e⟩)))
            · exact (HUW.out.drew.trans hu3 (fun _ _ f => f)).setCell ⟨bo, 2, none⟩ (fun hb => by have := hge bo (Or.inl rfl); exact absurd hb (by show ¬ bo < _; omega)) _
          clear hce hlv hca hu3 hge HM3
          trace_state
          go_wp2_with fail
          go_roundg (4 - (1 + 1))
          case rel => exact ⟨1 + 1, by omega, by go_num, HC3.out⟩
          case measure => have := HK.out; omega
      · have ix := (idx4 p0 p1 p2 p3 wr).2.2.1
        cases hx : h.g 2 with
        | none =>
          have HST : Hid _ := hTo_none hx
          have hb : (binOp .neq 47 p2 (.pointer none)).run Tryz.prog wr = .ok (.bool false) wr := by rw [← HP2.out, hx]; rfl
          have hg : (eqGuard .neq 47 (Operand.tmp 21) (Operand.const (.pointer none)) p2 (.pointer none)).run Tryz.prog wr = .ok () wr := by rw [← HP2.out, hx]; rfl
          clear hx
          go_wp2_with fail
          go_roundg (4 - (2 + 1))
          case rel => exact ⟨2 + 1, by omega, by go_num, by rw [HST.out]; exact HS.out⟩
          case measure => have := HK.out; omega
        | some y =>
          have HST : Hid _ := hTo_some hx
          have hp : p2 = .pointer (some ⟨(G 2).g, 0, none⟩) := by rw [← HP2.out, hx]; rfl
          obtain ⟨C, hm, hn⟩ := HS.out.ex
          have HMC : Hid (HM wr bo cp cf C (hTo h 2)) := hm
          have HNC : Hid _ := hn
          have HUW : Hid _ := HS.out.up
          have hcp := hm.c0
          have hci : wr.cell? ⟨bo, 3, none⟩ = some (.pointer none) := hm.cNone (k := 2) (by omega) (by show (if 2 < 2 then h.g 2 else none) = none; exact if_neg (by omega))
          have HCO : Hid (Calls Tryz.prog 50 #[p2, .pointer (some ⟨cp, 0, none⟩)] wr.drew _) := show Calls _ _ _ _ _ by rw [hp]; exact ((HMM.out.same HUW.out.drew).gg HI.out hx).copy cp
          have hb : (binOp .neq 47 p2 (.pointer none)).run Tryz.prog wr = .ok (.bool true) wr := by rw [hp]; rfl
          have hg : (eqGuard .neq 47 (Operand.tmp 21) (Operand.const (.pointer none)) p2 (.pointer none)).run Tryz.prog wr = .ok () wr := by rw [hp]; rfl
          clear hx hm hn HS hp
          go_wp2_with fail
          go_region_held3 (fun w' => w'.cell? ⟨bo, 0, none⟩ = some (.pointer (some ⟨cp, 0, none⟩))) (first | exact hcp | exact d0 | exact d0s _)
            (first
              | (go_at_call 50; refine Calls.mono HCO.out ?_; rintro e w3 ⟨cg, cl, cc, rfl, hce, hlv, hca, s1, s2, s3, n1, n2, n3, hu3⟩; have d := hu3.cell (show wr.drew.cell? ⟨bo, 3, none⟩ = _ from hci) (fun f => f); have d0 := hu3.cell (show wr.drew.cell? _ = _ from hcp) (fun f => f); have z : w3.frozen? ⟨bo, 3, none⟩ = false := (HMC.out.drew.same hu3).fz 3; have d0s : ∀ u, (w3.setCell ⟨bo, 3, none⟩ u).cell? ⟨bo, 0, none⟩ = some (.pointer (some ⟨cp, 0, none⟩)) := fun u => by rw [World.cell?_setCell_other _ _ _ _ (addr_ne (Or.inr (by omega))), d0]))
          have hl := HMC.out.lt
          have hsw := HUW.out.drew.size
          have hdz : wr.drew.heap.size = wr.heap.size := rfl
          have hge := HNC.out
          have HM3 : Hid _ := HMC.out.drew.laid (k := 2) (z0 := y) (by omega) (by show (if 2 < 2 then h.g 2 else none) = none; exact if_neg (by omega)) hu3 (q := ⟨cg, cl, cc⟩) ⟨hce, hlv, hca⟩ (by unfold GAp; have := HMC.out.pool.ne; simp only; omega) (fun j hj => by rcases hj with e | e | e <;> simp only at e <;> omega)
          have HC3 : Hid (Cpd w (w3.setCell ⟨bo, 3, none⟩ (.pointer (some ⟨cg, 0, none⟩))) bo cp cf (hTo h (2 + 1))) := by
            refine ⟨⟨setAt C 2 ⟨cg, cl, cc⟩, by rw [HST.out]; exact HM3.out, fun j hj => ?_⟩, ?_⟩
            · rw [HST.out] at hj
              rcases hj with e | e | e | ⟨i, u, hy, e⟩
              · exact hge j (Or.inl e)
              · exact hge j (Or.inr (Or.inl e))
              · exact hge j (Or.inr (Or.inr (Or.inl e)))
              · by_cases ei : i = 2
                · subst ei
                  rw [setAt_same] at e
                  rcases e with e | e | e <;> simp only at e <;> omega
                · rw [setAt_other _ _ _ _ ei] at e
                  exact hge j (Or.inr (Or.inr (Or.inr ⟨i, u, by rw [← hy]; exact (setAt_other _ _ _ _ ei).symm, e⟩)))
            · exact (HUW.out.drew.trans hu3 (fun _ _ f => f)).setCell ⟨bo, 3, none⟩ (fun hb => by have := hge bo (Or.inl rfl); exact absurd hb (by show ¬ bo < _; omega)) _
          clear hce hlv hca hu3 hge HM3
          trace_state
          go_wp2_with fail
          go_roundg (4 - (2 + 1))
          case rel => exact ⟨2 + 1, by omega, by go_num, HC3.out⟩
          case measure => have := HK.out; omega
      · have ix := (idx4 p0 p1 p2 p3 wr).2.2.2
        cases hx : h.g 3 with
        | none =>
          have HST : Hid _ := hTo_none hx
          have hb : (binOp .neq 47 p3 (.pointer none)).run Tryz.prog wr = .ok (.bool false) wr := by rw [← HP3.out, hx]; rfl
          have hg : (eqGuard .neq 47 (Operand.tmp 21) (Operand.const (.pointer none)) p3 (.pointer none)).run Tryz.prog wr = .ok () wr := by rw [← HP3.out, hx]; rfl
          clear hx
          go_wp2_with fail
          go_roundg (4 - (3 + 1))
          case rel => exact ⟨3 + 1, by omega, by go_num, by rw [HST.out]; exact HS.out⟩
          case measure => have := HK.out; omega
        | some y =>
          have HST : Hid _ := hTo_some hx
          have hp : p3 = .pointer (some ⟨(G 3).g, 0, none⟩) := by rw [← HP3.out, hx]; rfl
          obtain ⟨C, hm, hn⟩ := HS.out.ex
          have HMC : Hid (HM wr bo cp cf C (hTo h 3)) := hm
          have HNC : Hid _ := hn
          have HUW : Hid _ := HS.out.up
          have hcp := hm.c0
          have hci : wr.cell? ⟨bo, 4, none⟩ = some (.pointer none) := hm.cNone (k := 3) (by omega) (by show (if 3 < 3 then h.g 3 else none) = none; exact if_neg (by omega))
          have HCO : Hid (Calls Tryz.prog 50 #[p3, .pointer (some ⟨cp, 0, none⟩)] wr.drew _) := show Calls _ _ _ _ _ by rw [hp]; exact ((HMM.out.same HUW.out.drew).gg HI.out hx).copy cp
          have hb : (binOp .neq 47 p3 (.pointer none)).run Tryz.prog wr = .ok (.bool true) wr := by rw [hp]; rfl
          have hg : (eqGuard .neq 47 (Operand.tmp 21) (Operand.const (.pointer none)) p3 (.pointer none)).run Tryz.prog wr = .ok () wr := by rw [hp]; rfl
          clear hx hm hn HS hp
          go_wp2_with fail
          go_region_held3 (fun w' => w'.cell? ⟨bo, 0, none⟩ = some (.pointer (some ⟨cp, 0, none⟩))) (first | exact hcp | exact d0 | exact d0s _)
            (first
              | (go_at_call 50; refine Calls.mono HCO.out ?_; rintro e w3 ⟨cg, cl, cc, rfl, hce, hlv, hca, s1, s2, s3, n1, n2, n3, hu3⟩; have d := hu3.cell (show wr.drew.cell? ⟨bo, 4, none⟩ = _ from hci) (fun f => f); have d0 := hu3.cell (show wr.drew.cell? _ = _ from hcp) (fun f => f); have z : w3.frozen? ⟨bo, 4, none⟩ = false := (HMC.out.drew.same hu3).fz 4; have d0s : ∀ u, (w3.setCell ⟨bo, 4, none⟩ u).cell? ⟨bo, 0, none⟩ = some (.pointer (some ⟨cp, 0, none⟩)) := fun u => by rw [World.cell?_setCell_other _ _ _ _ (addr_ne (Or.inr (by omega))), d0]))
          have hl := HMC.out.lt
          have hsw := HUW.out.drew.size
          have hdz : wr.drew.heap.size = wr.heap.size := rfl
          have hge := HNC.out
          have HM3 : Hid _ := HMC.out.drew.laid (k := 3) (z0 := y) (by omega) (by show (if 3 < 3 then h.g 3 else none) = none; exact if_neg (by omega)) hu3 (q := ⟨cg, cl, cc⟩) ⟨hce, hlv, hca⟩ (by unfold GAp; have := HMC.out.pool.ne; simp only; omega) (fun j hj => by rcases hj with e | e | e <;> simp only at e <;> omega)
          have HC3 : Hid (Cpd w (w3.setCell ⟨bo, 4, none⟩ (.pointer (some ⟨cg, 0, none⟩))) bo cp cf (hTo h (3 + 1))) := by
            refine ⟨⟨setAt C 3 ⟨cg, cl, cc⟩, by rw [HST.out]; exact HM3.out, fun j hj => ?_⟩, ?_⟩
            · rw [HST.out] at hj
              rcases hj with e | e | e | ⟨i, u, hy, e⟩
              · exact hge j (Or.inl e)
              · exact hge j (Or.inr (Or.inl e))
              · exact hge j (Or.inr (Or.inr (Or.inl e)))
              · by_cases ei : i = 3
                · subst ei
                  rw [setAt_same] at e
                  rcases e with e | e | e <;> simp only at e <;> omega
                · rw [setAt_other _ _ _ _ ei] at e
                  exact hge j (Or.inr (Or.inr (Or.inr ⟨i, u, by rw [← hy]; exact (setAt_other _ _ _ _ ei).symm, e⟩)))
            · exact (HUW.out.drew.trans hu3 (fun _ _ f => f)).setCell ⟨bo, 4, none⟩ (fun hb => by have := hge bo (Or.inl rfl); exact absurd hb (by show ¬ bo < _; omega)) _
          clear hce hlv hca hu3 hge HM3
          trace_state
          go_wp2_with fail
          go_roundg (4 - (3 + 1))
          case rel => exact ⟨3 + 1, by omega, by go_num, HC3.out⟩
          case measure => have := HK.out; omega
    · obtain rfl : k = 4 := by omega
      rw [hTo_four HI.out] at HS
      go_wp2_with fail
      go_ret
      exact ⟨_, _, _, rfl, HS.out⟩
end Go.Proofs.YtadpibcgjgcjhabGreat
