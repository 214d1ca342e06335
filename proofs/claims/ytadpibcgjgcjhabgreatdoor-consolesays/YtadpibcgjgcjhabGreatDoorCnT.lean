/- The console's told. -/
import Derived.Test.YtadpibcgjgcjhabGreatDoorCnS
import Derived.Test.YtadpibcgjgcjhabGreatDoorCnK
namespace Go.Proofs.YtadpibcgjgcjhabGreatDoor
open Go.ChangeShapes Go.WideShapes Go.ChangeAt Go.RowKit
set_option maxRecDepth 100000
attribute [local go_sem ↓] Go.wp_at_zero Go.wp_at_succ
variable {W w w1 w2 w3 w' : World}

/-- The table of the library's decimals. -/
def Tab (w : World) : Prop := Lib.TabIs Tryz.prog w "internal/strconv.uint64pow10" .u64 Lib.pow10Tab
theorem var_upd {nm : String} {g : Nat} (hg : Tryz.prog.globalNamed nm = some g) (u : Upd (fun _ => False) w w') {cs : Array Value} (h : w.var? Tryz.prog nm = some cs) : w'.var? Tryz.prog nm = some cs := by
  unfold World.var? at h ⊢
  rw [hg] at h ⊢
  simp only [Option.bind_some] at h ⊢
  have hl : g < w.heap.size := by
    rcases Nat.lt_or_ge g w.heap.size with hl | hl
    · exact hl
    · rw [Array.getElem?_eq_none hl] at h; cases h
  rw [u.block g hl (fun f => f)]
  exact h
theorem tab_named : ∃ g, Tryz.prog.globalNamed "internal/strconv.uint64pow10" = some g := by
  have h : (Tryz.prog.globalNamed "internal/strconv.uint64pow10").isSome = true := by kernel_rfl
  exact Option.isSome_iff_exists.1 h
theorem Tab.upd (h : Tab w) (u : Upd (fun _ => False) w w') : Tab w' := by
  obtain ⟨g, hg⟩ := tab_named
  exact var_upd hg u h
theorem upd_grow (w : World) (k : Nat) (os : Array Obj) : Upd (fun _ => False) w (Go.Sort.grow (w.drewN k) os) :=
  ⟨rfl, rfl, rfl, by simp [Go.Sort.grow], fun i hi _ => by
    show (w.heap ++ os)[i]? = _
    rw [Array.getElem?_append_left hi]⟩
theorem itoa_any (w : World) (ht : Tab w) (n : Int) (h0 : 0 ≤ n) (h1 : n ≤ 1000000) : Calls Tryz.prog 74 #[.int .i64 n] w fun e w' => e = .returned (.string (TX (numT n))) ∧ Upd (fun _ => False) w w' := by
  refine (Tryz.strconv_Itoa n (by omega) (by omega) w ht).mono ?_
  rintro e w2 ⟨he, k, os, hw⟩
  refine ⟨?_, by rw [hw]; exact upd_grow w k os⟩
  rw [he]
  unfold Lib.itoa
  rw [if_neg (by omega), numT_eq]
  rfl
theorem join_any (w : World) (g c : Nat) (xs : List Int) (hx : ∀ x ∈ xs, x ≤ 1000000) (h4 : xs.length ≤ 4) (hc : xs.length ≤ c) (hg : g < w.heap.size) (hcell : ∀ i, i < xs.length → w.cell? ⟨g, i, none⟩ = some (.string (TX (numT (xs.getD i 0))))) : Calls Tryz.prog 75 #[.slice (some ⟨g, 0, none⟩) xs.length c, .string ⟨#[32]⟩] w fun e w' => e = .returned (.string (TX (listT xs))) ∧ Upd (fun _ => False) w w' := by
  have e : (xs.map fun x => TX (numT x)).map (·.data.toList) = xs.map numT := by rw [List.map_map]; rfl
  have hl := listT_len xs hx
  have := Tryz.strings_Join g 0 c (xs.map fun x => TX (numT x)) ⟨#[32]⟩ w (fun j x hj => by
    rw [List.getElem?_map] at hj
    have hjl : j < xs.length := by
      rcases Nat.lt_or_ge j xs.length with h | h
      · exact h
      · rw [List.getElem?_eq_none h] at hj; cases hj
    rw [List.getElem?_eq_getElem hjl] at hj
    cases hj
    rw [Nat.zero_add, hcell j hjl, List.getD_eq_getElem?_getD, List.getElem?_eq_getElem hjl]
    rfl) hg (by rw [List.length_map]; omega) (by rw [List.length_map]; exact hc) (by rw [e]; unfold listT at hl; exact Nat.le_trans hl (by omega))
  rw [List.length_map, e] at this
  exact this.mono fun _ _ ⟨he, hb⟩ => ⟨he, upd_of_below hb⟩
/-- Texts that are laid one by one. -/
structure WdBox (w : World) (b : Nat) (xs : List Int) (k : Nat) : Prop where
  c : ∀ i, i < xs.length → w.cell? ⟨b, i, none⟩ = some (.string (if i < k then TX (numT (xs.getD i 0)) else ByteArray.empty))
  fz : ∀ o, w.frozen? ⟨b, o, none⟩ = false
  lt : b < w.heap.size
theorem WdBox.upd {b k : Nat} {xs : List Int} (h : WdBox w b xs k) (u : Upd (fun _ => False) w w') : WdBox w' b xs k :=
  ⟨fun i hi => u.cell (h.c i hi) (fun f => f), fun o => by rw [World.frozen?_of_block (w := w) (u.block b h.lt (fun f => f))]; exact h.fz o, Nat.lt_of_lt_of_le h.lt u.size⟩
theorem WdBox.put {b k : Nat} {xs : List Int} (h : WdBox w b xs k) (hk : k < xs.length) : WdBox (w.setCell ⟨b, k, none⟩ (.string (TX (numT (xs.getD k 0))))) b xs (k + 1) := by
  refine ⟨fun i hi => ?_, fun o => by rw [World.frozen?_setCell]; exact h.fz o, by rw [World.size_setCell]; exact h.lt⟩
  by_cases e : i = k
  · subst e
    rw [World.cell?_setCell_same _ _ _ (h.c i hi), if_pos (by omega)]
  · rw [World.cell?_setCell_other _ _ _ _ (addr_ne (Or.inr (fun h => e h.symm))), h.c i hi]
    by_cases h2 : i < k
    · rw [if_pos h2, if_pos (by omega)]
    · rw [if_neg h2, if_neg (by omega)]
theorem make_texts (w : World) (n : Nat) (hn : n ≤ 1000) : ∃ w', (Instr.makeSlice 22 (.int .i64 (n : Int)) (.int .i64 (n : Int))).run Tryz.prog w = .ok (.slice (some ⟨w.heap.size, 0, none⟩) n n) w' ∧
    (∀ i, i < n → w'.cell? ⟨w.heap.size, i, none⟩ = some (.string ByteArray.empty)) ∧ (∀ o, w'.frozen? ⟨w.heap.size, o, none⟩ = false) ∧ w.heap.size < w'.heap.size ∧ Upd (fun _ => False) w w' := by
  obtain ⟨i, hi, he⟩ := Option.map_eq_some_iff.1 infoStr
  simp only [Prod.mk.injEq] at he
  obtain ⟨he1, he2, he3⟩ := he
  obtain ⟨w', hr, ho, hg⟩ := run_makeSlice_full (P := Tryz.prog) w 0 22 9 i (.string ByteArray.empty) 1 Tryz.underlying22 hi he3 he1 .i64 .i64 n (by omega) (by rw [he2]; omega) (by unfold maxLen; omega) (Nat.zero_le _)
  refine ⟨w', hr, fun j hj => ?_, fun o => ho.frozenAt o, ?_, ⟨hg.os, hg.tape, hg.output, hg.size, fun k hk _ => hg.block k hk (by simp)⟩⟩
  · rw [ho.cellAt j (by omega)]
    have : (madeCells #[Value.string ByteArray.empty] (n * 1)).toList[j]? = some (.string ByteArray.empty) := by
      simp only [madeCells, Array.toList_map, Array.toList_range, List.getElem?_map]
      rw [List.getElem?_range (by omega)]
      simp [Nat.mod_one]
    exact this
  · rcases ho.2 with ⟨e, _⟩ | ⟨g, cap, cur, e, _, hh, _⟩
    · cases e
    · cases e
      rcases Nat.lt_or_ge w.heap.size w'.heap.size with h | h
      · exact h
      · rw [Array.getElem?_eq_none h] at hh; cases hh
set_option maxHeartbeats 1000000 in
theorem told_any (w : World) (ht : Tab w) (a : Option Addr) (cap : Nat) (xs : List Int) (ha : IntsAt w a xs) (h4 : xs.length ≤ 4) (hx : ∀ x ∈ xs, 0 ≤ x ∧ x ≤ 1000000) : Calls Tryz.prog 51 #[.slice a xs.length cap] w fun e w' => e = .returned (.string (TX (listT xs))) ∧ Upd (fun _ => False) w w' := by
  have HA : Hid _ := ha
  have HX : Hid _ := hx
  have HT : Hid (Tab w) := ht
  obtain ⟨w0, hmk, hc0, hf0, hl0, hu0⟩ := make_texts w xs.length (by omega)
  have HB0 : Hid (WdBox w0 w.heap.size xs 0) := show WdBox _ _ _ _ from ⟨fun i hi => by rw [hc0 i hi, if_neg (by omega)], hf0, hl0⟩
  have HU0 : Hid (Upd (fun _ => False) w w0) := hu0
  clear ha hx ht hc0 hf0 hl0 hu0
  go_enter Tryz.func51, Tryz.ntmps51
  go_wp2_with fail
  clear hmk
  have HBW : Hid (∀ b, b = w.heap.size → w.heap.size ≤ b) := show ∀ b, b = w.heap.size → w.heap.size ≤ b from fun b e => by omega
  generalize hB : w.heap.size = B at *
  have HBB : Hid _ := hB
  clear hB
  go_loopg [10] xs.length (fun g iv wr => ∃ k : Nat, k + g = xs.length ∧ iv = .int .i64 k ∧ Hid (WdBox wr B xs k) ∧ Hid (Upd (fun _ => False) w wr))
  case atStart => exact ⟨0, by omega, rfl, HB0.out, HU0.out⟩
  case round =>
    clear HB0 HU0
    obtain ⟨k, hk, rfl, HB, HU⟩ := hrel
    have HK : Hid _ := hk
    clear hk
    by_cases hlt : k < xs.length
    · obtain ⟨g, rfl, hc⟩ := HA.out k hlt
      have hcr := HU.out.cell hc (fun f => f)
      clear hc
      have hm : xs.getD k 0 ∈ xs := by rw [List.getD_eq_getElem?_getD, List.getElem?_eq_getElem hlt]; exact List.getElem_mem hlt
      have hxk := HX.out _ hm
      have HIT : Hid (∀ w1, Upd (fun _ => False) wr w1 → _) := fun w1 u => itoa_any w1 (HT.out.upd (HU.out.trans u (fun _ _ f => f))) (xs.getD k 0) hxk.1 hxk.2
      have HPT : Hid (∀ w1, Upd (fun _ => False) wr w1 → _) := fun w1 u => (HB.out.upd u).put hlt
      have HCC : Hid (∀ w1, Upd (fun _ => False) wr w1 → _) := fun w1 u => (HB.out.upd u).c k hlt
      have HFZ : Hid (∀ w1, Upd (fun _ => False) wr w1 → _) := fun w1 u => (HB.out.upd u).fz k
      generalize xs.getD k 0 = x at *
      go_wp2_with fail
      refine Calls.mono (HIT.out wr (Upd.refl _ _)) ?_
      rintro e w2 ⟨rfl, hu2⟩
      have hck := HCC.out w2 hu2
      have hfz := HFZ.out w2 hu2
      have HP2 : Hid _ := HPT.out w2 hu2
      have HU2 : Hid (Upd (fun _ => False) w (w2.setCell ⟨B, k, none⟩ (.string (TX (numT x))))) := (HU.out.trans hu2 (fun _ _ f => f)).setCell _ (fun e => by have := HBB.out; simp only at e; omega) _
      clear hu2 HIT HPT HCC HFZ
      go_wp2_with fail
      go_roundg (xs.length - (k + 1))
      case rel => exact ⟨k + 1, by omega, by go_num, HP2.out, HU2.out⟩
      case measure => have := HK.out; omega
    · have hkk : k = xs.length := by have := HK.out; omega
      subst hkk
      have HJ : Hid _ := join_any wr B xs.length xs (fun x hx => (HX.out x hx).2) h4 (Nat.le_refl _) HB.out.lt (fun i hi => by have := HB.out.c i hi; rw [if_pos hi] at this; exact this)
      go_wp2_with (go_at_call 75; refine Calls.mono HJ.out ?_; rintro e w2 ⟨rfl, hu2⟩)
      go_ret
      exact ⟨rfl, HU.out.trans hu2 (fun _ _ f => f)⟩
end Go.Proofs.YtadpibcgjgcjhabGreatDoor
