/- The document's words. -/
import Derived.Test.YtadpibcgjgcjhabGreatDoorCnG
import Derived.Deep.AppendLies
namespace Go.Proofs.YtadpibcgjgcjhabGreatDoor
open Go.ChangeShapes Go.WideShapes Go.ChangeAt Go.RowKit
set_option maxRecDepth 100000
attribute [local go_sem ↓] Go.wp_at_zero Go.wp_at_succ
variable {w w' : World}

/-- Texts, told. -/
def txs (l : List (List UInt8)) : List ByteArray := l.map TX
theorem txs_length (l : List (List UInt8)) : (txs l).length = l.length := by simp [txs]
theorem ext_data (s : ByteArray) (f k : Nat) : s.extract f k = TX ((s.data.toList.drop f).take (k - f)) := by
  apply ByteArray.ext
  simp only [TX, ByteArray.data_extract]
  apply Array.toList_inj.1
  simp [Array.toList_extract, List.extract_eq_take_drop]
theorem piece_snoc {l : List UInt8} {f k : Nat} (hf : f ≤ k) (hk : k < l.length) : (l.drop f).take (k + 1 - f) = (l.drop f).take (k - f) ++ [l[k]] := by
  rw [show k + 1 - f = k - f + 1 by omega, List.take_add_one, List.getElem?_drop, show f + (k - f) = k by omega, List.getElem?_eq_getElem hk]
  simp
theorem words_skip {l p : List UInt8} {k : Nat} (hk : k < l.length) (hb : l[k] ≠ 32) : glue p (wordsL (l.drop k)) = glue (p ++ [l[k]]) (wordsL (l.drop (k + 1))) := by
  rw [List.drop_eq_getElem_cons hk, wordsL, if_neg hb, glue_glue]
theorem words_cut {l p : List UInt8} {k : Nat} (hk : k < l.length) (hb : l[k] = 32) : glue p (wordsL (l.drop k)) = [p] ++ wordsL (l.drop (k + 1)) := by
  rw [List.drop_eq_getElem_cons hk, wordsL, if_pos hb, glue, List.append_nil, List.singleton_append]
theorem words_end {l p : List UInt8} : glue p (wordsL (l.drop l.length)) = [p] := by
  rw [List.drop_length, wordsL, glue, List.append_nil]
/-- Where the reading stands. -/
structure WdAt (s : List UInt8) (k f : Nat) (done : List (List UInt8)) : Prop where
  lo : k ≤ s.length → wordsL s = done ++ glue ((s.drop f).take (k - f)) (wordsL (s.drop k))
  hi : k = s.length + 1 → wordsL s = done
  len : done.length ≤ k
theorem WdAt.start (s : List UInt8) : WdAt s 0 0 [] := ⟨fun _ => by rw [List.nil_append, List.drop_zero, Nat.sub_self, List.take_zero, glue_nil (wordsL_ne _)], fun e => by omega, Nat.le_refl _⟩
theorem WdAt.skip {s : List UInt8} {k f : Nat} {done : List (List UInt8)} (h : WdAt s k f done) (hf : f ≤ k) (hk : k < s.length) (hb : s[k] ≠ 32) : WdAt s (k + 1) f done :=
  ⟨fun _ => by rw [h.lo (by omega), words_skip hk hb, piece_snoc hf hk], fun e => by omega, by have := h.len; omega⟩
theorem WdAt.cut {s : List UInt8} {k f : Nat} {done : List (List UInt8)} (h : WdAt s k f done) (hk : k < s.length) (hb : s[k] = 32) : WdAt s (k + 1) (k + 1) (done ++ [(s.drop f).take (k - f)]) :=
  ⟨fun _ => by rw [h.lo (by omega), words_cut hk hb, Nat.sub_self, List.take_zero, glue_nil (wordsL_ne _), List.append_assoc], fun e => by omega, by have := h.len; simp; omega⟩
theorem WdAt.fin {s : List UInt8} {f : Nat} {done : List (List UInt8)} (h : WdAt s s.length f done) : WdAt s (s.length + 1) (s.length + 1) (done ++ [(s.drop f).take (s.length - f)]) :=
  ⟨fun e => by omega, fun _ => by rw [h.lo (Nat.le_refl _), words_end], by have := h.len; simp; omega⟩
theorem words_any (w : World) (s : ByteArray) (hs : s.size ≤ 300) : Calls Tryz.prog 13 #[.string s] w fun e w' => ∃ v, e = .returned v ∧ SlS w' w.heap.size v (txs (wordsL s.data.toList)) ∧ Upd (fun _ => False) w w' := by
  have hz : s.size = s.data.toList.length := (Array.length_toList (xs := s.data)).symm
  have HZ : Hid _ := hz
  clear hz
  go_enter Tryz.func13, Tryz.ntmps13
  go_wp2_with fail
  go_loopg [3, 4, 5] (s.size + 1) (fun g lv fv iv wr => ∃ (k f : Nat) (done : List (List UInt8)), k + g = s.size + 1 ∧ f ≤ k ∧ iv = .int .i64 k ∧ fv = .int .i64 f ∧ Hid (WdAt s.data.toList k f done) ∧ Hid (SlS wr w.heap.size lv (txs done)) ∧ Hid (Upd (fun _ => False) w wr))
  case atStart => exact ⟨0, 0, [], by omega, by omega, rfl, rfl, WdAt.start _, SlS.nil _ _, Upd.refl _ _⟩
  case round =>
    obtain ⟨k, f, done, hk, hf, rfl, rfl, HD, HS, HU⟩ := hrel
    have HK : Hid _ := hk
    clear hk
    by_cases hle : k ≤ s.size
    · by_cases hc : k = s.size ∨ (∃ h : k < s.size, s[k] = 32)
      · obtain ⟨i, hi, he⟩ := Option.map_eq_some_iff.1 infoStr
        simp only [Prod.mk.injEq] at he
        obtain ⟨he1, he2, he3⟩ := he
        have HE1 : Hid _ := he1
        have HE2 : Hid _ := he2
        have HE3 : Hid _ := he3
        have HI : Hid _ := hi
        have HN : Hid (∀ j u, ([.string (s.extract f k)] : List Value)[j]? = some u → (wr.alloc (.cells #[.string (s.extract f k)] 9)).cell? ((⟨wr.heap.size, 0, none⟩ : Addr).add j) = some u) := by
          show ∀ j u, _
          intro j u hj
          rw [Addr.add_mid, Nat.zero_add, World.cell?_alloc_new, ← hj]
          simp
        have HO : Hid _ := World.ownsRow.alloc HS.out (.cells #[.string (s.extract f k)] 9)
        have HB : Hid (w.heap.size ≤ (wr.alloc (.cells #[.string (s.extract f k)] 9)).heap.size) := show _ ≤ _ by have := HU.out.size; simp only [World.size_alloc]; omega
        have H1 : Hid (∀ u ∈ ([.string (s.extract f k)] : List Value), u.oneCell' = true) := show ∀ u ∈ ([.string (s.extract f k)] : List Value), _ from fun u hu' => by simp at hu'; subst hu'; rfl
        have hdl : (txs done).length ≤ k := by rw [txs_length]; exact HD.out.len
        clear he1 he2 he3 hi
        rcases hc with hc | ⟨hlt, hb⟩
        · subst hc
          go_wp2_with (at_builtin; refine wpList_append_lies _ (by rfl) _ _ 22 (by rfl) w.heap.size 9 i (.string ByteArray.empty) 1 16 Tryz.underlying22 HI.out HE3.out HE1.out HE2.out (by rfl) (by omega) u3 (txs done).length (txC (txs done)) (by rfl) HO.out ⟨wr.heap.size, 0, none⟩ 1 1 ([.string (s.extract f s.size)]) (by rfl) (by rfl) HN.out H1.out (by omega) (by unfold maxLen; omega) (by omega) HB.out (wr.heap.size + 1) (by simp) ?_; intro g2 cap2 w2 hown hgrow hat hlt2)
          obtain ⟨hS2, hu2⟩ := SlS.grown (x := s.extract f s.size) HU.out HS.out _ hown hgrow
          rw [ext_data] at hS2
          have HS2 : Hid (SlS w2 w.heap.size (.slice (some ⟨g2, 0, none⟩) ((txs done).length + 1) cap2) (txs (done ++ [(s.data.toList.drop f).take (s.size - f)]))) := show SlS _ _ _ _ by unfold txs at hS2 ⊢; rw [List.map_append]; exact hS2
          clear hown hgrow hat hlt2 hS2
          have HD2 : Hid (WdAt s.data.toList (s.size + 1) (s.size + 1) (done ++ [(s.data.toList.drop f).take (s.size - f)])) := show WdAt _ _ _ _ by
            have h := HD.out
            rw [HZ.out] at h ⊢
            exact h.fin
          go_roundg 0
          case rel => exact ⟨s.size + 1, s.size + 1, _, by omega, Nat.le_refl _, by go_num, by go_num, HD2.out, HS2.out, hu2⟩
          case measure => have := HK.out; omega
        · have hkn : ((k : Int) == (s.size : Int)) = false := by simp; omega
          have hb1 : (s[k].toNat : Int) = 32 := by rw [hb]; rfl
          go_wp2_with (at_builtin; refine wpList_append_lies _ (by rfl) _ _ 22 (by rfl) w.heap.size 9 i (.string ByteArray.empty) 1 16 Tryz.underlying22 HI.out HE3.out HE1.out HE2.out (by rfl) (by omega) u3 (txs done).length (txC (txs done)) (by rfl) HO.out ⟨wr.heap.size, 0, none⟩ 1 1 ([.string (s.extract f k)]) (by rfl) (by rfl) HN.out H1.out (by omega) (by unfold maxLen; omega) (by omega) HB.out (wr.heap.size + 1) (by simp) ?_; intro g2 cap2 w2 hown hgrow hat hlt2)
          obtain ⟨hS2, hu2⟩ := SlS.grown (x := s.extract f k) HU.out HS.out _ hown hgrow
          rw [ext_data] at hS2
          have HS2 : Hid (SlS w2 w.heap.size (.slice (some ⟨g2, 0, none⟩) ((txs done).length + 1) cap2) (txs (done ++ [(s.data.toList.drop f).take (k - f)]))) := show SlS _ _ _ _ by unfold txs at hS2 ⊢; rw [List.map_append]; exact hS2
          clear hown hgrow hat hlt2 hS2
          have HD2 : Hid (WdAt s.data.toList (k + 1) (k + 1) (done ++ [(s.data.toList.drop f).take (k - f)])) := HD.out.cut (by rw [← HZ.out]; exact hlt) (by rw [← hb]; simp; rfl)
          go_roundg (s.size - k)
          case rel => exact ⟨k + 1, k + 1, _, by omega, Nat.le_refl _, by go_num, by go_num, HD2.out, HS2.out, hu2⟩
          case measure => have := HK.out; omega
      · have hlt : k < s.size := by
          rcases Nat.lt_or_ge k s.size with h | h
          · exact h
          · exact absurd (Or.inl (by omega)) hc
        have hb : s[k] ≠ 32 := fun e => hc (Or.inr ⟨hlt, e⟩)
        have hb1 : ¬ (s[k].toNat : Int) = 32 := fun e => hb (by apply UInt8.toNat_inj.1; show s[k].toNat = 32; omega)
        have HD2 : Hid (WdAt s.data.toList (k + 1) f done) := HD.out.skip hf (by rw [← HZ.out]; exact hlt) (by
          intro e
          apply hb
          rw [← e]
          simp
          rfl)
        clear hc
        have hkn : ((k : Int) == (s.size : Int)) = false := by simp; omega
        have hbb : ((s[k].toNat : Int) == 32) = false := by simpa using hb1
        go_wp2_with fail
        go_roundg (s.size - k)
        case rel => exact ⟨k + 1, f, done, by omega, by omega, by go_num, rfl, HD2.out, HS.out, HU.out⟩
        case measure => have := HK.out; omega
    · have hkk : k = s.size + 1 := by have := HK.out; omega
      have HF : Hid (wordsL s.data.toList = done) := HD.out.hi (by rw [← HZ.out]; exact hkk)
      clear hkk
      go_wp2_with fail
      go_ret
      exact ⟨_, rfl, by rw [HF.out]; exact HS.out, HU.out⟩
end Go.Proofs.YtadpibcgjgcjhabGreatDoor
