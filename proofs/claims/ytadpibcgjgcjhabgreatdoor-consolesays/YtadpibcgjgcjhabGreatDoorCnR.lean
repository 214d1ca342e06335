/- The console's number. -/
import Derived.Test.YtadpibcgjgcjhabGreatDoorCnZa
namespace Go.Proofs.YtadpibcgjgcjhabGreatDoor
open Go.ChangeShapes Go.WideShapes Go.ChangeAt Go.RowKit
set_option maxRecDepth 100000
attribute [local go_sem ↓] Go.wp_at_zero Go.wp_at_succ
variable {w w' : World}

def numV (o : Option Int) : Value := match o with
  | some v => .tuple #[.int .i64 v, .nilIface]
  | none => .tuple #[.int .i64 0, .iface 37 (.int .i64 9)]
theorem numW_bad2 {s : List UInt8} (h : ¬ s = [45, 49]) (hg : goodW s = false) : numW s = none := by unfold numW; rw [if_neg h, if_neg (fun e => by rw [hg] at e; exact absurd e.2.1 (by decide))]
theorem good_list : ∀ (l : List UInt8) (h : 0 < l.length), goodW l = !(l[0].toNat == 48 && !(l == [48]))
  | [], h => absurd h (Nat.lt_irrefl _)
  | b :: r, _ => by
    have e : (b.toNat == 48) = (b == 48) := by
      rw [Bool.eq_iff_iff]
      simp only [beq_iff_eq]
      exact ⟨fun h => UInt8.toNat_inj.1 h, fun h => by rw [h]; rfl⟩
    simp only [goodW, List.getElem_cons_zero]
    rw [e]
    by_cases h48 : b = 48
    · subst h48
      cases r <;> simp
    · have : (b == 48) = false := by simpa using h48
      rw [this]
      rfl
theorem good_iff {s : ByteArray} (h0 : 0 < s.size) : goodW s.data.toList = !(s[0].toNat == 48 && !(s.data.toList == [48])) := by
  have hl : 0 < s.data.toList.length := by simpa using h0
  have hb : s[0] = s.data.toList[0] := by simp; rfl
  rw [hb]
  exact good_list _ hl
theorem number_any (w : World) (s : ByteArray) : Calls Tryz.prog 50 #[.string s] w fun e w' => e = .returned (numV (numW s.data.toList)) ∧ w' = w := by
  have hz : s.size = s.data.toList.length := (Array.length_toList (xs := s.data)).symm
  by_cases h1 : s.data.toList = [45, 49]
  · have t1 : (s.toList == [45, 49]) = true := by rw [toList_data, h1]; rfl
    have HN : Hid (numV (numW s.data.toList) = .tuple #[.int .i64 (-1), .nilIface]) := show _ = _ by rw [numW_neg h1]; rfl
    clear h1
    go_enter Tryz.func50, Tryz.ntmps50
    go_wp2_with fail
    go_ret2
    exact ⟨by rw [HN.out]; rfl, rfl⟩
  have t1 : (s.toList == [45, 49]) = false := by rw [toList_data]; simpa using h1
  by_cases h2 : s.data.toList = []
  · have t2 : (s.toList == []) = true := by rw [toList_data, h2]; rfl
    have HN : Hid (numV (numW s.data.toList) = numV none) := show _ = _ by rw [numW_bad2 h1 (by rw [h2]; rfl)]
    clear h1 h2
    go_enter Tryz.func50, Tryz.ntmps50
    go_wp2_with fail
    go_ret2
    exact ⟨by rw [HN.out]; rfl, rfl⟩
  have t2 : (s.toList == []) = false := by rw [toList_data]; simpa using h2
  have h0 : 0 < s.size := by
    rcases Nat.eq_zero_or_pos s.size with e | e
    · exact absurd (List.length_eq_zero_iff.1 (by rw [← hz, e])) h2
    · exact e
  by_cases h5 : 5 < s.size
  · have t5 : decide (5 < (s.size : Int)) = true := by simp; omega
    have HN : Hid (numV (numW s.data.toList) = numV none) := show _ = _ by rw [numW_long h1 (by omega)]
    clear h1 h2 hz
    go_enter Tryz.func50, Tryz.ntmps50
    go_wp2_with fail
    go_ret2
    exact ⟨by rw [HN.out]; rfl, rfl⟩
  have t5 : decide (5 < (s.size : Int)) = false := by simp; omega
  have HG : Hid _ := good_iff h0
  have H1 : Hid (s.data.toList ≠ [45, 49]) := h1
  have HZ : Hid (s.size = s.data.toList.length) := hz
  have e30 : (s.toList == [48]) = (s.data.toList == [48]) := by rw [toList_data]
  clear h1 h2 hz
  cases hg : goodW s.data.toList with
  | false =>
    have HN : Hid (numV (numW s.data.toList) = numV none) := show _ = _ by rw [numW_bad2 H1.out hg]
    have hg2 := HG.out
    rw [hg] at hg2
    have hg3 : s[0].toNat = 48 ∧ (s.data.toList == [48]) = false := by
      simp only [Bool.false_eq, Bool.not_eq_false', Bool.and_eq_true, beq_iff_eq, Bool.not_eq_true'] at hg2
      exact hg2
    have c1 : ((s[0].toNat : Int) == 48) = true := by simp; omega
    rw [hg3.2] at e30
    clear hg hg2 hg3 HG
    go_enter Tryz.func50, Tryz.ntmps50
    go_wp2_with fail
    go_ret2
    exact ⟨by rw [HN.out]; rfl, rfl⟩
  | true =>
    have HGG : Hid (goodW s.data.toList = true) := hg
    have hg2 := HG.out
    rw [hg] at hg2
    have hg3 : s[0].toNat ≠ 48 ∨ s[0].toNat = 48 ∧ (s.data.toList == [48]) = true := by
      by_cases e : s[0].toNat = 48
      · refine Or.inr ⟨e, ?_⟩
        cases h3 : (s.data.toList == [48]) with
        | true => rfl
        | false =>
          rw [h3, e] at hg2
          cases hg2
      · exact Or.inl e
    clear hg hg2 HG
    rcases hg3 with hg3 | ⟨hg3, hg4⟩
    · have c1 : ((s[0].toNat : Int) == 48) = false := by simp; omega
      clear e30
      go_enter Tryz.func50, Tryz.ntmps50
      go_wp2_with fail
      go_loopg [4, 27] s.size (fun g nv iv wr => ∃ k v : Nat, k + g = s.size ∧ iv = .int .i64 k ∧ nv = .int .i64 (v : Int) ∧ v < 100000 ∧ Hid (v = valB (s.data.toList.take k)) ∧ Hid ((s.data.toList.take k).all digB = true) ∧ wr = w)
      case atStart => exact ⟨0, 0, by omega, rfl, rfl, by omega, rfl, rfl, rfl⟩
      case round =>
        obtain ⟨k, v, hk, rfl, rfl, hv, HV, HD, rfl⟩ := hrel
        have HK : Hid _ := hk
        clear c1 hg3
        by_cases hlt : k < s.size
        · clear hk
          by_cases hA : ((s[k].toNat : Int) < 48)
          · have HN : Hid (numV (numW s.data.toList) = numV none) := show _ = _ by
              rw [numW_bad H1.out (all_no (k := k) (by rw [← HZ.out]; exact hlt) (by
                have : s.data.toList[k]'(by rw [← HZ.out]; exact hlt) = s[k] := by simp; rfl
                rw [this]
                simp only [digB, Bool.and_eq_false_iff, decide_eq_false_iff_not]
                omega))]
            have dA : decide ((s[k].toNat : Int) < 48) = true := by simp; omega
            go_wp2_with fail
            go_ret2
            exact ⟨by rw [HN.out]; rfl, rfl⟩
          · have dA : decide ((s[k].toNat : Int) < 48) = false := by simp; omega
            by_cases hB : 57 < (s[k].toNat : Int)
            · have HN : Hid (numV (numW s.data.toList) = numV none) := show _ = _ by
                rw [numW_bad H1.out (all_no (k := k) (by rw [← HZ.out]; exact hlt) (by
                  have : s.data.toList[k]'(by rw [← HZ.out]; exact hlt) = s[k] := by simp; rfl
                  rw [this]
                  simp only [digB, Bool.and_eq_false_iff, decide_eq_false_iff_not]
                  omega))]
              have dB : decide (57 < (s[k].toNat : Int)) = true := by simp; omega
              go_wp2_with fail
              go_ret2
              exact ⟨by rw [HN.out]; rfl, rfl⟩
            · have dB : decide (57 < (s[k].toNat : Int)) = false := by simp; omega
              have hd1 : (s.data.toList.take (k + 1)).all digB = true := by
                rw [take_snoc hlt, List.all_append, HD.out]
                simp [digB]
                omega
              have HD1 : Hid _ := hd1
              have HV1 : Hid (10 * v + (s[k].toNat - 48) = valB (s.data.toList.take (k + 1))) := by
                show _ = _
                rw [take_snoc hlt, valB_snoc, ← HV.out]
              have hb := val_bound _ rfl hd1
              rw [← HV1.out, List.length_take, ← HZ.out, Nat.min_eq_left (by omega)] at hb
              have hb2 : 10 ^ (k + 1) ≤ 10 ^ 5 := Nat.pow_le_pow_right (by omega) (by omega)
              have hb3 : 10 * v + (s[k].toNat - 48) < 100000 := Nat.lt_of_lt_of_le hb hb2
              clear hb hb2 hd1
              go_wp2_with fail
              go_roundg (s.size - (k + 1))
              case rel => exact ⟨k + 1, 10 * v + (s[k].toNat - 48), by omega, by go_num, by go_num, hb3, HV1.out, HD1.out, rfl⟩
              case measure => have := HK.out; omega
        · have hkk : k = s.size := by omega
          subst hkk
          have hall : s.data.toList.take s.size = s.data.toList := by rw [HZ.out]; exact List.take_length
          have hd := HD.out
          have hvv := HV.out
          rw [hall] at hd hvv
          have HN : Hid (numV (numW s.data.toList) = .tuple #[.int .i64 (v : Int), .nilIface]) := show _ = _ by rw [numW_good H1.out (by rw [← HZ.out]; omega) hd, if_pos HGG.out, ← hvv]; rfl
          clear hd hall hvv
          go_wp2_with fail
          go_ret2
          exact ⟨by rw [HN.out]; rfl, rfl⟩
    · have c1 : ((s[0].toNat : Int) == 48) = true := by simp; omega
      rw [hg4] at e30
      clear hg4
      go_enter Tryz.func50, Tryz.ntmps50
      go_wp2_with fail
      go_loopg [4, 27] s.size (fun g nv iv wr => ∃ k v : Nat, k + g = s.size ∧ iv = .int .i64 k ∧ nv = .int .i64 (v : Int) ∧ v < 100000 ∧ Hid (v = valB (s.data.toList.take k)) ∧ Hid ((s.data.toList.take k).all digB = true) ∧ wr = w)
      case atStart => exact ⟨0, 0, by omega, rfl, rfl, by omega, rfl, rfl, rfl⟩
      case round =>
        obtain ⟨k, v, hk, rfl, rfl, hv, HV, HD, rfl⟩ := hrel
        have HK : Hid _ := hk
        clear c1 hg3 e30
        by_cases hlt : k < s.size
        · clear hk
          by_cases hA : ((s[k].toNat : Int) < 48)
          · have HN : Hid (numV (numW s.data.toList) = numV none) := show _ = _ by
              rw [numW_bad H1.out (all_no (k := k) (by rw [← HZ.out]; exact hlt) (by
                have : s.data.toList[k]'(by rw [← HZ.out]; exact hlt) = s[k] := by simp; rfl
                rw [this]
                simp only [digB, Bool.and_eq_false_iff, decide_eq_false_iff_not]
                omega))]
            have dA : decide ((s[k].toNat : Int) < 48) = true := by simp; omega
            go_wp2_with fail
            go_ret2
            exact ⟨by rw [HN.out]; rfl, rfl⟩
          · have dA : decide ((s[k].toNat : Int) < 48) = false := by simp; omega
            by_cases hB : 57 < (s[k].toNat : Int)
            · have HN : Hid (numV (numW s.data.toList) = numV none) := show _ = _ by
                rw [numW_bad H1.out (all_no (k := k) (by rw [← HZ.out]; exact hlt) (by
                  have : s.data.toList[k]'(by rw [← HZ.out]; exact hlt) = s[k] := by simp; rfl
                  rw [this]
                  simp only [digB, Bool.and_eq_false_iff, decide_eq_false_iff_not]
                  omega))]
              have dB : decide (57 < (s[k].toNat : Int)) = true := by simp; omega
              go_wp2_with fail
              go_ret2
              exact ⟨by rw [HN.out]; rfl, rfl⟩
            · have dB : decide (57 < (s[k].toNat : Int)) = false := by simp; omega
              have hd1 : (s.data.toList.take (k + 1)).all digB = true := by
                rw [take_snoc hlt, List.all_append, HD.out]
                simp [digB]
                omega
              have HD1 : Hid _ := hd1
              have HV1 : Hid (10 * v + (s[k].toNat - 48) = valB (s.data.toList.take (k + 1))) := by
                show _ = _
                rw [take_snoc hlt, valB_snoc, ← HV.out]
              have hb := val_bound _ rfl hd1
              rw [← HV1.out, List.length_take, ← HZ.out, Nat.min_eq_left (by omega)] at hb
              have hb2 : 10 ^ (k + 1) ≤ 10 ^ 5 := Nat.pow_le_pow_right (by omega) (by omega)
              have hb3 : 10 * v + (s[k].toNat - 48) < 100000 := Nat.lt_of_lt_of_le hb hb2
              clear hb hb2 hd1
              go_wp2_with fail
              go_roundg (s.size - (k + 1))
              case rel => exact ⟨k + 1, 10 * v + (s[k].toNat - 48), by omega, by go_num, by go_num, hb3, HV1.out, HD1.out, rfl⟩
              case measure => have := HK.out; omega
        · have hkk : k = s.size := by omega
          subst hkk
          have hall : s.data.toList.take s.size = s.data.toList := by rw [HZ.out]; exact List.take_length
          have hd := HD.out
          have hvv := HV.out
          rw [hall] at hd hvv
          have HN : Hid (numV (numW s.data.toList) = .tuple #[.int .i64 (v : Int), .nilIface]) := show _ = _ by rw [numW_good H1.out (by rw [← HZ.out]; omega) hd, if_pos HGG.out, ← hvv]; rfl
          clear hd hall hvv
          go_wp2_with fail
          go_ret2
          exact ⟨by rw [HN.out]; rfl, rfl⟩
end Go.Proofs.YtadpibcgjgcjhabGreatDoor
