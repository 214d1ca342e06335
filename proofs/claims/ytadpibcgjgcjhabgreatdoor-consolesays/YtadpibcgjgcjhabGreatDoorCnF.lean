/- The document's figures. -/
import Derived.Test.YtadpibcgjgcjhabGreatDoorCnD
import Derived.Deep.LoopGhost
namespace Go.Proofs.YtadpibcgjgcjhabGreatDoor
open Go.ChangeShapes Go.WideShapes Go.ChangeAt Go.RowKit
set_option maxRecDepth 100000
attribute [local go_sem ↓] Go.wp_at_zero Go.wp_at_succ
variable {w w' : World}

/-- How a word's reading ends. -/
def FigP (s : List UInt8) (w : World) (e : Ending) (w' : World) : Prop :=
  (∃ x ok, e = .returned (.tuple #[.int .i64 x, .bool ok]) ∧ (∀ v, numW s = some v → x = v ∧ ok = true) ∧ (numW s = none → ok = false)) ∧ Upd (fun _ => False) w w'
theorem toList_data (s : ByteArray) : s.toList = s.data.toList := ByteArray.toList_eq s
theorem take_snoc {s : ByteArray} {k : Nat} (hk : k < s.size) : s.data.toList.take (k + 1) = s.data.toList.take k ++ [s[k]] := by
  have hk' : k < s.data.toList.length := by simpa using hk
  rw [List.take_add_one, List.getElem?_eq_getElem hk']
  simp
  rfl
theorem val_bound {l : List UInt8} : ∀ (n : Nat), l.length = n → l.all digB = true → valB l < 10 ^ n := by
  intro n
  induction n generalizing l with
  | zero => intro h _; cases l <;> simp_all [valB]
  | succ n ih =>
    intro hl hd
    obtain ⟨r, b, rfl⟩ : ∃ r b, l = r ++ [b] := ⟨l.dropLast, l.getLast (by intro e; subst e; simp at hl), (List.dropLast_concat_getLast _).symm⟩
    rw [valB_snoc]
    simp at hl
    rw [List.all_append] at hd
    simp only [Bool.and_eq_true] at hd
    have hb : digB b = true := by simpa using hd.2
    simp [digB] at hb
    have := ih hl hd.1
    rw [Nat.pow_succ]
    omega
theorem numW_neg {s : List UInt8} (h : s = [45, 49]) : numW s = some (-1) := by unfold numW; rw [if_pos h]
theorem numW_long {s : List UInt8} (h : ¬ s = [45, 49]) (h5 : 5 < s.length) : numW s = none := by unfold numW; rw [if_neg h, if_neg (fun e => by omega)]
theorem numW_bad {s : List UInt8} (h : ¬ s = [45, 49]) (hd : s.all digB = false) : numW s = none := by unfold numW; rw [if_neg h, if_neg (fun e => by rw [hd] at e; exact absurd e.2.2 (by decide))]
theorem numW_good {s : List UInt8} (h : ¬ s = [45, 49]) (h5 : s.length ≤ 5) (hd : s.all digB = true) : numW s = if goodW s = true then some (valB s : Int) else none := by
  unfold numW
  rw [if_neg h]
  by_cases hg : goodW s = true
  · rw [if_pos ⟨h5, hg, hd⟩, if_pos hg]
  · rw [if_neg (fun e => hg e.2.1), if_neg hg]
theorem all_no {l : List UInt8} {k : Nat} (hk : k < l.length) (hb : digB l[k] = false) : l.all digB = false := by
  rw [List.all_eq_false]
  exact ⟨l[k], List.getElem_mem hk, by rw [hb]; decide⟩
theorem figures_any (w : World) (s : ByteArray) (hs : s.size ≤ 300) : Calls Tryz.prog 16 #[.string s] w (FigP s.data.toList w) := by
  have hz : s.size = s.data.toList.length := (Array.length_toList (xs := s.data)).symm
  by_cases h1 : s.data.toList = [45, 49]
  · have t1 : (s.toList == [45, 49]) = true := by rw [toList_data, h1]; rfl
    have HN : Hid _ := numW_neg h1
    clear h1
    go_enter Tryz.func16, Tryz.ntmps16
    go_wp2_with fail
    go_ret2
    exact ⟨⟨_, _, rfl, fun v hv => by rw [HN.out] at hv; cases hv; exact ⟨rfl, rfl⟩, fun hv => by rw [HN.out] at hv; cases hv⟩, Upd.refl _ _⟩
  · have t1 : (s.toList == [45, 49]) = false := by rw [toList_data]; simpa using h1
    have H1 : Hid _ := h1
    have HZ : Hid _ := hz
    clear h1 hz
    by_cases h5 : 5 < s.size
    · have HN : Hid _ := numW_long H1.out (by rw [← HZ.out]; exact h5)
      go_enter Tryz.func16, Tryz.ntmps16
      go_wp2_with fail
      go_ret2
      exact ⟨⟨_, _, rfl, fun v hv => (by rw [HN.out] at hv; cases hv), fun _ => rfl⟩, Upd.refl _ _⟩
    · go_enter Tryz.func16, Tryz.ntmps16
      go_wp2_with fail
      go_loopg [4, 5] s.size (fun g nv iv wr => ∃ k v : Nat, k + g = s.size ∧ iv = .int .i64 k ∧ nv = .int .i64 (v : Int) ∧ v < 100000 ∧ Hid (v = valB (s.data.toList.take k)) ∧ Hid ((s.data.toList.take k).all digB = true) ∧ wr = w)
      case atStart => exact ⟨0, 0, by omega, rfl, rfl, by omega, rfl, rfl, rfl⟩
      case round =>
        obtain ⟨k, v, hk, rfl, rfl, hv, HV, HD, rfl⟩ := hrel
        have HK : Hid _ := hk
        by_cases hlt : k < s.size
        · clear hk
          by_cases hA : ((s[k].toNat : Int) < 48)
          · have HN : Hid _ := numW_bad H1.out (all_no (k := k) (by rw [← HZ.out]; exact hlt) (by
              have : s.data.toList[k]'(by rw [← HZ.out]; exact hlt) = s[k] := by simp; rfl
              rw [this]
              simp only [digB, Bool.and_eq_false_iff, decide_eq_false_iff_not]
              omega))
            have dA : decide ((s[k].toNat : Int) < 48) = true := by simp; omega
            go_wp2_with fail
            go_ret2
            exact ⟨⟨_, _, rfl, fun v hv => (by rw [HN.out] at hv; cases hv), fun _ => rfl⟩, Upd.refl _ _⟩
          · have dA : decide ((s[k].toNat : Int) < 48) = false := by simp; omega
            by_cases hB : 57 < (s[k].toNat : Int)
            · have HN : Hid _ := numW_bad H1.out (all_no (k := k) (by rw [← HZ.out]; exact hlt) (by
                have : s.data.toList[k]'(by rw [← HZ.out]; exact hlt) = s[k] := by simp; rfl
                rw [this]
                simp only [digB, Bool.and_eq_false_iff, decide_eq_false_iff_not]
                omega))
              have dB : decide (57 < (s[k].toNat : Int)) = true := by simp; omega
              go_wp2_with fail
              go_ret2
              exact ⟨⟨_, _, rfl, fun v hv => (by rw [HN.out] at hv; cases hv), fun _ => rfl⟩, Upd.refl _ _⟩
            · have dB : decide (57 < (s[k].toNat : Int)) = false := by simp; omega
              have hd1 : (s.data.toList.take (k + 1)).all digB = true := by
                rw [take_snoc hlt, List.all_append, HD.out]
                simp [digB]
                omega
              have HD1 : Hid _ := hd1
              have HV1 : Hid (10 * v + (s[k].toNat - 48) = valB (s.data.toList.take (k + 1))) := by
                show _ = _
                rw [take_snoc hlt, valB_snoc, ← HV.out]
              have hb := val_bound _ rfl hd1
              rw [← HV1.out, List.length_take, ← HZ.out, Nat.min_eq_left (by omega)] at hb
              have hb2 : 10 ^ (k + 1) ≤ 10 ^ 5 := Nat.pow_le_pow_right (by omega) (by omega)
              have hb3 : 10 * v + (s[k].toNat - 48) < 100000 := Nat.lt_of_lt_of_le hb hb2
              clear hb hb2 hd1
              go_wp2_with fail
              go_roundg (s.size - (k + 1))
              case rel => exact ⟨k + 1, 10 * v + (s[k].toNat - 48), by omega, by go_num, by go_num, hb3, HV1.out, HD1.out, rfl⟩
              case measure => have := HK.out; omega
        · have hkk : k = s.size := by omega
          subst hkk
          have hall : s.data.toList.take s.size = s.data.toList := by rw [HZ.out]; exact List.take_length
          have hd := HD.out
          have hvv := HV.out
          rw [hall] at hd hvv
          have HN : Hid _ := numW_good H1.out (by rw [← HZ.out]; omega) hd
          have HI : Hid _ := dec_iff hd
          rw [← hvv] at HI HN
          have HDC : Hid _ := fun w => dec_any w (v : Int) (by omega) (by omega)
          have HEQ : Hid (((TX (numT (v : Int))).toList == s.toList) = goodW s.data.toList) := show _ = _ by rw [TX_toList, numT_eq, Int.toNat_natCast, toList_data]; exact HI.out
          clear hd hall hvv
          generalize hg : goodW s.data.toList = gb at *
          clear hg
          have heq := HEQ.out
          go_wp2_with (go_at_call 18; refine Calls.mono (HDC.out _) ?_; rintro e w2 ⟨rfl, hu2⟩)
          go_ret2
          refine ⟨⟨_, _, rfl, fun x hx => ?_, fun hx => ?_⟩, hu2⟩
          · rw [HN.out] at hx
            cases gb with
            | true => cases hx; exact ⟨rfl, rfl⟩
            | false => cases hx
          · rw [HN.out] at hx
            cases gb with
            | true => cases hx
            | false => rfl
end Go.Proofs.YtadpibcgjgcjhabGreatDoor
