/- The document's texts: numbers and words. -/
import Derived.Test.YtadpibcgjgcjhabGreatDoorPart01
import Derived.Test.YtadpibcgjgcjhabGreatDoorPart02
import Derived.Laws.BytesArg
import Derived.Deep.LoopGhost
import Derived.Test.YtadpibcgjgcjhabGreatDoorPart05
import Derived.Deep.AppendLies
import Derived.Test.YtadpibcgjgcjhabGreatDoorPart17
import Derived.Test.YtadpibcgjgcjhabGreatDoorPart11
import Derived.Test.YtadpibcgjgcjhabGreatDoorPart09
namespace Go.Proofs.YtadpibcgjgcjhabGreatDoor
open Go.ChangeShapes Go.WideShapes Go.ChangeAt Go.RowKit
set_option maxRecDepth 100000
attribute [local go_sem ↓] Go.wp_at_zero Go.wp_at_succ
variable {w w' : World}

/-- A text. -/
def TX (l : List UInt8) : ByteArray := ⟨l.toArray⟩
theorem TX_size (l : List UInt8) : (TX l).size = l.length := by simp [TX, ByteArray.size]
theorem TX_append (a b : List UInt8) : TX a ++ TX b = TX (a ++ b) := ByteArray.mk_append_mk a b
theorem TX_toList (l : List UInt8) : (TX l).toList = l := by rw [ByteArray.toList_eq]; simp [TX]
theorem TX_of (s : ByteArray) : TX s.data.toList = s := rfl
theorem numT_len : ∀ (k n : Nat), n < k → (numT n).length ≤ k
  | 0, _, h => absurd h (Nat.not_lt_zero _)
  | k + 1, n, h => by
    rw [numT_eq, Int.toNat_natCast, dec_unfold]
    split
    · simp
    · have := numT_len k (n / 10) (by omega)
      rw [numT_eq, Int.toNat_natCast] at this
      simp only [List.length_append, List.length_singleton]
      omega
theorem one_byte (w : World) (x : Int) : (convert 100 9 (.slice (some ⟨w.heap.size, 0, none⟩) 1 1)).run Tryz.prog (w.alloc (.cells #[.int .u8 x] 5)) = .ok (.string ⟨#[UInt8.ofNat x.toNat]⟩) (w.alloc (.cells #[.int .u8 x] 5)) := by
  have := run_convert_bytes_arg (P := Tryz.prog) (w.alloc (.cells #[.int .u8 x] 5)) 100 5 Tryz.underlying100 Tryz.underlying5 w.heap.size 0 1 1 [x] rfl (fun i hi => by
    have : i = 0 := by omega
    subst this
    rw [World.cell?_alloc_new]
    rfl) 9 Tryz.underlying9
  rw [this]
  simp [strOfNums]
theorem one_byteU {w W1 w2 : World} {x : Int} (u : Upd (fun _ => False) W1 w2) (h : W1.heap = (w.alloc (.cells #[.int .u8 x] 5)).heap) : (convert 100 9 (.slice (some ⟨w.heap.size, 0, none⟩) 1 1)).run Tryz.prog w2 = .ok (.string ⟨#[UInt8.ofNat x.toNat]⟩) w2 := by
  have hc : W1.cell? ⟨w.heap.size, 0, none⟩ = some (.int .u8 x) := by
    rw [World.cell?_of_block (w := w.alloc (.cells #[.int .u8 x] 5)) (by rw [h]), World.cell?_alloc_new]
    rfl
  have := run_convert_bytes_arg (P := Tryz.prog) w2 100 5 Tryz.underlying100 Tryz.underlying5 w.heap.size 0 1 1 [x] rfl (fun i hi => by
    have : i = 0 := by omega
    subst this
    exact u.cell hc (fun f => f)) 9 Tryz.underlying9
  rw [this]
  simp [strOfNums]
theorem numT_small {n : Nat} (hn : n < 10) : numT n = [UInt8.ofNat (48 + n)] := by
  rw [numT_eq, Int.toNat_natCast, dec_unfold, if_pos hn]
theorem numT_more {n : Nat} (hn : ¬ n < 10) : numT n = numT ((n / 10 : Nat) : Int) ++ [UInt8.ofNat (48 + n % 10)] := by
  rw [numT_eq, numT_eq, Int.toNat_natCast, Int.toNat_natCast, dec_unfold, if_neg hn]
theorem decimal_small (w : World) (n : Nat) (hn : n < 10) : Calls Tryz.prog 18 #[.int .i64 (n : Int)] w fun e w' => e = .returned (.string (TX (numT n))) ∧ Upd (fun _ => False) w w' := by
  have h1 := fun x => one_byte w x
  go_enter Tryz.func18, Tryz.ntmps18
  go_wp2_with fail
  go_ret
  exact ⟨by rw [numT_small hn]; rfl, (Upd.refl _ _).alloc _⟩
theorem decimal_any : ∀ (k n : Nat) (w : World), n < k → n ≤ 1000000 → Calls Tryz.prog 18 #[.int .i64 (n : Int)] w fun e w' => e = .returned (.string (TX (numT n))) ∧ Upd (fun _ => False) w w'
  | 0, _, _, h, _ => absurd h (Nat.not_lt_zero _)
  | k + 1, n, w, h, hl => by
    by_cases hn : n < 10
    · exact decimal_small w n hn
    · have IH : Hid (∀ w, Calls Tryz.prog 18 #[.int .i64 ((n : Int) / 10)] w _) := fun w => decimal_any k (n / 10) w (by omega) (by omega)
      have hw : IntKind.i64.wrap ((n : Int) / 10) = (n : Int) / 10 := by rw [IntKind.wrap_i64]; omega
      have hm : (n : Int).tmod 10 = (n : Int) % 10 := Int.tmod_eq_emod_of_nonneg (by omega)
      have hw2 : IntKind.i64.wrap (48 + (n : Int) % 10) = 48 + (n : Int) % 10 := by rw [IntKind.wrap_i64]; omega
      have hw3 : IntKind.u8.wrap (48 + (n : Int) % 10) = 48 + (n : Int) % 10 := by rw [IntKind.wrap_u8]; omega
      have h1 : ∀ w : World, _ := fun w => one_byte w (48 + (n : Int) % 10)
      have h1d : ∀ w : World, _ := fun w => one_byteU (w := w) (W1 := w.alloc (.cells #[.int .u8 (48 + (n : Int) % 10)] 5)) (x := 48 + (n : Int) % 10) (Upd.refl _ _).drew rfl
      have hv : Ending.returned (.string (TX (numT ((n : Int) / 10)) ++ ⟨#[UInt8.ofNat (48 + (n : Int) % 10).toNat]⟩)) = .returned (.string (TX (numT n))) := by
        rw [numT_more hn, show (n : Int) / 10 = ((n / 10 : Nat) : Int) by omega, show (48 + (n : Int) % 10).toNat = 48 + n % 10 by omega, ← TX_append]
        rfl
      have HV : Hid _ := hv
      clear hv
      have hsz : ¬ 9223372036854775807 < (TX (numT ((n : Int) / 10))).size + 1 := by
        have := numT_len (n / 10 + 1) (n / 10) (by omega)
        rw [TX_size, show (n : Int) / 10 = ((n / 10 : Nat) : Int) by omega]
        omega
      go_enter Tryz.func18, Tryz.ntmps18
      go_wp2_with fail
      go_region_with (go_at_call 18; refine Calls.mono (IH.out _) ?_; rintro e w2 ⟨rfl, hu2⟩; try (have hcv2 := one_byteU (w := w) (x := 48 + (n : Int) % 10) hu2 rfl))
      all_goals clear h1 h1d
      all_goals go_wp2_with fail
      all_goals go_ret
      all_goals first
        | exact ⟨HV.out, ((Upd.refl _ w).drew.trans hu2 (fun _ _ f => f)).alloc _⟩
        | exact ⟨HV.out, ((Upd.refl _ w).trans hu2 (fun _ _ f => f)).alloc _⟩
        | exact ⟨HV.out, ((Upd.refl _ w).alloc _).drew.trans hu2 (fun _ _ f => f)⟩
        | exact ⟨HV.out, ((Upd.refl _ w).alloc _).trans hu2 (fun _ _ f => f)⟩
/-- A number, told. -/
theorem dec_any (w : World) (n : Int) (h0 : 0 ≤ n) (h1 : n ≤ 1000000) : Calls Tryz.prog 18 #[.int .i64 n] w fun e w' => e = .returned (.string (TX (numT n))) ∧ Upd (fun _ => False) w w' := by
  obtain ⟨m, rfl⟩ := Int.eq_ofNat_of_zero_le h0
  exact decimal_any (m + 1) m w (by omega) (by omega)
theorem numT_le (n : Int) (h1 : n ≤ 1000000) : (numT n).length ≤ 1000001 := by
  have := numT_len (n.toNat + 1) n.toNat (by omega)
  rw [numT_eq, Int.toNat_natCast] at this
  rw [numT_eq]
  omega
theorem fault_any (w : World) (n : Int) (h0 : 0 ≤ n) (h1 : n ≤ 1000000) : Calls Tryz.prog 15 #[.int .i64 n] w fun e w' => e = .returned (.string (TX (errT n))) ∧ Upd (fun _ => False) w w' := by
  have HD : Hid _ := fun w => dec_any w n h0 h1
  have hsz : ¬ 9223372036854775807 < 6 + (TX (numT n)).size := by
    have := numT_le n h1
    rw [TX_size]
    omega
  go_enter Tryz.func15, Tryz.ntmps15
  go_wp2_with (go_at_call 18; refine Calls.mono (HD.out _) ?_; rintro e w2 ⟨rfl, hu2⟩)
  go_ret
  exact ⟨by unfold errT; rw [← TX_append]; rfl, hu2⟩
theorem done_any (w : World) (n : Int) (h0 : 0 ≤ n) (h1 : n ≤ 1000000) : Calls Tryz.prog 24 #[.int .i64 n] w fun e w' => e = .returned (.string (TX (doneT n))) ∧ Upd (fun _ => False) w w' := by
  have HD : Hid _ := fun w => fault_any w n h0 h1
  unfold doneT
  by_cases hn : 0 < n
  · rw [if_pos hn]
    go_enter Tryz.func24, Tryz.ntmps24
    go_wp2_with (go_at_call 15; refine Calls.mono (HD.out _) ?_; rintro e w2 ⟨rfl, hu2⟩)
    go_ret
    exact ⟨rfl, hu2⟩
  · rw [if_neg hn]
    go_enter Tryz.func24, Tryz.ntmps24
    go_wp2_with fail
    go_ret
    exact ⟨rfl, Upd.refl _ _⟩
end Go.Proofs.YtadpibcgjgcjhabGreatDoor
/- The document's figures. -/
namespace Go.Proofs.YtadpibcgjgcjhabGreatDoor
open Go.ChangeShapes Go.WideShapes Go.ChangeAt Go.RowKit
set_option maxRecDepth 100000
attribute [local go_sem ↓] Go.wp_at_zero Go.wp_at_succ
variable {w w' : World}

/-- How a word's reading ends. -/
def FigP (s : List UInt8) (w : World) (e : Ending) (w' : World) : Prop :=
  (∃ x ok, e = .returned (.tuple #[.int .i64 x, .bool ok]) ∧ (∀ v, numW s = some v → x = v ∧ ok = true) ∧ (numW s = none → ok = false)) ∧ Upd (fun _ => False) w w'
theorem toList_data (s : ByteArray) : s.toList = s.data.toList := ByteArray.toList_eq s
theorem take_snoc {s : ByteArray} {k : Nat} (hk : k < s.size) : s.data.toList.take (k + 1) = s.data.toList.take k ++ [s[k]] := by
  have hk' : k < s.data.toList.length := by simpa using hk
  rw [List.take_add_one, List.getElem?_eq_getElem hk']
  simp
  rfl
theorem val_bound {l : List UInt8} : ∀ (n : Nat), l.length = n → l.all digB = true → valB l < 10 ^ n := by
  intro n
  induction n generalizing l with
  | zero => intro h _; cases l <;> simp_all [valB]
  | succ n ih =>
    intro hl hd
    obtain ⟨r, b, rfl⟩ : ∃ r b, l = r ++ [b] := ⟨l.dropLast, l.getLast (by intro e; subst e; simp at hl), (List.dropLast_concat_getLast _).symm⟩
    rw [valB_snoc]
    simp at hl
    rw [List.all_append] at hd
    simp only [Bool.and_eq_true] at hd
    have hb : digB b = true := by simpa using hd.2
    simp [digB] at hb
    have := ih hl hd.1
    rw [Nat.pow_succ]
    omega
theorem numW_neg {s : List UInt8} (h : s = [45, 49]) : numW s = some (-1) := by unfold numW; rw [if_pos h]
theorem numW_long {s : List UInt8} (h : ¬ s = [45, 49]) (h5 : 5 < s.length) : numW s = none := by unfold numW; rw [if_neg h, if_neg (fun e => by omega)]
theorem numW_bad {s : List UInt8} (h : ¬ s = [45, 49]) (hd : s.all digB = false) : numW s = none := by unfold numW; rw [if_neg h, if_neg (fun e => by rw [hd] at e; exact absurd e.2.2 (by decide))]
theorem numW_good {s : List UInt8} (h : ¬ s = [45, 49]) (h5 : s.length ≤ 5) (hd : s.all digB = true) : numW s = if goodW s = true then some (valB s : Int) else none := by
  unfold numW
  rw [if_neg h]
  by_cases hg : goodW s = true
  · rw [if_pos ⟨h5, hg, hd⟩, if_pos hg]
  · rw [if_neg (fun e => hg e.2.1), if_neg hg]
theorem all_no {l : List UInt8} {k : Nat} (hk : k < l.length) (hb : digB l[k] = false) : l.all digB = false := by
  rw [List.all_eq_false]
  exact ⟨l[k], List.getElem_mem hk, by rw [hb]; decide⟩
theorem figures_any (w : World) (s : ByteArray) (hs : s.size ≤ 300) : Calls Tryz.prog 16 #[.string s] w (FigP s.data.toList w) := by
  have hz : s.size = s.data.toList.length := (Array.length_toList (xs := s.data)).symm
  by_cases h1 : s.data.toList = [45, 49]
  · have t1 : (s.toList == [45, 49]) = true := by rw [toList_data, h1]; rfl
    have HN : Hid _ := numW_neg h1
    clear h1
    go_enter Tryz.func16, Tryz.ntmps16
    go_wp2_with fail
    go_ret2
    exact ⟨⟨_, _, rfl, fun v hv => by rw [HN.out] at hv; cases hv; exact ⟨rfl, rfl⟩, fun hv => by rw [HN.out] at hv; cases hv⟩, Upd.refl _ _⟩
  · have t1 : (s.toList == [45, 49]) = false := by rw [toList_data]; simpa using h1
    have H1 : Hid _ := h1
    have HZ : Hid _ := hz
    clear h1 hz
    by_cases h5 : 5 < s.size
    · have HN : Hid _ := numW_long H1.out (by rw [← HZ.out]; exact h5)
      go_enter Tryz.func16, Tryz.ntmps16
      go_wp2_with fail
      go_ret2
      exact ⟨⟨_, _, rfl, fun v hv => (by rw [HN.out] at hv; cases hv), fun _ => rfl⟩, Upd.refl _ _⟩
    · go_enter Tryz.func16, Tryz.ntmps16
      go_wp2_with fail
      go_loopg [4, 5] s.size (fun g nv iv wr => ∃ k v : Nat, k + g = s.size ∧ iv = .int .i64 k ∧ nv = .int .i64 (v : Int) ∧ v < 100000 ∧ Hid (v = valB (s.data.toList.take k)) ∧ Hid ((s.data.toList.take k).all digB = true) ∧ wr = w)
      case atStart => exact ⟨0, 0, by omega, rfl, rfl, by omega, rfl, rfl, rfl⟩
      case round =>
        obtain ⟨k, v, hk, rfl, rfl, hv, HV, HD, rfl⟩ := hrel
        have HK : Hid _ := hk
        by_cases hlt : k < s.size
        · clear hk
          by_cases hA : ((s[k].toNat : Int) < 48)
          · have HN : Hid _ := numW_bad H1.out (all_no (k := k) (by rw [← HZ.out]; exact hlt) (by
              have : s.data.toList[k]'(by rw [← HZ.out]; exact hlt) = s[k] := by simp; rfl
              rw [this]
              simp only [digB, Bool.and_eq_false_iff, decide_eq_false_iff_not]
              omega))
            have dA : decide ((s[k].toNat : Int) < 48) = true := by simp; omega
            go_wp2_with fail
            go_ret2
            exact ⟨⟨_, _, rfl, fun v hv => (by rw [HN.out] at hv; cases hv), fun _ => rfl⟩, Upd.refl _ _⟩
          · have dA : decide ((s[k].toNat : Int) < 48) = false := by simp; omega
            by_cases hB : 57 < (s[k].toNat : Int)
            · have HN : Hid _ := numW_bad H1.out (all_no (k := k) (by rw [← HZ.out]; exact hlt) (by
                have : s.data.toList[k]'(by rw [← HZ.out]; exact hlt) = s[k] := by simp; rfl
                rw [this]
                simp only [digB, Bool.and_eq_false_iff, decide_eq_false_iff_not]
                omega))
              have dB : decide (57 < (s[k].toNat : Int)) = true := by simp; omega
              go_wp2_with fail
              go_ret2
              exact ⟨⟨_, _, rfl, fun v hv => (by rw [HN.out] at hv; cases hv), fun _ => rfl⟩, Upd.refl _ _⟩
            · have dB : decide (57 < (s[k].toNat : Int)) = false := by simp; omega
              have hd1 : (s.data.toList.take (k + 1)).all digB = true := by
                rw [take_snoc hlt, List.all_append, HD.out]
                simp [digB]
                omega
              have HD1 : Hid _ := hd1
              have HV1 : Hid (10 * v + (s[k].toNat - 48) = valB (s.data.toList.take (k + 1))) := by
                show _ = _
                rw [take_snoc hlt, valB_snoc, ← HV.out]
              have hb := val_bound _ rfl hd1
              rw [← HV1.out, List.length_take, ← HZ.out, Nat.min_eq_left (by omega)] at hb
              have hb2 : 10 ^ (k + 1) ≤ 10 ^ 5 := Nat.pow_le_pow_right (by omega) (by omega)
              have hb3 : 10 * v + (s[k].toNat - 48) < 100000 := Nat.lt_of_lt_of_le hb hb2
              clear hb hb2 hd1
              go_wp2_with fail
              go_roundg (s.size - (k + 1))
              case rel => exact ⟨k + 1, 10 * v + (s[k].toNat - 48), by omega, by go_num, by go_num, hb3, HV1.out, HD1.out, rfl⟩
              case measure => have := HK.out; omega
        · have hkk : k = s.size := by omega
          subst hkk
          have hall : s.data.toList.take s.size = s.data.toList := by rw [HZ.out]; exact List.take_length
          have hd := HD.out
          have hvv := HV.out
          rw [hall] at hd hvv
          have HN : Hid _ := numW_good H1.out (by rw [← HZ.out]; omega) hd
          have HI : Hid _ := dec_iff hd
          rw [← hvv] at HI HN
          have HDC : Hid _ := fun w => dec_any w (v : Int) (by omega) (by omega)
          have HEQ : Hid (((TX (numT (v : Int))).toList == s.toList) = goodW s.data.toList) := show _ = _ by rw [TX_toList, numT_eq, Int.toNat_natCast, toList_data]; exact HI.out
          clear hd hall hvv
          generalize hg : goodW s.data.toList = gb at *
          clear hg
          have heq := HEQ.out
          go_wp2_with (go_at_call 18; refine Calls.mono (HDC.out _) ?_; rintro e w2 ⟨rfl, hu2⟩)
          go_ret2
          refine ⟨⟨_, _, rfl, fun x hx => ?_, fun hx => ?_⟩, hu2⟩
          · rw [HN.out] at hx
            cases gb with
            | true => cases hx; exact ⟨rfl, rfl⟩
            | false => cases hx
          · rw [HN.out] at hx
            cases gb with
            | true => cases hx
            | false => rfl
end Go.Proofs.YtadpibcgjgcjhabGreatDoor
/- Slices of texts. -/
namespace Go.Proofs.YtadpibcgjgcjhabGreatDoor
open Go.ChangeShapes Go.WideShapes Go.ChangeAt Go.RowKit
set_option maxRecDepth 100000

def txC (l : List ByteArray) : List Value := l.map fun (n : ByteArray) => Value.string n
theorem txC_length (l : List ByteArray) : (txC l).length = l.length := by simp [txC]
/-- A list of texts that a slice holds. -/
def SlS (w : World) (base : Nat) (v : Value) (l : List ByteArray) : Prop := w.ownsRow base 9 1 v l.length (txC l)
theorem SlS.nil (w : World) (base : Nat) : SlS w base (.slice none 0 0) [] := World.ownsRow_nil _ _ _ _
theorem SlS.form {w : World} {base : Nat} {v : Value} {l : List ByteArray} (h : SlS w base v l) : ∃ a cap, v = .slice a l.length cap ∧ (∀ i, i < l.length → ∃ g, a = some ⟨g, 0, none⟩ ∧ base ≤ g ∧ g < w.heap.size ∧ w.cell? ⟨g, i, none⟩ = some (.string (l.getD i ByteArray.empty))) := by
  rcases h.2 with ⟨rfl, h0⟩ | ⟨g, cap, cur, rfl, hb, hg, _⟩
  · exact ⟨none, 0, by rw [h0], fun i hi => absurd hi (by omega)⟩
  · refine ⟨some ⟨g, 0, none⟩, cap, rfl, fun i hi => ⟨g, rfl, hb, ?_, ?_⟩⟩
    · rcases Nat.lt_or_ge g w.heap.size with hlt | hge
      · exact hlt
      · rw [Array.getElem?_eq_none hge] at hg; cases hg
    · have hu : (txC l)[i]? = some (.string (l.getD i ByteArray.empty)) := by
        simp [txC, List.getElem?_map, List.getElem?_eq_getElem hi, List.getD_eq_getElem?_getD]
      have := World.ownsRow.cells h (g := g) rfl _ _ hu
      rw [Addr.add_mid, Nat.zero_add] at this
      exact this
theorem SlS.upd {S : Nat → Prop} {w w' : World} {base : Nat} {v : Value} {l : List ByteArray} (h : SlS w base v l) (u : Upd S w w') (hS : ∀ k, v.ownBlock = some k → ¬ S k) : SlS w' base v l := by
  refine ⟨h.1, ?_⟩
  rcases h.2 with h0 | ⟨g, cap, cur, rfl, hb, hg, r⟩
  · exact Or.inl h0
  · refine Or.inr ⟨g, cap, cur, rfl, hb, ?_, r⟩
    have hlt : g < w.heap.size := by
      rcases Nat.lt_or_ge g w.heap.size with hlt | hge
      · exact hlt
      · rw [Array.getElem?_eq_none hge] at hg; cases hg
    rw [u.block g hlt (hS g (by simp [Value.ownBlock]))]
    exact hg
theorem SlS.grown {w wr w2 : World} {v : Value} {l : List ByteArray} {x : ByteArray} {g cap : Nat} (hu : Upd (fun _ => False) w wr) (hS : SlS wr w.heap.size v l) (o : Obj)
    (hown : w2.ownsRow w.heap.size 9 1 (.slice (some ⟨g, 0, none⟩) (l.length + 1) cap) (l.length + 1) (txC l ++ [.string x])) (hgrow : (wr.alloc o).grownBy w2 v.ownBlock) :
    SlS w2 w.heap.size (.slice (some ⟨g, 0, none⟩) (l.length + 1) cap) (l ++ [x]) ∧ Upd (fun _ => False) w w2 := by
  refine ⟨?_, hgrow.os.trans hu.os, hgrow.tape.trans hu.tape, hgrow.output.trans hu.output, ?_, ?_⟩
  · unfold SlS
    rw [List.length_append]
    simpa [txC] using hown
  · have := hgrow.size
    simp only [World.size_alloc] at this
    have := hu.size
    omega
  · intro k hk _
    have hz := hu.size
    rw [hgrow.block k (by simp only [World.size_alloc]; omega) (by
      intro e
      have := World.ownsRow.lt hS k e.symm
      omega), Below.heap_alloc _ _ _ (by omega)]
    exact hu.block k hk (fun f => f)
theorem infoStr : (Tryz.prog.info? 9).map (fun i => (i.size, i.bytes, i.zero)) = some (1, 16, some (.string ByteArray.empty)) := by kernel_rfl
end Go.Proofs.YtadpibcgjgcjhabGreatDoor
/- The document's words. -/
namespace Go.Proofs.YtadpibcgjgcjhabGreatDoor
open Go.ChangeShapes Go.WideShapes Go.ChangeAt Go.RowKit
set_option maxRecDepth 100000
attribute [local go_sem ↓] Go.wp_at_zero Go.wp_at_succ
variable {w w' : World}

/-- Texts, told. -/
def txs (l : List (List UInt8)) : List ByteArray := l.map TX
theorem txs_length (l : List (List UInt8)) : (txs l).length = l.length := by simp [txs]
theorem ext_data (s : ByteArray) (f k : Nat) : s.extract f k = TX ((s.data.toList.drop f).take (k - f)) := by
  apply ByteArray.ext
  simp only [TX, ByteArray.data_extract]
  apply Array.toList_inj.1
  simp [Array.toList_extract, List.extract_eq_take_drop]
theorem piece_snoc {l : List UInt8} {f k : Nat} (hf : f ≤ k) (hk : k < l.length) : (l.drop f).take (k + 1 - f) = (l.drop f).take (k - f) ++ [l[k]] := by
  rw [show k + 1 - f = k - f + 1 by omega, List.take_add_one, List.getElem?_drop, show f + (k - f) = k by omega, List.getElem?_eq_getElem hk]
  simp
theorem words_skip {l p : List UInt8} {k : Nat} (hk : k < l.length) (hb : l[k] ≠ 32) : glue p (wordsL (l.drop k)) = glue (p ++ [l[k]]) (wordsL (l.drop (k + 1))) := by
  rw [List.drop_eq_getElem_cons hk, wordsL, if_neg hb, glue_glue]
theorem words_cut {l p : List UInt8} {k : Nat} (hk : k < l.length) (hb : l[k] = 32) : glue p (wordsL (l.drop k)) = [p] ++ wordsL (l.drop (k + 1)) := by
  rw [List.drop_eq_getElem_cons hk, wordsL, if_pos hb, glue, List.append_nil, List.singleton_append]
theorem words_end {l p : List UInt8} : glue p (wordsL (l.drop l.length)) = [p] := by
  rw [List.drop_length, wordsL, glue, List.append_nil]
/-- Where the reading stands. -/
structure WdAt (s : List UInt8) (k f : Nat) (done : List (List UInt8)) : Prop where
  lo : k ≤ s.length → wordsL s = done ++ glue ((s.drop f).take (k - f)) (wordsL (s.drop k))
  hi : k = s.length + 1 → wordsL s = done
  len : done.length ≤ k
theorem WdAt.start (s : List UInt8) : WdAt s 0 0 [] := ⟨fun _ => by rw [List.nil_append, List.drop_zero, Nat.sub_self, List.take_zero, glue_nil (wordsL_ne _)], fun e => by omega, Nat.le_refl _⟩
theorem WdAt.skip {s : List UInt8} {k f : Nat} {done : List (List UInt8)} (h : WdAt s k f done) (hf : f ≤ k) (hk : k < s.length) (hb : s[k] ≠ 32) : WdAt s (k + 1) f done :=
  ⟨fun _ => by rw [h.lo (by omega), words_skip hk hb, piece_snoc hf hk], fun e => by omega, by have := h.len; omega⟩
theorem WdAt.cut {s : List UInt8} {k f : Nat} {done : List (List UInt8)} (h : WdAt s k f done) (hk : k < s.length) (hb : s[k] = 32) : WdAt s (k + 1) (k + 1) (done ++ [(s.drop f).take (k - f)]) :=
  ⟨fun _ => by rw [h.lo (by omega), words_cut hk hb, Nat.sub_self, List.take_zero, glue_nil (wordsL_ne _), List.append_assoc], fun e => by omega, by have := h.len; simp; omega⟩
theorem WdAt.fin {s : List UInt8} {f : Nat} {done : List (List UInt8)} (h : WdAt s s.length f done) : WdAt s (s.length + 1) (s.length + 1) (done ++ [(s.drop f).take (s.length - f)]) :=
  ⟨fun e => by omega, fun _ => by rw [h.lo (Nat.le_refl _), words_end], by have := h.len; simp; omega⟩
theorem words_any (w : World) (s : ByteArray) (hs : s.size ≤ 300) : Calls Tryz.prog 13 #[.string s] w fun e w' => ∃ v, e = .returned v ∧ SlS w' w.heap.size v (txs (wordsL s.data.toList)) ∧ Upd (fun _ => False) w w' := by
  have hz : s.size = s.data.toList.length := (Array.length_toList (xs := s.data)).symm
  have HZ : Hid _ := hz
  clear hz
  go_enter Tryz.func13, Tryz.ntmps13
  go_wp2_with fail
  go_loopg [3, 4, 5] (s.size + 1) (fun g lv fv iv wr => ∃ (k f : Nat) (done : List (List UInt8)), k + g = s.size + 1 ∧ f ≤ k ∧ iv = .int .i64 k ∧ fv = .int .i64 f ∧ Hid (WdAt s.data.toList k f done) ∧ Hid (SlS wr w.heap.size lv (txs done)) ∧ Hid (Upd (fun _ => False) w wr))
  case atStart => exact ⟨0, 0, [], by omega, by omega, rfl, rfl, WdAt.start _, SlS.nil _ _, Upd.refl _ _⟩
  case round =>
    obtain ⟨k, f, done, hk, hf, rfl, rfl, HD, HS, HU⟩ := hrel
    have HK : Hid _ := hk
    clear hk
    by_cases hle : k ≤ s.size
    · by_cases hc : k = s.size ∨ (∃ h : k < s.size, s[k] = 32)
      · obtain ⟨i, hi, he⟩ := Option.map_eq_some_iff.1 infoStr
        simp only [Prod.mk.injEq] at he
        obtain ⟨he1, he2, he3⟩ := he
        have HE1 : Hid _ := he1
        have HE2 : Hid _ := he2
        have HE3 : Hid _ := he3
        have HI : Hid _ := hi
        have HN : Hid (∀ j u, ([.string (s.extract f k)] : List Value)[j]? = some u → (wr.alloc (.cells #[.string (s.extract f k)] 9)).cell? ((⟨wr.heap.size, 0, none⟩ : Addr).add j) = some u) := by
          show ∀ j u, _
          intro j u hj
          rw [Addr.add_mid, Nat.zero_add, World.cell?_alloc_new, ← hj]
          simp
        have HO : Hid _ := World.ownsRow.alloc HS.out (.cells #[.string (s.extract f k)] 9)
        have HB : Hid (w.heap.size ≤ (wr.alloc (.cells #[.string (s.extract f k)] 9)).heap.size) := show _ ≤ _ by have := HU.out.size; simp only [World.size_alloc]; omega
        have H1 : Hid (∀ u ∈ ([.string (s.extract f k)] : List Value), u.oneCell' = true) := show ∀ u ∈ ([.string (s.extract f k)] : List Value), _ from fun u hu' => by simp at hu'; subst hu'; rfl
        have hdl : (txs done).length ≤ k := by rw [txs_length]; exact HD.out.len
        clear he1 he2 he3 hi
        rcases hc with hc | ⟨hlt, hb⟩
        · subst hc
          go_wp2_with (at_builtin; refine wpList_append_lies _ (by rfl) _ _ 22 (by rfl) w.heap.size 9 i (.string ByteArray.empty) 1 16 Tryz.underlying22 HI.out HE3.out HE1.out HE2.out (by rfl) (by omega) u3 (txs done).length (txC (txs done)) (by rfl) HO.out ⟨wr.heap.size, 0, none⟩ 1 1 ([.string (s.extract f s.size)]) (by rfl) (by rfl) HN.out H1.out (by omega) (by unfold maxLen; omega) (by omega) HB.out (wr.heap.size + 1) (by simp) ?_; intro g2 cap2 w2 hown hgrow hat hlt2)
          obtain ⟨hS2, hu2⟩ := SlS.grown (x := s.extract f s.size) HU.out HS.out _ hown hgrow
          rw [ext_data] at hS2
          have HS2 : Hid (SlS w2 w.heap.size (.slice (some ⟨g2, 0, none⟩) ((txs done).length + 1) cap2) (txs (done ++ [(s.data.toList.drop f).take (s.size - f)]))) := show SlS _ _ _ _ by unfold txs at hS2 ⊢; rw [List.map_append]; exact hS2
          clear hown hgrow hat hlt2 hS2
          have HD2 : Hid (WdAt s.data.toList (s.size + 1) (s.size + 1) (done ++ [(s.data.toList.drop f).take (s.size - f)])) := show WdAt _ _ _ _ by
            have h := HD.out
            rw [HZ.out] at h ⊢
            exact h.fin
          go_roundg 0
          case rel => exact ⟨s.size + 1, s.size + 1, _, by omega, Nat.le_refl _, by go_num, by go_num, HD2.out, HS2.out, hu2⟩
          case measure => have := HK.out; omega
        · have hkn : ((k : Int) == (s.size : Int)) = false := by simp; omega
          have hb1 : (s[k].toNat : Int) = 32 := by rw [hb]; rfl
          go_wp2_with (at_builtin; refine wpList_append_lies _ (by rfl) _ _ 22 (by rfl) w.heap.size 9 i (.string ByteArray.empty) 1 16 Tryz.underlying22 HI.out HE3.out HE1.out HE2.out (by rfl) (by omega) u3 (txs done).length (txC (txs done)) (by rfl) HO.out ⟨wr.heap.size, 0, none⟩ 1 1 ([.string (s.extract f k)]) (by rfl) (by rfl) HN.out H1.out (by omega) (by unfold maxLen; omega) (by omega) HB.out (wr.heap.size + 1) (by simp) ?_; intro g2 cap2 w2 hown hgrow hat hlt2)
          obtain ⟨hS2, hu2⟩ := SlS.grown (x := s.extract f k) HU.out HS.out _ hown hgrow
          rw [ext_data] at hS2
          have HS2 : Hid (SlS w2 w.heap.size (.slice (some ⟨g2, 0, none⟩) ((txs done).length + 1) cap2) (txs (done ++ [(s.data.toList.drop f).take (k - f)]))) := show SlS _ _ _ _ by unfold txs at hS2 ⊢; rw [List.map_append]; exact hS2
          clear hown hgrow hat hlt2 hS2
          have HD2 : Hid (WdAt s.data.toList (k + 1) (k + 1) (done ++ [(s.data.toList.drop f).take (k - f)])) := HD.out.cut (by rw [← HZ.out]; exact hlt) (by rw [← hb]; simp; rfl)
          go_roundg (s.size - k)
          case rel => exact ⟨k + 1, k + 1, _, by omega, Nat.le_refl _, by go_num, by go_num, HD2.out, HS2.out, hu2⟩
          case measure => have := HK.out; omega
      · have hlt : k < s.size := by
          rcases Nat.lt_or_ge k s.size with h | h
          · exact h
          · exact absurd (Or.inl (by omega)) hc
        have hb : s[k] ≠ 32 := fun e => hc (Or.inr ⟨hlt, e⟩)
        have hb1 : ¬ (s[k].toNat : Int) = 32 := fun e => hb (by apply UInt8.toNat_inj.1; show s[k].toNat = 32; omega)
        have HD2 : Hid (WdAt s.data.toList (k + 1) f done) := HD.out.skip hf (by rw [← HZ.out]; exact hlt) (by
          intro e
          apply hb
          rw [← e]
          simp
          rfl)
        clear hc
        have hkn : ((k : Int) == (s.size : Int)) = false := by simp; omega
        have hbb : ((s[k].toNat : Int) == 32) = false := by simpa using hb1
        go_wp2_with fail
        go_roundg (s.size - k)
        case rel => exact ⟨k + 1, f, done, by omega, by omega, by go_num, rfl, HD2.out, HS.out, HU.out⟩
        case measure => have := HK.out; omega
    · have hkk : k = s.size + 1 := by have := HK.out; omega
      have HF : Hid (wordsL s.data.toList = done) := HD.out.hi (by rw [← HZ.out]; exact hkk)
      clear hkk
      go_wp2_with fail
      go_ret
      exact ⟨_, rfl, by rw [HF.out]; exact HS.out, HU.out⟩
end Go.Proofs.YtadpibcgjgcjhabGreatDoor
/- The document's many, listed, SameTexts. -/
namespace Go.Proofs.YtadpibcgjgcjhabGreatDoor
open Go.ChangeShapes Go.WideShapes Go.ChangeAt Go.RowKit
set_option maxRecDepth 100000
attribute [local go_sem ↓] Go.wp_at_zero Go.wp_at_succ
variable {w w' : World}

theorem many_add (w : World) : Calls Tryz.prog 14 #[.string (TX kAdd)] w fun e w' => e = .returned (.int .i64 0) ∧ w' = w := by
  have ht : (TX kAdd).toList = [97, 100, 100] := TX_toList _
  go_enter Tryz.func14, Tryz.ntmps14
  go_wp2_with fail
  go_ret
  exact ⟨rfl, rfl⟩
theorem many_scanall (w : World) : Calls Tryz.prog 14 #[.string (TX kScanall)] w fun e w' => e = .returned (.int .i64 0) ∧ w' = w := by
  have ht : (TX kScanall).toList = [115, 99, 97, 110, 97, 108, 108] := TX_toList _
  go_enter Tryz.func14, Tryz.ntmps14
  go_wp2_with fail
  go_ret
  exact ⟨rfl, rfl⟩
theorem many_left (w : World) : Calls Tryz.prog 14 #[.string (TX kLeft)] w fun e w' => e = .returned (.int .i64 0) ∧ w' = w := by
  have ht : (TX kLeft).toList = [108, 101, 102, 116] := TX_toList _
  go_enter Tryz.func14, Tryz.ntmps14
  go_wp2_with fail
  go_ret
  exact ⟨rfl, rfl⟩
theorem many_promised (w : World) : Calls Tryz.prog 14 #[.string (TX kPromised)] w fun e w' => e = .returned (.int .i64 0) ∧ w' = w := by
  have ht : (TX kPromised).toList = [112, 114, 111, 109, 105, 115, 101, 100] := TX_toList _
  go_enter Tryz.func14, Tryz.ntmps14
  go_wp2_with fail
  go_ret
  exact ⟨rfl, rfl⟩
theorem many_guests (w : World) : Calls Tryz.prog 14 #[.string (TX kGuests)] w fun e w' => e = .returned (.int .i64 0) ∧ w' = w := by
  have ht : (TX kGuests).toList = [103, 117, 101, 115, 116, 115] := TX_toList _
  go_enter Tryz.func14, Tryz.ntmps14
  go_wp2_with fail
  go_ret
  exact ⟨rfl, rfl⟩
theorem many_remove (w : World) : Calls Tryz.prog 14 #[.string (TX kRemove)] w fun e w' => e = .returned (.int .i64 1) ∧ w' = w := by
  have ht : (TX kRemove).toList = [114, 101, 109, 111, 118, 101] := TX_toList _
  go_enter Tryz.func14, Tryz.ntmps14
  go_wp2_with fail
  go_ret
  exact ⟨rfl, rfl⟩
theorem many_frame (w : World) : Calls Tryz.prog 14 #[.string (TX kFrame)] w fun e w' => e = .returned (.int .i64 1) ∧ w' = w := by
  have ht : (TX kFrame).toList = [102, 114, 97, 109, 101] := TX_toList _
  go_enter Tryz.func14, Tryz.ntmps14
  go_wp2_with fail
  go_ret
  exact ⟨rfl, rfl⟩
theorem many_plug (w : World) : Calls Tryz.prog 14 #[.string (TX kPlug)] w fun e w' => e = .returned (.int .i64 2) ∧ w' = w := by
  have ht : (TX kPlug).toList = [112, 108, 117, 103] := TX_toList _
  go_enter Tryz.func14, Tryz.ntmps14
  go_wp2_with fail
  go_ret
  exact ⟨rfl, rfl⟩
theorem many_unplug (w : World) : Calls Tryz.prog 14 #[.string (TX kUnplug)] w fun e w' => e = .returned (.int .i64 2) ∧ w' = w := by
  have ht : (TX kUnplug).toList = [117, 110, 112, 108, 117, 103] := TX_toList _
  go_enter Tryz.func14, Tryz.ntmps14
  go_wp2_with fail
  go_ret
  exact ⟨rfl, rfl⟩
theorem many_give (w : World) : Calls Tryz.prog 14 #[.string (TX kGive)] w fun e w' => e = .returned (.int .i64 2) ∧ w' = w := by
  have ht : (TX kGive).toList = [103, 105, 118, 101] := TX_toList _
  go_enter Tryz.func14, Tryz.ntmps14
  go_wp2_with fail
  go_ret
  exact ⟨rfl, rfl⟩
theorem many_back (w : World) : Calls Tryz.prog 14 #[.string (TX kBack)] w fun e w' => e = .returned (.int .i64 2) ∧ w' = w := by
  have ht : (TX kBack).toList = [98, 97, 99, 107] := TX_toList _
  go_enter Tryz.func14, Tryz.ntmps14
  go_wp2_with fail
  go_ret
  exact ⟨rfl, rfl⟩
theorem many_load (w : World) : Calls Tryz.prog 14 #[.string (TX kLoad)] w fun e w' => e = .returned (.int .i64 2) ∧ w' = w := by
  have ht : (TX kLoad).toList = [108, 111, 97, 100] := TX_toList _
  go_enter Tryz.func14, Tryz.ntmps14
  go_wp2_with fail
  go_ret
  exact ⟨rfl, rfl⟩
theorem many_root (w : World) : Calls Tryz.prog 14 #[.string (TX kRoot)] w fun e w' => e = .returned (.int .i64 2) ∧ w' = w := by
  have ht : (TX kRoot).toList = [114, 111, 111, 116] := TX_toList _
  go_enter Tryz.func14, Tryz.ntmps14
  go_wp2_with fail
  go_ret
  exact ⟨rfl, rfl⟩
theorem many_forget (w : World) : Calls Tryz.prog 14 #[.string (TX kForget)] w fun e w' => e = .returned (.int .i64 2) ∧ w' = w := by
  have ht : (TX kForget).toList = [102, 111, 114, 103, 101, 116] := TX_toList _
  go_enter Tryz.func14, Tryz.ntmps14
  go_wp2_with fail
  go_ret
  exact ⟨rfl, rfl⟩
theorem many_drop (w : World) : Calls Tryz.prog 14 #[.string (TX kDrop)] w fun e w' => e = .returned (.int .i64 2) ∧ w' = w := by
  have ht : (TX kDrop).toList = [100, 114, 111, 112] := TX_toList _
  go_enter Tryz.func14, Tryz.ntmps14
  go_wp2_with fail
  go_ret
  exact ⟨rfl, rfl⟩
theorem many_scan (w : World) : Calls Tryz.prog 14 #[.string (TX kScan)] w fun e w' => e = .returned (.int .i64 2) ∧ w' = w := by
  have ht : (TX kScan).toList = [115, 99, 97, 110] := TX_toList _
  go_enter Tryz.func14, Tryz.ntmps14
  go_wp2_with fail
  go_ret
  exact ⟨rfl, rfl⟩
theorem many_page (w : World) : Calls Tryz.prog 14 #[.string (TX kPage)] w fun e w' => e = .returned (.int .i64 2) ∧ w' = w := by
  have ht : (TX kPage).toList = [112, 97, 103, 101] := TX_toList _
  go_enter Tryz.func14, Tryz.ntmps14
  go_wp2_with fail
  go_ret
  exact ⟨rfl, rfl⟩
theorem many_store (w : World) : Calls Tryz.prog 14 #[.string (TX kStore)] w fun e w' => e = .returned (.int .i64 3) ∧ w' = w := by
  have ht : (TX kStore).toList = [115, 116, 111, 114, 101] := TX_toList _
  go_enter Tryz.func14, Tryz.ntmps14
  go_wp2_with fail
  go_ret
  exact ⟨rfl, rfl⟩
theorem many_none (w : World) (s : ByteArray) (h0 : s.data.toList ≠ kAdd) (h1 : s.data.toList ≠ kScanall) (h2 : s.data.toList ≠ kLeft) (h3 : s.data.toList ≠ kPromised) (h4 : s.data.toList ≠ kGuests) (h5 : s.data.toList ≠ kRemove) (h6 : s.data.toList ≠ kFrame) (h7 : s.data.toList ≠ kPlug) (h8 : s.data.toList ≠ kUnplug) (h9 : s.data.toList ≠ kGive) (h10 : s.data.toList ≠ kBack) (h11 : s.data.toList ≠ kLoad) (h12 : s.data.toList ≠ kRoot) (h13 : s.data.toList ≠ kForget) (h14 : s.data.toList ≠ kDrop) (h15 : s.data.toList ≠ kScan) (h16 : s.data.toList ≠ kPage) (h17 : s.data.toList ≠ kStore) : Calls Tryz.prog 14 #[.string s] w fun e w' => e = .returned (.int .i64 (-1)) ∧ w' = w := by
  have t0 : (s.toList == [97, 100, 100]) = false := by rw [toList_data]; simpa [kAdd] using h0
  have t1 : (s.toList == [115, 99, 97, 110, 97, 108, 108]) = false := by rw [toList_data]; simpa [kScanall] using h1
  have t2 : (s.toList == [108, 101, 102, 116]) = false := by rw [toList_data]; simpa [kLeft] using h2
  have t3 : (s.toList == [112, 114, 111, 109, 105, 115, 101, 100]) = false := by rw [toList_data]; simpa [kPromised] using h3
  have t4 : (s.toList == [103, 117, 101, 115, 116, 115]) = false := by rw [toList_data]; simpa [kGuests] using h4
  have t5 : (s.toList == [114, 101, 109, 111, 118, 101]) = false := by rw [toList_data]; simpa [kRemove] using h5
  have t6 : (s.toList == [102, 114, 97, 109, 101]) = false := by rw [toList_data]; simpa [kFrame] using h6
  have t7 : (s.toList == [112, 108, 117, 103]) = false := by rw [toList_data]; simpa [kPlug] using h7
  have t8 : (s.toList == [117, 110, 112, 108, 117, 103]) = false := by rw [toList_data]; simpa [kUnplug] using h8
  have t9 : (s.toList == [103, 105, 118, 101]) = false := by rw [toList_data]; simpa [kGive] using h9
  have t10 : (s.toList == [98, 97, 99, 107]) = false := by rw [toList_data]; simpa [kBack] using h10
  have t11 : (s.toList == [108, 111, 97, 100]) = false := by rw [toList_data]; simpa [kLoad] using h11
  have t12 : (s.toList == [114, 111, 111, 116]) = false := by rw [toList_data]; simpa [kRoot] using h12
  have t13 : (s.toList == [102, 111, 114, 103, 101, 116]) = false := by rw [toList_data]; simpa [kForget] using h13
  have t14 : (s.toList == [100, 114, 111, 112]) = false := by rw [toList_data]; simpa [kDrop] using h14
  have t15 : (s.toList == [115, 99, 97, 110]) = false := by rw [toList_data]; simpa [kScan] using h15
  have t16 : (s.toList == [112, 97, 103, 101]) = false := by rw [toList_data]; simpa [kPage] using h16
  have t17 : (s.toList == [115, 116, 111, 114, 101]) = false := by rw [toList_data]; simpa [kStore] using h17
  clear h0 h1 h2 h3 h4 h5 h6 h7 h8 h9 h10 h11 h12 h13 h14 h15 h16 h17
  go_enter Tryz.func14, Tryz.ntmps14
  go_wp2_with fail
  go_ret
  exact ⟨rfl, rfl⟩
def manyI (c : List UInt8) : Int := match manyL c with
  | some k => (k : Int)
  | none => -1
theorem many_any (w : World) (s : ByteArray) : Calls Tryz.prog 14 #[.string s] w fun e w' => e = .returned (.int .i64 (manyI s.data.toList)) ∧ w' = w := by
  unfold manyI manyL
  by_cases h0 : s.data.toList = kAdd
  · rw [if_pos h0]; have e : s = TX kAdd := by rw [← h0]; rfl
    rw [e]; exact many_add w
  by_cases h1 : s.data.toList = kScanall
  · rw [if_neg h0, if_pos h1]; have e : s = TX kScanall := by rw [← h1]; rfl
    rw [e]; exact many_scanall w
  by_cases h2 : s.data.toList = kLeft
  · rw [if_neg h0, if_neg h1, if_pos h2]; have e : s = TX kLeft := by rw [← h2]; rfl
    rw [e]; exact many_left w
  by_cases h3 : s.data.toList = kPromised
  · rw [if_neg h0, if_neg h1, if_neg h2, if_pos h3]; have e : s = TX kPromised := by rw [← h3]; rfl
    rw [e]; exact many_promised w
  by_cases h4 : s.data.toList = kGuests
  · rw [if_neg h0, if_neg h1, if_neg h2, if_neg h3, if_pos h4]; have e : s = TX kGuests := by rw [← h4]; rfl
    rw [e]; exact many_guests w
  by_cases h5 : s.data.toList = kRemove
  · rw [if_neg h0, if_neg h1, if_neg h2, if_neg h3, if_neg h4, if_pos h5]; have e : s = TX kRemove := by rw [← h5]; rfl
    rw [e]; exact many_remove w
  by_cases h6 : s.data.toList = kFrame
  · rw [if_neg h0, if_neg h1, if_neg h2, if_neg h3, if_neg h4, if_neg h5, if_pos h6]; have e : s = TX kFrame := by rw [← h6]; rfl
    rw [e]; exact many_frame w
  by_cases h7 : s.data.toList = kPlug
  · rw [if_neg h0, if_neg h1, if_neg h2, if_neg h3, if_neg h4, if_neg h5, if_neg h6, if_pos h7]; have e : s = TX kPlug := by rw [← h7]; rfl
    rw [e]; exact many_plug w
  by_cases h8 : s.data.toList = kUnplug
  · rw [if_neg h0, if_neg h1, if_neg h2, if_neg h3, if_neg h4, if_neg h5, if_neg h6, if_neg h7, if_pos h8]; have e : s = TX kUnplug := by rw [← h8]; rfl
    rw [e]; exact many_unplug w
  by_cases h9 : s.data.toList = kGive
  · rw [if_neg h0, if_neg h1, if_neg h2, if_neg h3, if_neg h4, if_neg h5, if_neg h6, if_neg h7, if_neg h8, if_pos h9]; have e : s = TX kGive := by rw [← h9]; rfl
    rw [e]; exact many_give w
  by_cases h10 : s.data.toList = kBack
  · rw [if_neg h0, if_neg h1, if_neg h2, if_neg h3, if_neg h4, if_neg h5, if_neg h6, if_neg h7, if_neg h8, if_neg h9, if_pos h10]; have e : s = TX kBack := by rw [← h10]; rfl
    rw [e]; exact many_back w
  by_cases h11 : s.data.toList = kLoad
  · rw [if_neg h0, if_neg h1, if_neg h2, if_neg h3, if_neg h4, if_neg h5, if_neg h6, if_neg h7, if_neg h8, if_neg h9, if_neg h10, if_pos h11]; have e : s = TX kLoad := by rw [← h11]; rfl
    rw [e]; exact many_load w
  by_cases h12 : s.data.toList = kRoot
  · rw [if_neg h0, if_neg h1, if_neg h2, if_neg h3, if_neg h4, if_neg h5, if_neg h6, if_neg h7, if_neg h8, if_neg h9, if_neg h10, if_neg h11, if_pos h12]; have e : s = TX kRoot := by rw [← h12]; rfl
    rw [e]; exact many_root w
  by_cases h13 : s.data.toList = kForget
  · rw [if_neg h0, if_neg h1, if_neg h2, if_neg h3, if_neg h4, if_neg h5, if_neg h6, if_neg h7, if_neg h8, if_neg h9, if_neg h10, if_neg h11, if_neg h12, if_pos h13]; have e : s = TX kForget := by rw [← h13]; rfl
    rw [e]; exact many_forget w
  by_cases h14 : s.data.toList = kDrop
  · rw [if_neg h0, if_neg h1, if_neg h2, if_neg h3, if_neg h4, if_neg h5, if_neg h6, if_neg h7, if_neg h8, if_neg h9, if_neg h10, if_neg h11, if_neg h12, if_neg h13, if_pos h14]; have e : s = TX kDrop := by rw [← h14]; rfl
    rw [e]; exact many_drop w
  by_cases h15 : s.data.toList = kScan
  · rw [if_neg h0, if_neg h1, if_neg h2, if_neg h3, if_neg h4, if_neg h5, if_neg h6, if_neg h7, if_neg h8, if_neg h9, if_neg h10, if_neg h11, if_neg h12, if_neg h13, if_neg h14, if_pos h15]; have e : s = TX kScan := by rw [← h15]; rfl
    rw [e]; exact many_scan w
  by_cases h16 : s.data.toList = kPage
  · rw [if_neg h0, if_neg h1, if_neg h2, if_neg h3, if_neg h4, if_neg h5, if_neg h6, if_neg h7, if_neg h8, if_neg h9, if_neg h10, if_neg h11, if_neg h12, if_neg h13, if_neg h14, if_neg h15, if_pos h16]; have e : s = TX kPage := by rw [← h16]; rfl
    rw [e]; exact many_page w
  by_cases h17 : s.data.toList = kStore
  · rw [if_neg h0, if_neg h1, if_neg h2, if_neg h3, if_neg h4, if_neg h5, if_neg h6, if_neg h7, if_neg h8, if_neg h9, if_neg h10, if_neg h11, if_neg h12, if_neg h13, if_neg h14, if_neg h15, if_neg h16, if_pos h17]; have e : s = TX kStore := by rw [← h17]; rfl
    rw [e]; exact many_store w
  rw [if_neg h0, if_neg h1, if_neg h2, if_neg h3, if_neg h4, if_neg h5, if_neg h6, if_neg h7, if_neg h8, if_neg h9, if_neg h10, if_neg h11, if_neg h12, if_neg h13, if_neg h14, if_neg h15, if_neg h16, if_neg h17]
  exact many_none w s h0 h1 h2 h3 h4 h5 h6 h7 h8 h9 h10 h11 h12 h13 h14 h15 h16 h17
/-- Numbers that a slice holds. -/
def IntsAt (w : World) (a : Option Addr) (xs : List Int) : Prop := ∀ i, i < xs.length → ∃ g, a = some ⟨g, 0, none⟩ ∧ w.cell? ⟨g, i, none⟩ = some (.int .i64 (xs.getD i 0))
theorem listT_one (x : Int) : listT [x] = numT x := by unfold listT; exact Lib.join_one _ _
theorem listT_snoc (xs : List Int) (x : Int) (h : xs ≠ []) : listT (xs ++ [x]) = listT xs ++ [32] ++ numT x := by
  cases xs with
  | nil => exact absurd rfl h
  | cons y r =>
    unfold listT
    rw [List.cons_append, List.map_cons, List.map_cons, Lib.join_cons, Lib.join_cons]
    simp [Lib.joinTail]
theorem listT_len : ∀ (xs : List Int), (∀ x ∈ xs, x ≤ 1000000) → (listT xs).length ≤ 1000002 * xs.length := by
  intro xs h
  unfold listT
  cases xs with
  | nil => simp [Lib.join_nil]
  | cons y r =>
    rw [List.map_cons, Lib.join_cons]
    have hy := numT_le y (h y (List.mem_cons_self))
    have : ∀ (r : List Int), (∀ x ∈ r, x ≤ 1000000) → (Lib.joinTail [32] (r.map numT)).length ≤ 1000002 * r.length := by
      intro r
      induction r with
      | nil => intro _; simp [Lib.joinTail]
      | cons z r ih =>
        intro hr
        have hz := numT_le z (hr z (List.mem_cons_self))
        have := ih (fun x hx => hr x (List.mem_cons_of_mem _ hx))
        simp only [Lib.joinTail, List.map_cons, List.flatten_cons, List.length_append, List.length_cons] at this ⊢
        simp at this ⊢
        omega
    have h2 := this r (fun x hx => h x (List.mem_cons_of_mem _ hx))
    simp only [List.length_append, List.length_cons]
    omega
def lstT (xs : List Int) : List UInt8 := if xs = [] then [45] else listT xs
theorem listT_ne {xs : List Int} (h : xs ≠ []) : listT xs ≠ [] := by
  cases xs with
  | nil => exact absurd rfl h
  | cons y r =>
    unfold listT
    rw [List.map_cons, Lib.join_cons]
    have : numT y ≠ [] := by rw [numT_eq]; exact dec_ne _
    simp [this]
theorem take_next {xs : List Int} {k : Nat} (hk : k < xs.length) : xs.take (k + 1) = xs.take k ++ [xs.getD k 0] := by
  rw [List.take_add_one, List.getElem?_eq_getElem hk]
  simp [List.getD_eq_getElem?_getD, List.getElem?_eq_getElem hk]
theorem take_ne {xs : List Int} {k : Nat} (hk : k < xs.length) (h0 : k ≠ 0) : xs.take k ≠ [] := fun e => by
  have := congrArg List.length e
  rw [List.length_take, List.length_nil] at this
  omega
set_option maxHeartbeats 1000000 in
theorem listed_any (w : World) (a : Option Addr) (cap : Nat) (xs : List Int) (ha : IntsAt w a xs) (h4 : xs.length ≤ 4) (hx : ∀ x ∈ xs, 0 ≤ x ∧ x ≤ 1000000) : Calls Tryz.prog 20 #[.slice a xs.length cap] w fun e w' => e = .returned (.string (TX (lstT xs))) ∧ Upd (fun _ => False) w w' := by
  have HA : Hid _ := ha
  have HX : Hid _ := hx
  clear ha hx
  have HL : Hid (∀ k, k ≤ xs.length → ¬ 9223372036854775807 < (TX (listT (xs.take k))).size + 1000010) := fun k hk => by
    have := listT_len (xs.take k) (fun x hx => (HX.out x (List.mem_of_mem_take hx)).2)
    rw [List.length_take] at this
    rw [TX_size]
    omega
  go_enter Tryz.func20, Tryz.ntmps20
  go_wp2_with fail
  go_loopg [3, 4] xs.length (fun g sv iv wr => ∃ k : Nat, k + g = xs.length ∧ iv = .int .i64 k ∧ sv = .string (TX (listT (xs.take k))) ∧ Hid (Upd (fun _ => False) w wr))
  case atStart => exact ⟨0, by omega, rfl, rfl, Upd.refl _ _⟩
  case round =>
    obtain ⟨k, hk, rfl, rfl, HU⟩ := hrel
    have HK : Hid _ := hk
    clear hk
    by_cases hlt : k < xs.length
    · obtain ⟨g, rfl, hc⟩ := HA.out k hlt
      have hcr := HU.out.cell hc (fun f => f)
      clear hc
      have hm : xs.getD k 0 ∈ xs := by rw [List.getD_eq_getElem?_getD, List.getElem?_eq_getElem hlt]; exact List.getElem_mem hlt
      have hxk := HX.out _ hm
      have htk : Hid (xs.take (k + 1) = xs.take k ++ [xs.getD k 0]) := take_next hlt
      have hl := HL.out k (by omega)
      have hn := numT_le _ hxk.2
      have HN : Hid _ := hn
      generalize xs.getD k 0 = x at *
      have HDC : Hid _ := fun w => dec_any w x hxk.1 hxk.2
      by_cases h0 : k = 0
      · subst h0
        have HE : Hid (TX (listT (xs.take 0)) ++ TX (numT x) = TX (listT (xs.take (0 + 1)))) := show _ = _ by rw [htk.out, List.take_zero, List.nil_append, listT_one]; rfl
        have hs : ¬ 9223372036854775807 < (TX (listT (xs.take 0))).size + (TX (numT x)).size := by rw [TX_size (numT x)]; omega
        clear hn hl
        go_wp2_with (go_at_call 18; refine Calls.mono (HDC.out _) ?_; rintro e w2 ⟨rfl, hu2⟩)
        go_roundg (xs.length - (0 + 1))
        case rel => exact ⟨0 + 1, by omega, by go_num, by rw [← HE.out, List.take_zero], HU.out.trans hu2 (fun _ _ f => f)⟩
        case measure => have := HK.out; omega
      · have HE : Hid (TX (listT (xs.take k)) ++ ⟨#[32]⟩ ++ TX (numT x) = TX (listT (xs.take (k + 1)))) := show _ = _ by rw [htk.out, listT_snoc _ _ (take_ne hlt h0), ← TX_append, ← TX_append]; rfl
        have hs0 : ¬ 9223372036854775807 < (TX (listT (xs.take k))).size + 1 := by omega
        have hs : ¬ 9223372036854775807 < (TX (listT (xs.take k))).size + 1 + (TX (numT x)).size := by rw [TX_size (numT x)]; omega
        clear hn hl
        go_wp2_with (go_at_call 18; refine Calls.mono (HDC.out _) ?_; rintro e w2 ⟨rfl, hu2⟩)
        go_roundg (xs.length - (k + 1))
        case rel => exact ⟨k + 1, by omega, by go_num, by rw [← HE.out], HU.out.trans hu2 (fun _ _ f => f)⟩
        case measure => have := HK.out; omega
    · have hkk : k = xs.length := by have := HK.out; omega
      subst hkk
      have hall : xs.take xs.length = xs := List.take_length
      rw [hall]
      by_cases he : xs = []
      · have ht : ((TX (listT xs)).toList == []) = true := by rw [he, TX_toList]; rfl
        have HE : Hid _ := he
        clear he
        go_wp2_with fail
        go_ret
        exact ⟨by unfold lstT; rw [if_pos HE.out]; rfl, HU.out⟩
      · have ht : ((TX (listT xs)).toList == []) = false := by rw [TX_toList]; simpa using listT_ne he
        have HE : Hid _ := he
        clear he
        go_wp2_with fail
        go_ret
        exact ⟨by unfold lstT; rw [if_neg HE.out]; rfl, HU.out⟩
end Go.Proofs.YtadpibcgjgcjhabGreatDoor
/- SameTexts. -/
namespace Go.Proofs.YtadpibcgjgcjhabGreatDoor
open Go.ChangeShapes Go.WideShapes Go.ChangeAt Go.RowKit
set_option maxRecDepth 100000
attribute [local go_sem ↓] Go.wp_at_zero Go.wp_at_succ
variable {w w' : World}

/-- Texts that a slice holds. -/
def TxAt (w : World) (a : Option Addr) (l : List ByteArray) : Prop := ∀ i, i < l.length → ∃ g o, a = some ⟨g, o, none⟩ ∧ g < w.heap.size ∧ w.cell? ⟨g, o + i, none⟩ = some (.string (l.getD i ByteArray.empty))
theorem TxAt.upd {S : Nat → Prop} {a : Option Addr} {l : List ByteArray} (h : TxAt w a l) (u : Upd S w w') (hS : ∀ g o, a = some ⟨g, o, none⟩ → ¬ S g) : TxAt w' a l := fun i hi => by
  obtain ⟨g, o, e, hg, hc⟩ := h i hi
  exact ⟨g, o, e, Nat.lt_of_lt_of_le hg u.size, u.cell hc (hS g o e)⟩
theorem SlS.txAt {base : Nat} {v : Value} {l : List ByteArray} (h : SlS w base v l) : ∃ a cap, v = .slice a l.length cap ∧ TxAt w a l ∧ ∀ g o, a = some ⟨g, o, none⟩ → base ≤ g := by
  rcases h.2 with ⟨rfl, h0⟩ | ⟨g, cap, cur, rfl, hb, hg, _⟩
  · exact ⟨none, 0, by rw [h0], fun i hi => absurd hi (by omega), fun g o e => by cases e⟩
  · obtain ⟨a, cap', e, hc⟩ := h.form
    cases e
    refine ⟨_, _, rfl, fun i hi => ?_, fun g' o e => ?_⟩
    · obtain ⟨g', e, _, hlt, hcc⟩ := hc i hi
      cases e
      exact ⟨_, 0, rfl, hlt, by rw [Nat.zero_add]; exact hcc⟩
    · cases e
      exact hb
theorem sameTexts_any (w : World) (a b : Option Addr) (c d : Nat) (l : List ByteArray) (ha : TxAt w a l) (hb : TxAt w b l) (hl : l.length ≤ 1000) : Calls Tryz.prog 9 #[.slice a l.length c, .slice b l.length d] w fun e w' => e = .returned (.bool true) ∧ Upd (fun _ => False) w w' := by
  have HA : Hid _ := ha
  have HB : Hid _ := hb
  clear ha hb
  have hll : ((l.length : Int) != (l.length : Int)) = false := by simp
  go_enter Tryz.func9, Tryz.ntmps9
  go_wp2_with fail
  go_loopg [5] l.length (fun g iv wr => ∃ k : Nat, k + g = l.length ∧ iv = .int .i64 k ∧ Hid (Upd (fun _ => False) w wr))
  case atStart => exact ⟨0, by omega, rfl, Upd.refl _ _⟩
  case round =>
    obtain ⟨k, hk, rfl, HU⟩ := hrel
    have HK : Hid _ := hk
    clear hk
    by_cases hlt : k < l.length
    · obtain ⟨g, o, rfl, _, hc⟩ := HA.out k hlt
      obtain ⟨g', o', rfl, _, hc'⟩ := HB.out k hlt
      have d := HU.out.cell hc (fun f => f)
      have d' := HU.out.cell hc' (fun f => f)
      clear hc hc'
      generalize l.getD k ByteArray.empty = x at *
      have he : (x.toList == x.toList) = true := by simp
      have hne : (x.toList != x.toList) = false := by simp
      go_wp2_with fail
      go_quiet (fail)
      go_wp2_with fail
      go_roundg (l.length - (k + 1))
      case rel => exact ⟨k + 1, by omega, by go_num, HU.out.drewN nq⟩
      case measure => have := HK.out; omega
    · go_wp2_with fail
      go_ret
      exact ⟨rfl, HU.out⟩
end Go.Proofs.YtadpibcgjgcjhabGreatDoor
/- The document's host in memory; whom a number names. -/
namespace Go.Proofs.YtadpibcgjgcjhabGreatDoor
open Go.ChangeShapes Go.WideShapes Go.ChangeAt Go.RowKit
set_option maxRecDepth 100000
attribute [local go_sem ↓] Go.wp_at_zero Go.wp_at_succ

/-- The document's host: its block bh, its pool bm, its guests' blocks bx, the lists that they keep v. -/
structure RHo (w : World) (bh bm base : Nat) (bx : Nat → Nat) (v : Nat → Value) (h : Hs) : Prop where
  c0 : w.cell? ⟨bh, 0, none⟩ = some (.pointer (some ⟨bm, 0, none⟩))
  cg : ∀ i, i < 4 → w.cell? ⟨bh, 1 + i, none⟩ = some (gPtr (h.g i) (bx i))
  fz : ∀ o, w.frozen? ⟨bh, o, none⟩ = false
  ref : RefAt w bm h.s
  gu : ∀ i x, h.g i = some x → RGu w (bx i) bm base (v i) x
  hm : bh ≠ bm
  ne : ∀ i x, h.g i = some x → bx i ≠ bh ∧ bx i ≠ bm
  nx : ∀ i j x y, h.g i = some x → h.g j = some y → i ≠ j → bx i ≠ bx j
  nv : ∀ i x k, h.g i = some x → (v i).ownBlock = some k → k ≠ bh ∧ k ≠ bm ∧ ∀ j y, h.g j = some y → k ≠ bx j
  base : base ≤ w.heap.size
  lx : ∀ j, 4 ≤ j → bx j < w.heap.size
  nl : ∀ i x k j, h.g i = some x → (v i).ownBlock = some k → 4 ≤ j → k ≠ bx j
variable {w w' : World} {bh bm base : Nat} {bx : Nat → Nat} {v : Nat → Value} {h : Hs} {n : Nat} {x : Gs} {s' : Pl} {x' : Gs}
theorem RHo.lt (r : RHo w bh bm base bx v h) : bh < w.heap.size ∧ bm < w.heap.size := ⟨World.block_lt_of_cell? w _ r.c0, World.block_lt_of_cell? w _ r.ref.num⟩
theorem RHo.same (r : RHo w bh bm base bx v h) (u : Upd (fun _ => False) w w') : RHo w' bh bm base bx v h :=
  ⟨u.cell r.c0 (fun f => f), fun i hi => u.cell (r.cg i hi) (fun f => f), fun o => by rw [World.frozen?_of_block (w := w) (u.block bh r.lt.1 (fun f => f))]; exact r.fz o, r.ref.upd u (fun f => f), fun i x hx => (r.gu i x hx).upd u (fun f => f) (fun _ _ f => f), r.hm, r.ne, r.nx, r.nv, Nat.le_trans r.base u.size, fun j hj => Nat.lt_of_lt_of_le (r.lx j hj) u.size, r.nl⟩
theorem RHo.drew (r : RHo w bh bm base bx v h) : RHo w.drew bh bm base bx v h := r.same (Upd.refl _ _).drew
/-- One guest's act. -/
theorem RHo.act {v' : Value} (r : RHo w bh bm base bx v h) (hx : h.g n = some x) (hr : RefAt w' bm s') (hg : RGu w' (bx n) bm base v' x') (hf : Fr w (v n) v') (u : Upd (fun k => k = bm ∨ k = bx n) w w') : RHo w' bh bm base bx (setAt v n v') (h.put n (s', x')) := by
  have hn := r.ne n x hx
  have hne : ∀ i y, (h.put n (s', x')).g i = some y → i ≠ n → h.g i = some y := fun i y hy e => by rw [← hy]; exact (setAt_other _ _ _ _ e).symm
  have hany : ∀ i y, (h.put n (s', x')).g i = some y → ∃ z, h.g i = some z := fun i y hy => by
    by_cases e : i = n
    · subst e; exact ⟨x, hx⟩
    · exact ⟨y, hne i y hy e⟩
  have hlt : ∀ i z, h.g i = some z → bx i < w.heap.size := fun i z hz => (r.gu i z hz).mp.lt
  refine ⟨u.cell r.c0 (by have := r.hm; simp only; omega), fun i hi => ?_, fun o => ?_, hr, fun i y hy => ?_, r.hm, fun i y hy => ?_, fun i j y z hy hz e => ?_, fun i y k hy hk => ?_, Nat.le_trans r.base u.size, fun j hj => Nat.lt_of_lt_of_le (r.lx j hj) u.size, fun i y k j hy hk hj => ?_⟩
  · have hc := u.cell (r.cg i hi) (by have := r.hm; simp only; omega)
    rw [hc]
    by_cases e : i = n
    · subst e
      rw [put_at, hx]; rfl
    · rw [show (h.put n (s', x')).g i = h.g i from setAt_other _ _ _ _ e]
  · rw [World.frozen?_of_block (w := w) (u.block bh r.lt.1 (by have := r.hm; omega))]; exact r.fz o
  · by_cases e : i = n
    · subst e
      rw [put_at] at hy
      cases hy
      rw [setAt_same]
      exact hg
    · have hy' := hne i y hy e
      rw [setAt_other _ _ _ _ e]
      have h1 := r.ne i y hy'
      have h2 := r.nx i n y x hy' hx e
      exact (r.gu i y hy').upd u (by omega) (fun k hk hs => by
        have h3 := r.nv i y k hy' hk
        have h4 := h3.2.2 n x hx
        omega)
  · obtain ⟨z, hz⟩ := hany i y hy
    exact r.ne i z hz
  · obtain ⟨y', hy'⟩ := hany i y hy
    obtain ⟨z', hz'⟩ := hany j z hz
    exact r.nx i j y' z' hy' hz' e
  · obtain ⟨y', hy'⟩ := hany i y hy
    by_cases e : i = n
    · subst e
      rw [setAt_same] at hk
      rcases hf k hk with h3 | h3
      · have h4 := r.nv i y' k hy' h3
        refine ⟨h4.1, h4.2.1, fun j z hz => ?_⟩
        obtain ⟨z', hz'⟩ := hany j z hz
        exact h4.2.2 j z' hz'
      · have := r.lt
        refine ⟨by omega, by omega, fun j z hz => ?_⟩
        obtain ⟨z', hz'⟩ := hany j z hz
        have := hlt j z' hz'
        omega
    · rw [setAt_other _ _ _ _ e] at hk
      have h4 := r.nv i y' k hy' hk
      refine ⟨h4.1, h4.2.1, fun j z hz => ?_⟩
      obtain ⟨z', hz'⟩ := hany j z hz
      exact h4.2.2 j z' hz'
  · obtain ⟨y', hy'⟩ := hany i y hy
    by_cases e : i = n
    · subst e
      rw [setAt_same] at hk
      rcases hf k hk with h3 | h3
      · exact r.nl i y' k j hy' h3 hj
      · have := r.lx j hj; omega
    · rw [setAt_other _ _ _ _ e] at hk
      exact r.nl i y' k j hy' hk hj
/-- Where an act of a guest begins. -/
theorem RHo.pre {W : Int} (r : RHo w bh bm base bx v h) (hi : HInv h W) (hW : W ≤ 1000000) (hx : h.g n = some x) : RPre w (bx n) bm base (v n) h.s x (oth h n) :=
  ⟨r.gu n x hx, r.ref, (r.ne n x hx).2, (hi.ginv hx).more hW, r.base⟩
theorem RHo.cNone (r : RHo w bh bm base bx v h) {k : Nat} (hk : k < 4) (hx : h.g k = none) : w.cell? ⟨bh, 1 + k, none⟩ = some (.pointer none) := by
  have := r.cg k hk
  rw [hx] at this
  exact this
theorem RHo.cSome (r : RHo w bh bm base bx v h) {k : Nat} (hk : k < 4) {x : Gs} (hx : h.g k = some x) : w.cell? ⟨bh, 1 + k, none⟩ = some (.pointer (some ⟨bx k, 0, none⟩)) := by
  have := r.cg k hk
  rw [hx] at this
  exact this
/-- What Who answers. -/
def whoV (h : Hs) (bx : Nat → Nat) (n : Int) : Value := if 0 < hWho h n then .pointer none else .pointer (some ⟨bx n.toNat, 0, none⟩)
theorem rWho_any (r : RHo w bh bm base bx v h) (n : Int) : Calls Tryz.prog 31 #[.pointer (some ⟨bh, 0, none⟩), .int .i64 n] w fun e w' => e = .returned (.tuple #[whoV h bx n, .int .i64 (hWho h n)]) ∧ ∃ m, w' = w.drewN m := by
  by_cases ho : n < 0 ∨ 3 < n
  · have hw : hWho h n = 1 := by unfold hWho; rw [if_pos ho]
    have hv : whoV h bx n = .pointer none := by unfold whoV; rw [hw, if_pos (by omega)]
    rw [hw, hv]
    clear hw hv r
    rcases ho with h0 | h0
    · have d0 : decide (n < 0) = true := by simp; omega
      go_enter Tryz.func31, Tryz.ntmps31
      go_wp2_with fail
      go_ret2
      exact ⟨rfl, 0, rfl⟩
    · have d0 : decide (n < 0) = false := by simp; omega
      have d1 : decide (3 < n) = true := by simp; omega
      go_enter Tryz.func31, Tryz.ntmps31
      go_wp2_with fail
      go_ret2
      exact ⟨rfl, 0, rfl⟩
  · obtain ⟨k, rfl⟩ := Int.eq_ofNat_of_zero_le (show 0 ≤ n by omega)
    have hk : k < 4 := by omega
    have d0 : decide ((k : Int) < 0) = false := by simp
    have d1 : decide ((3 : Int) < (k : Int)) = false := by simp; omega
    have k0 : (0 : Int) ≤ (k : Int) := by omega
    have k1 : (k : Int) < 4 := by omega
    cases hx : h.g k with
    | none =>
      have hw : hWho h k = 2 := by unfold hWho; rw [if_neg ho, Int.toNat_natCast, hx]
      have hv : whoV h bx k = .pointer none := by unfold whoV; rw [hw, if_pos (by omega)]
      have c := r.cNone hk hx
      rw [hw, hv]
      clear hw hv r hx ho
      go_enter Tryz.func31, Tryz.ntmps31
      go_wp2_with fail
      go_ret2
      exact ⟨rfl, 0, rfl⟩
    | some x =>
      have hw : hWho h k = 0 := (hWho_some hx hk).1
      have hv : whoV h bx k = .pointer (some ⟨bx k, 0, none⟩) := by unfold whoV; rw [hw, if_neg (by omega), Int.toNat_natCast]
      have c := r.cSome hk hx
      rw [hw, hv]
      clear hw hv r hx ho
      go_enter Tryz.func31, Tryz.ntmps31
      go_wp2_with fail
      go_ret2
      exact ⟨rfl, 0, rfl⟩
theorem whoV_yes (hx : h.g n = some x) (hn : n < 4) : whoV h bx n = .pointer (some ⟨bx n, 0, none⟩) := by unfold whoV; rw [(hWho_some hx hn).1, if_neg (by omega), Int.toNat_natCast]
end Go.Proofs.YtadpibcgjgcjhabGreatDoor
