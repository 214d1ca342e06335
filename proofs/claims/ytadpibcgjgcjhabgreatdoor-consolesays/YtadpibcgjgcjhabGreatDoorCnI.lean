/- The document's many, listed, SameTexts. -/
import Derived.Test.YtadpibcgjgcjhabGreatDoorCnH
import Derived.Test.YtadpibcgjgcjhabGreatDoorHpN
namespace Go.Proofs.YtadpibcgjgcjhabGreatDoor
open Go.ChangeShapes Go.WideShapes Go.ChangeAt Go.RowKit
set_option maxRecDepth 100000
attribute [local go_sem ↓] Go.wp_at_zero Go.wp_at_succ
variable {w w' : World}

theorem many_add (w : World) : Calls Tryz.prog 14 #[.string (TX kAdd)] w fun e w' => e = .returned (.int .i64 0) ∧ w' = w := by
  have ht : (TX kAdd).toList = [97, 100, 100] := TX_toList _
  go_enter Tryz.func14, Tryz.ntmps14
  go_wp2_with fail
  go_ret
  exact ⟨rfl, rfl⟩
theorem many_scanall (w : World) : Calls Tryz.prog 14 #[.string (TX kScanall)] w fun e w' => e = .returned (.int .i64 0) ∧ w' = w := by
  have ht : (TX kScanall).toList = [115, 99, 97, 110, 97, 108, 108] := TX_toList _
  go_enter Tryz.func14, Tryz.ntmps14
  go_wp2_with fail
  go_ret
  exact ⟨rfl, rfl⟩
theorem many_left (w : World) : Calls Tryz.prog 14 #[.string (TX kLeft)] w fun e w' => e = .returned (.int .i64 0) ∧ w' = w := by
  have ht : (TX kLeft).toList = [108, 101, 102, 116] := TX_toList _
  go_enter Tryz.func14, Tryz.ntmps14
  go_wp2_with fail
  go_ret
  exact ⟨rfl, rfl⟩
theorem many_promised (w : World) : Calls Tryz.prog 14 #[.string (TX kPromised)] w fun e w' => e = .returned (.int .i64 0) ∧ w' = w := by
  have ht : (TX kPromised).toList = [112, 114, 111, 109, 105, 115, 101, 100] := TX_toList _
  go_enter Tryz.func14, Tryz.ntmps14
  go_wp2_with fail
  go_ret
  exact ⟨rfl, rfl⟩
theorem many_guests (w : World) : Calls Tryz.prog 14 #[.string (TX kGuests)] w fun e w' => e = .returned (.int .i64 0) ∧ w' = w := by
  have ht : (TX kGuests).toList = [103, 117, 101, 115, 116, 115] := TX_toList _
  go_enter Tryz.func14, Tryz.ntmps14
  go_wp2_with fail
  go_ret
  exact ⟨rfl, rfl⟩
theorem many_remove (w : World) : Calls Tryz.prog 14 #[.string (TX kRemove)] w fun e w' => e = .returned (.int .i64 1) ∧ w' = w := by
  have ht : (TX kRemove).toList = [114, 101, 109, 111, 118, 101] := TX_toList _
  go_enter Tryz.func14, Tryz.ntmps14
  go_wp2_with fail
  go_ret
  exact ⟨rfl, rfl⟩
theorem many_frame (w : World) : Calls Tryz.prog 14 #[.string (TX kFrame)] w fun e w' => e = .returned (.int .i64 1) ∧ w' = w := by
  have ht : (TX kFrame).toList = [102, 114, 97, 109, 101] := TX_toList _
  go_enter Tryz.func14, Tryz.ntmps14
  go_wp2_with fail
  go_ret
  exact ⟨rfl, rfl⟩
theorem many_plug (w : World) : Calls Tryz.prog 14 #[.string (TX kPlug)] w fun e w' => e = .returned (.int .i64 2) ∧ w' = w := by
  have ht : (TX kPlug).toList = [112, 108, 117, 103] := TX_toList _
  go_enter Tryz.func14, Tryz.ntmps14
  go_wp2_with fail
  go_ret
  exact ⟨rfl, rfl⟩
theorem many_unplug (w : World) : Calls Tryz.prog 14 #[.string (TX kUnplug)] w fun e w' => e = .returned (.int .i64 2) ∧ w' = w := by
  have ht : (TX kUnplug).toList = [117, 110, 112, 108, 117, 103] := TX_toList _
  go_enter Tryz.func14, Tryz.ntmps14
  go_wp2_with fail
  go_ret
  exact ⟨rfl, rfl⟩
theorem many_give (w : World) : Calls Tryz.prog 14 #[.string (TX kGive)] w fun e w' => e = .returned (.int .i64 2) ∧ w' = w := by
  have ht : (TX kGive).toList = [103, 105, 118, 101] := TX_toList _
  go_enter Tryz.func14, Tryz.ntmps14
  go_wp2_with fail
  go_ret
  exact ⟨rfl, rfl⟩
theorem many_back (w : World) : Calls Tryz.prog 14 #[.string (TX kBack)] w fun e w' => e = .returned (.int .i64 2) ∧ w' = w := by
  have ht : (TX kBack).toList = [98, 97, 99, 107] := TX_toList _
  go_enter Tryz.func14, Tryz.ntmps14
  go_wp2_with fail
  go_ret
  exact ⟨rfl, rfl⟩
theorem many_load (w : World) : Calls Tryz.prog 14 #[.string (TX kLoad)] w fun e w' => e = .returned (.int .i64 2) ∧ w' = w := by
  have ht : (TX kLoad).toList = [108, 111, 97, 100] := TX_toList _
  go_enter Tryz.func14, Tryz.ntmps14
  go_wp2_with fail
  go_ret
  exact ⟨rfl, rfl⟩
theorem many_root (w : World) : Calls Tryz.prog 14 #[.string (TX kRoot)] w fun e w' => e = .returned (.int .i64 2) ∧ w' = w := by
  have ht : (TX kRoot).toList = [114, 111, 111, 116] := TX_toList _
  go_enter Tryz.func14, Tryz.ntmps14
  go_wp2_with fail
  go_ret
  exact ⟨rfl, rfl⟩
theorem many_forget (w : World) : Calls Tryz.prog 14 #[.string (TX kForget)] w fun e w' => e = .returned (.int .i64 2) ∧ w' = w := by
  have ht : (TX kForget).toList = [102, 111, 114, 103, 101, 116] := TX_toList _
  go_enter Tryz.func14, Tryz.ntmps14
  go_wp2_with fail
  go_ret
  exact ⟨rfl, rfl⟩
theorem many_drop (w : World) : Calls Tryz.prog 14 #[.string (TX kDrop)] w fun e w' => e = .returned (.int .i64 2) ∧ w' = w := by
  have ht : (TX kDrop).toList = [100, 114, 111, 112] := TX_toList _
  go_enter Tryz.func14, Tryz.ntmps14
  go_wp2_with fail
  go_ret
  exact ⟨rfl, rfl⟩
theorem many_scan (w : World) : Calls Tryz.prog 14 #[.string (TX kScan)] w fun e w' => e = .returned (.int .i64 2) ∧ w' = w := by
  have ht : (TX kScan).toList = [115, 99, 97, 110] := TX_toList _
  go_enter Tryz.func14, Tryz.ntmps14
  go_wp2_with fail
  go_ret
  exact ⟨rfl, rfl⟩
theorem many_page (w : World) : Calls Tryz.prog 14 #[.string (TX kPage)] w fun e w' => e = .returned (.int .i64 2) ∧ w' = w := by
  have ht : (TX kPage).toList = [112, 97, 103, 101] := TX_toList _
  go_enter Tryz.func14, Tryz.ntmps14
  go_wp2_with fail
  go_ret
  exact ⟨rfl, rfl⟩
theorem many_store (w : World) : Calls Tryz.prog 14 #[.string (TX kStore)] w fun e w' => e = .returned (.int .i64 3) ∧ w' = w := by
  have ht : (TX kStore).toList = [115, 116, 111, 114, 101] := TX_toList _
  go_enter Tryz.func14, Tryz.ntmps14
  go_wp2_with fail
  go_ret
  exact ⟨rfl, rfl⟩
theorem many_none (w : World) (s : ByteArray) (h0 : s.data.toList ≠ kAdd) (h1 : s.data.toList ≠ kScanall) (h2 : s.data.toList ≠ kLeft) (h3 : s.data.toList ≠ kPromised) (h4 : s.data.toList ≠ kGuests) (h5 : s.data.toList ≠ kRemove) (h6 : s.data.toList ≠ kFrame) (h7 : s.data.toList ≠ kPlug) (h8 : s.data.toList ≠ kUnplug) (h9 : s.data.toList ≠ kGive) (h10 : s.data.toList ≠ kBack) (h11 : s.data.toList ≠ kLoad) (h12 : s.data.toList ≠ kRoot) (h13 : s.data.toList ≠ kForget) (h14 : s.data.toList ≠ kDrop) (h15 : s.data.toList ≠ kScan) (h16 : s.data.toList ≠ kPage) (h17 : s.data.toList ≠ kStore) : Calls Tryz.prog 14 #[.string s] w fun e w' => e = .returned (.int .i64 (-1)) ∧ w' = w := by
  have t0 : (s.toList == [97, 100, 100]) = false := by rw [toList_data]; simpa [kAdd] using h0
  have t1 : (s.toList == [115, 99, 97, 110, 97, 108, 108]) = false := by rw [toList_data]; simpa [kScanall] using h1
  have t2 : (s.toList == [108, 101, 102, 116]) = false := by rw [toList_data]; simpa [kLeft] using h2
  have t3 : (s.toList == [112, 114, 111, 109, 105, 115, 101, 100]) = false := by rw [toList_data]; simpa [kPromised] using h3
  have t4 : (s.toList == [103, 117, 101, 115, 116, 115]) = false := by rw [toList_data]; simpa [kGuests] using h4
  have t5 : (s.toList == [114, 101, 109, 111, 118, 101]) = false := by rw [toList_data]; simpa [kRemove] using h5
  have t6 : (s.toList == [102, 114, 97, 109, 101]) = false := by rw [toList_data]; simpa [kFrame] using h6
  have t7 : (s.toList == [112, 108, 117, 103]) = false := by rw [toList_data]; simpa [kPlug] using h7
  have t8 : (s.toList == [117, 110, 112, 108, 117, 103]) = false := by rw [toList_data]; simpa [kUnplug] using h8
  have t9 : (s.toList == [103, 105, 118, 101]) = false := by rw [toList_data]; simpa [kGive] using h9
  have t10 : (s.toList == [98, 97, 99, 107]) = false := by rw [toList_data]; simpa [kBack] using h10
  have t11 : (s.toList == [108, 111, 97, 100]) = false := by rw [toList_data]; simpa [kLoad] using h11
  have t12 : (s.toList == [114, 111, 111, 116]) = false := by rw [toList_data]; simpa [kRoot] using h12
  have t13 : (s.toList == [102, 111, 114, 103, 101, 116]) = false := by rw [toList_data]; simpa [kForget] using h13
  have t14 : (s.toList == [100, 114, 111, 112]) = false := by rw [toList_data]; simpa [kDrop] using h14
  have t15 : (s.toList == [115, 99, 97, 110]) = false := by rw [toList_data]; simpa [kScan] using h15
  have t16 : (s.toList == [112, 97, 103, 101]) = false := by rw [toList_data]; simpa [kPage] using h16
  have t17 : (s.toList == [115, 116, 111, 114, 101]) = false := by rw [toList_data]; simpa [kStore] using h17
  clear h0 h1 h2 h3 h4 h5 h6 h7 h8 h9 h10 h11 h12 h13 h14 h15 h16 h17
  go_enter Tryz.func14, Tryz.ntmps14
  go_wp2_with fail
  go_ret
  exact ⟨rfl, rfl⟩
def manyI (c : List UInt8) : Int := match manyL c with
  | some k => (k : Int)
  | none => -1
theorem many_any (w : World) (s : ByteArray) : Calls Tryz.prog 14 #[.string s] w fun e w' => e = .returned (.int .i64 (manyI s.data.toList)) ∧ w' = w := by
  unfold manyI manyL
  by_cases h0 : s.data.toList = kAdd
  · rw [if_pos h0]; have e : s = TX kAdd := by rw [← h0]; rfl
    rw [e]; exact many_add w
  by_cases h1 : s.data.toList = kScanall
  · rw [if_neg h0, if_pos h1]; have e : s = TX kScanall := by rw [← h1]; rfl
    rw [e]; exact many_scanall w
  by_cases h2 : s.data.toList = kLeft
  · rw [if_neg h0, if_neg h1, if_pos h2]; have e : s = TX kLeft := by rw [← h2]; rfl
    rw [e]; exact many_left w
  by_cases h3 : s.data.toList = kPromised
  · rw [if_neg h0, if_neg h1, if_neg h2, if_pos h3]; have e : s = TX kPromised := by rw [← h3]; rfl
    rw [e]; exact many_promised w
  by_cases h4 : s.data.toList = kGuests
  · rw [if_neg h0, if_neg h1, if_neg h2, if_neg h3, if_pos h4]; have e : s = TX kGuests := by rw [← h4]; rfl
    rw [e]; exact many_guests w
  by_cases h5 : s.data.toList = kRemove
  · rw [if_neg h0, if_neg h1, if_neg h2, if_neg h3, if_neg h4, if_pos h5]; have e : s = TX kRemove := by rw [← h5]; rfl
    rw [e]; exact many_remove w
  by_cases h6 : s.data.toList = kFrame
  · rw [if_neg h0, if_neg h1, if_neg h2, if_neg h3, if_neg h4, if_neg h5, if_pos h6]; have e : s = TX kFrame := by rw [← h6]; rfl
    rw [e]; exact many_frame w
  by_cases h7 : s.data.toList = kPlug
  · rw [if_neg h0, if_neg h1, if_neg h2, if_neg h3, if_neg h4, if_neg h5, if_neg h6, if_pos h7]; have e : s = TX kPlug := by rw [← h7]; rfl
    rw [e]; exact many_plug w
  by_cases h8 : s.data.toList = kUnplug
  · rw [if_neg h0, if_neg h1, if_neg h2, if_neg h3, if_neg h4, if_neg h5, if_neg h6, if_neg h7, if_pos h8]; have e : s = TX kUnplug := by rw [← h8]; rfl
    rw [e]; exact many_unplug w
  by_cases h9 : s.data.toList = kGive
  · rw [if_neg h0, if_neg h1, if_neg h2, if_neg h3, if_neg h4, if_neg h5, if_neg h6, if_neg h7, if_neg h8, if_pos h9]; have e : s = TX kGive := by rw [← h9]; rfl
    rw [e]; exact many_give w
  by_cases h10 : s.data.toList = kBack
  · rw [if_neg h0, if_neg h1, if_neg h2, if_neg h3, if_neg h4, if_neg h5, if_neg h6, if_neg h7, if_neg h8, if_neg h9, if_pos h10]; have e : s = TX kBack := by rw [← h10]; rfl
    rw [e]; exact many_back w
  by_cases h11 : s.data.toList = kLoad
  · rw [if_neg h0, if_neg h1, if_neg h2, if_neg h3, if_neg h4, if_neg h5, if_neg h6, if_neg h7, if_neg h8, if_neg h9, if_neg h10, if_pos h11]; have e : s = TX kLoad := by rw [← h11]; rfl
    rw [e]; exact many_load w
  by_cases h12 : s.data.toList = kRoot
  · rw [if_neg h0, if_neg h1, if_neg h2, if_neg h3, if_neg h4, if_neg h5, if_neg h6, if_neg h7, if_neg h8, if_neg h9, if_neg h10, if_neg h11, if_pos h12]; have e : s = TX kRoot := by rw [← h12]; rfl
    rw [e]; exact many_root w
  by_cases h13 : s.data.toList = kForget
  · rw [if_neg h0, if_neg h1, if_neg h2, if_neg h3, if_neg h4, if_neg h5, if_neg h6, if_neg h7, if_neg h8, if_neg h9, if_neg h10, if_neg h11, if_neg h12, if_pos h13]; have e : s = TX kForget := by rw [← h13]; rfl
    rw [e]; exact many_forget w
  by_cases h14 : s.data.toList = kDrop
  · rw [if_neg h0, if_neg h1, if_neg h2, if_neg h3, if_neg h4, if_neg h5, if_neg h6, if_neg h7, if_neg h8, if_neg h9, if_neg h10, if_neg h11, if_neg h12, if_neg h13, if_pos h14]; have e : s = TX kDrop := by rw [← h14]; rfl
    rw [e]; exact many_drop w
  by_cases h15 : s.data.toList = kScan
  · rw [if_neg h0, if_neg h1, if_neg h2, if_neg h3, if_neg h4, if_neg h5, if_neg h6, if_neg h7, if_neg h8, if_neg h9, if_neg h10, if_neg h11, if_neg h12, if_neg h13, if_neg h14, if_pos h15]; have e : s = TX kScan := by rw [← h15]; rfl
    rw [e]; exact many_scan w
  by_cases h16 : s.data.toList = kPage
  · rw [if_neg h0, if_neg h1, if_neg h2, if_neg h3, if_neg h4, if_neg h5, if_neg h6, if_neg h7, if_neg h8, if_neg h9, if_neg h10, if_neg h11, if_neg h12, if_neg h13, if_neg h14, if_neg h15, if_pos h16]; have e : s = TX kPage := by rw [← h16]; rfl
    rw [e]; exact many_page w
  by_cases h17 : s.data.toList = kStore
  · rw [if_neg h0, if_neg h1, if_neg h2, if_neg h3, if_neg h4, if_neg h5, if_neg h6, if_neg h7, if_neg h8, if_neg h9, if_neg h10, if_neg h11, if_neg h12, if_neg h13, if_neg h14, if_neg h15, if_neg h16, if_pos h17]; have e : s = TX kStore := by rw [← h17]; rfl
    rw [e]; exact many_store w
  rw [if_neg h0, if_neg h1, if_neg h2, if_neg h3, if_neg h4, if_neg h5, if_neg h6, if_neg h7, if_neg h8, if_neg h9, if_neg h10, if_neg h11, if_neg h12, if_neg h13, if_neg h14, if_neg h15, if_neg h16, if_neg h17]
  exact many_none w s h0 h1 h2 h3 h4 h5 h6 h7 h8 h9 h10 h11 h12 h13 h14 h15 h16 h17
/-- Numbers that a slice holds. -/
def IntsAt (w : World) (a : Option Addr) (xs : List Int) : Prop := ∀ i, i < xs.length → ∃ g, a = some ⟨g, 0, none⟩ ∧ w.cell? ⟨g, i, none⟩ = some (.int .i64 (xs.getD i 0))
theorem listT_one (x : Int) : listT [x] = numT x := by unfold listT; exact Lib.join_one _ _
theorem listT_snoc (xs : List Int) (x : Int) (h : xs ≠ []) : listT (xs ++ [x]) = listT xs ++ [32] ++ numT x := by
  cases xs with
  | nil => exact absurd rfl h
  | cons y r =>
    unfold listT
    rw [List.cons_append, List.map_cons, List.map_cons, Lib.join_cons, Lib.join_cons]
    simp [Lib.joinTail]
theorem listT_len : ∀ (xs : List Int), (∀ x ∈ xs, x ≤ 1000000) → (listT xs).length ≤ 1000002 * xs.length := by
  intro xs h
  unfold listT
  cases xs with
  | nil => simp [Lib.join_nil]
  | cons y r =>
    rw [List.map_cons, Lib.join_cons]
    have hy := numT_le y (h y (List.mem_cons_self))
    have : ∀ (r : List Int), (∀ x ∈ r, x ≤ 1000000) → (Lib.joinTail [32] (r.map numT)).length ≤ 1000002 * r.length := by
      intro r
      induction r with
      | nil => intro _; simp [Lib.joinTail]
      | cons z r ih =>
        intro hr
        have hz := numT_le z (hr z (List.mem_cons_self))
        have := ih (fun x hx => hr x (List.mem_cons_of_mem _ hx))
        simp only [Lib.joinTail, List.map_cons, List.flatten_cons, List.length_append, List.length_cons] at this ⊢
        simp at this ⊢
        omega
    have h2 := this r (fun x hx => h x (List.mem_cons_of_mem _ hx))
    simp only [List.length_append, List.length_cons]
    omega
def lstT (xs : List Int) : List UInt8 := if xs = [] then [45] else listT xs
theorem listT_ne {xs : List Int} (h : xs ≠ []) : listT xs ≠ [] := by
  cases xs with
  | nil => exact absurd rfl h
  | cons y r =>
    unfold listT
    rw [List.map_cons, Lib.join_cons]
    have : numT y ≠ [] := by rw [numT_eq]; exact dec_ne _
    simp [this]
theorem take_next {xs : List Int} {k : Nat} (hk : k < xs.length) : xs.take (k + 1) = xs.take k ++ [xs.getD k 0] := by
  rw [List.take_add_one, List.getElem?_eq_getElem hk]
  simp [List.getD_eq_getElem?_getD, List.getElem?_eq_getElem hk]
theorem take_ne {xs : List Int} {k : Nat} (hk : k < xs.length) (h0 : k ≠ 0) : xs.take k ≠ [] := fun e => by
  have := congrArg List.length e
  rw [List.length_take, List.length_nil] at this
  omega
set_option maxHeartbeats 1000000 in
theorem listed_any (w : World) (a : Option Addr) (cap : Nat) (xs : List Int) (ha : IntsAt w a xs) (h4 : xs.length ≤ 4) (hx : ∀ x ∈ xs, 0 ≤ x ∧ x ≤ 1000000) : Calls Tryz.prog 20 #[.slice a xs.length cap] w fun e w' => e = .returned (.string (TX (lstT xs))) ∧ Upd (fun _ => False) w w' := by
  have HA : Hid _ := ha
  have HX : Hid _ := hx
  clear ha hx
  have HL : Hid (∀ k, k ≤ xs.length → ¬ 9223372036854775807 < (TX (listT (xs.take k))).size + 1000010) := fun k hk => by
    have := listT_len (xs.take k) (fun x hx => (HX.out x (List.mem_of_mem_take hx)).2)
    rw [List.length_take] at this
    rw [TX_size]
    omega
  go_enter Tryz.func20, Tryz.ntmps20
  go_wp2_with fail
  go_loopg [3, 4] xs.length (fun g sv iv wr => ∃ k : Nat, k + g = xs.length ∧ iv = .int .i64 k ∧ sv = .string (TX (listT (xs.take k))) ∧ Hid (Upd (fun _ => False) w wr))
  case atStart => exact ⟨0, by omega, rfl, rfl, Upd.refl _ _⟩
  case round =>
    obtain ⟨k, hk, rfl, rfl, HU⟩ := hrel
    have HK : Hid _ := hk
    clear hk
    by_cases hlt : k < xs.length
    · obtain ⟨g, rfl, hc⟩ := HA.out k hlt
      have hcr := HU.out.cell hc (fun f => f)
      clear hc
      have hm : xs.getD k 0 ∈ xs := by rw [List.getD_eq_getElem?_getD, List.getElem?_eq_getElem hlt]; exact List.getElem_mem hlt
      have hxk := HX.out _ hm
      have htk : Hid (xs.take (k + 1) = xs.take k ++ [xs.getD k 0]) := take_next hlt
      have hl := HL.out k (by omega)
      have hn := numT_le _ hxk.2
      have HN : Hid _ := hn
      generalize xs.getD k 0 = x at *
      have HDC : Hid _ := fun w => dec_any w x hxk.1 hxk.2
      by_cases h0 : k = 0
      · subst h0
        have HE : Hid (TX (listT (xs.take 0)) ++ TX (numT x) = TX (listT (xs.take (0 + 1)))) := show _ = _ by rw [htk.out, List.take_zero, List.nil_append, listT_one]; rfl
        have hs : ¬ 9223372036854775807 < (TX (listT (xs.take 0))).size + (TX (numT x)).size := by rw [TX_size (numT x)]; omega
        clear hn hl
        go_wp2_with (go_at_call 18; refine Calls.mono (HDC.out _) ?_; rintro e w2 ⟨rfl, hu2⟩)
        go_roundg (xs.length - (0 + 1))
        case rel => exact ⟨0 + 1, by omega, by go_num, by rw [← HE.out, List.take_zero], HU.out.trans hu2 (fun _ _ f => f)⟩
        case measure => have := HK.out; omega
      · have HE : Hid (TX (listT (xs.take k)) ++ ⟨#[32]⟩ ++ TX (numT x) = TX (listT (xs.take (k + 1)))) := show _ = _ by rw [htk.out, listT_snoc _ _ (take_ne hlt h0), ← TX_append, ← TX_append]; rfl
        have hs0 : ¬ 9223372036854775807 < (TX (listT (xs.take k))).size + 1 := by omega
        have hs : ¬ 9223372036854775807 < (TX (listT (xs.take k))).size + 1 + (TX (numT x)).size := by rw [TX_size (numT x)]; omega
        clear hn hl
        go_wp2_with (go_at_call 18; refine Calls.mono (HDC.out _) ?_; rintro e w2 ⟨rfl, hu2⟩)
        go_roundg (xs.length - (k + 1))
        case rel => exact ⟨k + 1, by omega, by go_num, by rw [← HE.out], HU.out.trans hu2 (fun _ _ f => f)⟩
        case measure => have := HK.out; omega
    · have hkk : k = xs.length := by have := HK.out; omega
      subst hkk
      have hall : xs.take xs.length = xs := List.take_length
      rw [hall]
      by_cases he : xs = []
      · have ht : ((TX (listT xs)).toList == []) = true := by rw [he, TX_toList]; rfl
        have HE : Hid _ := he
        clear he
        go_wp2_with fail
        go_ret
        exact ⟨by unfold lstT; rw [if_pos HE.out]; rfl, HU.out⟩
      · have ht : ((TX (listT xs)).toList == []) = false := by rw [TX_toList]; simpa using listT_ne he
        have HE : Hid _ := he
        clear he
        go_wp2_with fail
        go_ret
        exact ⟨by unfold lstT; rw [if_neg HE.out]; rfl, HU.out⟩
end Go.Proofs.YtadpibcgjgcjhabGreatDoor
