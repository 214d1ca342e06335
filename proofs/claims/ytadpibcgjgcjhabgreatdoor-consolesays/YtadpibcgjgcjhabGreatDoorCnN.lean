/- The document's Host.Say: lines that are none. -/
import Derived.Test.YtadpibcgjgcjhabGreatDoorCnM
namespace Go.Proofs.YtadpibcgjgcjhabGreatDoor
open Go.ChangeShapes Go.WideShapes Go.ChangeAt Go.RowKit
set_option maxRecDepth 100000
attribute [local go_sem ↓] Go.wp_at_zero Go.wp_at_succ
variable {W w w1 w2 w3 w' : World} {rh rm base : Nat} {bx bx2 : Nat → Nat} {v v2 : Nat → Value} {h h2 : Hs} {x : Gs} {n k j : Nat}

theorem manyL_le (c : List UInt8) {m : Nat} (h : manyL c = some m) : m ≤ 3 := by
  unfold manyL at h
  by_cases eAdd : c = kAdd
  · rw [if_pos eAdd] at h; cases h; omega
  rw [if_neg eAdd] at h
  by_cases eScanall : c = kScanall
  · rw [if_pos eScanall] at h; cases h; omega
  rw [if_neg eScanall] at h
  by_cases eLeft : c = kLeft
  · rw [if_pos eLeft] at h; cases h; omega
  rw [if_neg eLeft] at h
  by_cases ePromised : c = kPromised
  · rw [if_pos ePromised] at h; cases h; omega
  rw [if_neg ePromised] at h
  by_cases eGuests : c = kGuests
  · rw [if_pos eGuests] at h; cases h; omega
  rw [if_neg eGuests] at h
  by_cases eRemove : c = kRemove
  · rw [if_pos eRemove] at h; cases h; omega
  rw [if_neg eRemove] at h
  by_cases eFrame : c = kFrame
  · rw [if_pos eFrame] at h; cases h; omega
  rw [if_neg eFrame] at h
  by_cases ePlug : c = kPlug
  · rw [if_pos ePlug] at h; cases h; omega
  rw [if_neg ePlug] at h
  by_cases eUnplug : c = kUnplug
  · rw [if_pos eUnplug] at h; cases h; omega
  rw [if_neg eUnplug] at h
  by_cases eGive : c = kGive
  · rw [if_pos eGive] at h; cases h; omega
  rw [if_neg eGive] at h
  by_cases eBack : c = kBack
  · rw [if_pos eBack] at h; cases h; omega
  rw [if_neg eBack] at h
  by_cases eLoad : c = kLoad
  · rw [if_pos eLoad] at h; cases h; omega
  rw [if_neg eLoad] at h
  by_cases eRoot : c = kRoot
  · rw [if_pos eRoot] at h; cases h; omega
  rw [if_neg eRoot] at h
  by_cases eForget : c = kForget
  · rw [if_pos eForget] at h; cases h; omega
  rw [if_neg eForget] at h
  by_cases eDrop : c = kDrop
  · rw [if_pos eDrop] at h; cases h; omega
  rw [if_neg eDrop] at h
  by_cases eScan : c = kScan
  · rw [if_pos eScan] at h; cases h; omega
  rw [if_neg eScan] at h
  by_cases ePage : c = kPage
  · rw [if_pos ePage] at h; cases h; omega
  rw [if_neg ePage] at h
  by_cases eStore : c = kStore
  · rw [if_pos eStore] at h; cases h; omega
  rw [if_neg eStore] at h
  cases h
theorem manyI_iff (c : List UInt8) (m : Nat) : manyI c = (m : Int) ↔ manyL c = some m := by
  unfold manyI
  cases manyL c with
  | none => simp only [reduceCtorEq]
  | some k => simp only [Option.some.injEq]; omega
/-- Words that a slice has. -/
theorem txs_get {l : List (List UInt8)} {i : Nat} (hi : i < l.length) : (txs l).getD i ByteArray.empty = TX (l.getD i []) := by
  unfold txs
  rw [List.getD_eq_getElem?_getD, List.getD_eq_getElem?_getD, List.getElem?_map, List.getElem?_eq_getElem hi]
  rfl
theorem say_bad1 (r : RHo w rh rm base bx v h) (s : ByteArray) (hs : s.size ≤ 300) (c : List UInt8) (args : List (List UInt8)) (hw : wordsL s.data.toList = c :: args) (hb : manyL c ≠ some args.length ∨ 200 < s.size) :
    Calls Tryz.prog 8 #[.pointer (some ⟨rh, 0, none⟩), .string s] w (DP w rh rm base bx h (errT 9, h)) := by
  have HR : Hid _ := r
  have HW : Hid _ := words_any w s hs
  rw [hw] at HW
  have HM : Hid (∀ w, Calls Tryz.prog 14 #[.string (TX c)] w fun e w' => e = .returned (.int .i64 (manyI c)) ∧ w' = w) := fun w => many_any w (TX c)
  have HF : Hid _ := fun w => fault_any w 9 (by omega) (by omega)
  have hlen := wordsL_length s.data.toList
  rw [hw] at hlen
  have hcl : s.data.toList.count 32 ≤ s.data.toList.length := List.count_le_length
  have hz : s.size = s.data.toList.length := (Array.length_toList (xs := s.data)).symm
  have hal : args.length ≤ 300 := by rw [List.length_cons] at hlen; omega
  have HD : Hid (manyI c ≠ (args.length : Int) ∨ 200 < s.size) := hb.imp (fun h e => h ((manyI_iff c _).1 e)) id
  clear r hw hb hlen hcl hz
  go_enter Tryz.func8, Tryz.ntmps8
  go_wp2_with fail
  refine Calls.mono HW.out ?_
  rintro e w2 ⟨v2, rfl, hs2, hu2⟩
  obtain ⟨a, cap, rfl, ht, hbs⟩ := hs2.txAt
  obtain ⟨g, o, rfl, hg, hc⟩ := ht 0 (by rw [txs_length]; simp)
  rw [txs_get (by simp), Nat.add_zero] at hc
  rw [txs_length]
  simp only [List.getD_cons_zero, List.length_cons] at hc ⊢
  have hI : ((manyI c) != (args.length : Int)) = true ∨ ((manyI c) != (args.length : Int)) = false ∧ decide (200 < (s.size : Int)) = true := by
    rcases HD.out with h | h
    · exact Or.inl (by simpa using h)
    · by_cases h2 : manyI c = args.length
      · exact Or.inr ⟨by simpa using h2, by simp; omega⟩
      · exact Or.inl (by simpa using h2)
  have HI : Hid _ := hI
  generalize manyI c = mi at *
  clear hs2 ht hbs HW hI
  have HU2 : Hid _ := hu2
  clear hu2
  rcases HI.out with hI | ⟨hI, hI2⟩
  · clear HI HD
    go_wp2_with (first
      | (go_at_call 14; refine Calls.mono (HM.out _) ?_; rintro e w3 ⟨rfl, hw3⟩; subst hw3)
      | (go_at_call 15; refine Calls.mono (HF.out _) ?_; rintro e w4 ⟨rfl, hu4⟩))
    go_ret
    exact (DM.more (DM.more (DM.refl HR.out) HU2.out) hu4).fin
  · clear HI HD
    go_wp2_with (first
      | (go_at_call 14; refine Calls.mono (HM.out _) ?_; rintro e w3 ⟨rfl, hw3⟩; subst hw3)
      | (go_at_call 15; refine Calls.mono (HF.out _) ?_; rintro e w4 ⟨rfl, hu4⟩))
    go_ret
    exact (DM.more (DM.more (DM.refl HR.out) HU2.out) hu4).fin
/-- The numbers so far, in their box. -/
structure NAt (w : World) (q : Nat) (ns : List Int) : Prop where
  c0 : w.cell? ⟨q, 0, none⟩ = some (.int .i64 (ns.getD 0 0))
  c1 : w.cell? ⟨q, 1, none⟩ = some (.int .i64 (ns.getD 1 0))
  c2 : w.cell? ⟨q, 2, none⟩ = some (.int .i64 (ns.getD 2 0))
  fz : ∀ o, w.frozen? ⟨q, o, none⟩ = false
theorem NAt.new (w : World) (t : TypeId) : NAt (w.alloc (.cells #[.int .i64 0, .int .i64 0, .int .i64 0] t)) w.heap.size [] :=
  ⟨by rw [World.cell?_alloc_new]; rfl, by rw [World.cell?_alloc_new]; rfl, by rw [World.cell?_alloc_new]; rfl, fun o => World.frozen?_alloc_new _ _ _ _⟩
theorem NAt.lt {q : Nat} {ns : List Int} (h : NAt w q ns) : q < w.heap.size := World.block_lt_of_cell? w _ h.c0
theorem NAt.upd {S : Nat → Prop} {q : Nat} {ns : List Int} (h : NAt w q ns) (u : Upd S w w') (hq : ¬ S q) : NAt w' q ns :=
  ⟨u.cell h.c0 hq, u.cell h.c1 hq, u.cell h.c2 hq, fun o => by rw [World.frozen?_of_block (w := w) (u.block q h.lt hq)]; exact h.fz o⟩
theorem NAt.put {q : Nat} {ns : List Int} (h : NAt w q ns) (x : Int) (hl : ns.length < 3) : NAt (w.setCell ⟨q, ns.length, none⟩ (.int .i64 x)) q (ns ++ [x]) := by
  have hne : ∀ i, i ≠ ns.length → (w.setCell ⟨q, ns.length, none⟩ (.int .i64 x)).cell? ⟨q, i, none⟩ = w.cell? ⟨q, i, none⟩ := fun i hi => World.cell?_setCell_other _ _ _ _ (addr_ne (Or.inr (by omega)))
  have hfz : ∀ o, (w.setCell ⟨q, ns.length, none⟩ (.int .i64 x)).frozen? ⟨q, o, none⟩ = false := fun o => by rw [World.frozen?_setCell]; exact h.fz o
  have hin : ∀ u, w.cell? ⟨q, ns.length, none⟩ = some u → (w.setCell ⟨q, ns.length, none⟩ (.int .i64 x)).cell? ⟨q, ns.length, none⟩ = some (.int .i64 x) := fun u hu => World.cell?_setCell_same _ _ _ hu
  match ns, hl, h, hne, hfz, hin with
  | [], _, h, hne, hfz, hin => exact ⟨hin _ h.c0, (hne 1 (by simp)).trans h.c1, (hne 2 (by simp)).trans h.c2, hfz⟩
  | [a], _, h, hne, hfz, hin => exact ⟨(hne 0 (by simp)).trans h.c0, hin _ h.c1, (hne 2 (by simp)).trans h.c2, hfz⟩
  | [a, b], _, h, hne, hfz, hin => exact ⟨(hne 0 (by simp)).trans h.c0, (hne 1 (by simp)).trans h.c1, hin _ h.c2, hfz⟩
/-- How far the numbers are read. -/
structure RdAt (args : List (List UInt8)) (k : Nat) (ns : List Int) : Prop where
  le : k ≤ args.length
  ok : (args.take k).mapM numW = some ns
theorem RdAt.start (args : List (List UInt8)) : RdAt args 0 [] := ⟨Nat.zero_le _, rfl⟩
theorem mapM_length {l : List (List UInt8)} : ∀ {ns : List Int}, l.mapM numW = some ns → ns.length = l.length := by
  induction l with
  | nil => intro ns h; cases h; rfl
  | cons a l ih =>
    intro ns h
    simp only [List.mapM_cons, Option.bind_eq_bind, Option.bind_eq_some_iff, Option.pure_def, Option.some.injEq] at h
    obtain ⟨x, _, r, hr, rfl⟩ := h
    simp [ih hr]
theorem mapM_snoc (l : List (List UInt8)) (a : List UInt8) : (l ++ [a]).mapM numW = (l.mapM numW).bind fun ns => (numW a).map fun x => ns ++ [x] := by
  induction l with
  | nil => simp [List.mapM_cons]; cases numW a <;> rfl
  | cons b l ih =>
    rw [List.cons_append, List.mapM_cons, List.mapM_cons, ih]
    cases numW b with
    | none => rfl
    | some y =>
      cases l.mapM numW with
      | none => rfl
      | some ns => cases numW a <;> rfl
theorem RdAt.len {args : List (List UInt8)} {k : Nat} {ns : List Int} (h : RdAt args k ns) : ns.length = k := by
  rw [mapM_length h.ok, List.length_take]
  have := h.le
  omega
theorem take_nextL {args : List (List UInt8)} {k : Nat} (hk : k < args.length) : args.take (k + 1) = args.take k ++ [args.getD k []] := by
  rw [List.take_add_one, List.getElem?_eq_getElem hk]
  simp [List.getD_eq_getElem?_getD, List.getElem?_eq_getElem hk]
theorem RdAt.next {args : List (List UInt8)} {k : Nat} {ns : List Int} {x : Int} (h : RdAt args k ns) (hk : k < args.length) (hx : numW (args.getD k []) = some x) : RdAt args (k + 1) (ns ++ [x]) :=
  ⟨hk, by rw [take_nextL hk, mapM_snoc, h.ok, hx]; rfl⟩
theorem read_bad {args : List (List UInt8)} {k : Nat} (hk : k < args.length) (hx : numW (args.getD k []) = none) : args.mapM numW = none := by
  have e : args = args.take k ++ args.getD k [] :: args.drop (k + 1) := by
    rw [List.getD_eq_getElem?_getD, List.getElem?_eq_getElem hk]
    simp
  have H : ∀ l : List (List UInt8), ∀ a r, numW a = none → (l ++ a :: r).mapM numW = none := by
    intro l a r ha
    induction l with
    | nil => simp [List.mapM_cons, ha]
    | cons b l ih =>
      rw [List.cons_append, List.mapM_cons, ih]
      cases numW b <;> rfl
  rw [e]
  exact H _ _ _ hx
theorem RdAt.fin {args : List (List UInt8)} {ns ms : List Int} (h : RdAt args args.length ns) (hm : args.mapM numW = some ms) : ns = ms := by
  have := h.ok
  rw [List.take_length, hm] at this
  cases this
  rfl
theorem words_len : ∀ (l x : List UInt8), x ∈ wordsL l → x.length ≤ l.length
  | [], x, h => by
    simp [wordsL] at h
    rw [h]
    exact Nat.le_refl _
  | b :: l, x, h => by
    have ih := words_len l
    unfold wordsL at h
    split at h
    · rcases List.mem_cons.1 h with e | e
      · rw [e]; simp
      · have := ih x e
        simp only [List.length_cons]
        omega
    · cases hw : wordsL l with
      | nil => exact absurd hw (wordsL_ne l)
      | cons y r =>
        rw [hw] at h ih
        rcases List.mem_cons.1 h with e | e
        · have := ih y (List.mem_cons_self)
          rw [e]
          simp only [List.length_append, List.length_cons, List.length_nil]
          omega
        · have := ih x (List.mem_cons_of_mem _ e)
          simp only [List.length_cons]
          omega
theorem NAt.at {q k : Nat} {ns : List Int} (h : NAt w q ns) (hk : k < 3) : w.cell? ⟨q, k, none⟩ = some (.int .i64 (ns.getD k 0)) := by
  have : k = 0 ∨ k = 1 ∨ k = 2 := by omega
  rcases this with rfl | rfl | rfl
  · exact h.c0
  · exact h.c1
  · exact h.c2
theorem say_bad2 (r : RHo w rh rm base bx v h) (s : ByteArray) (hs : s.size ≤ 200) (c : List UInt8) (args : List (List UInt8)) (hw : wordsL s.data.toList = c :: args) (hb : manyL c = some args.length) (hn : args.mapM numW = none) :
    Calls Tryz.prog 8 #[.pointer (some ⟨rh, 0, none⟩), .string s] w (DP w rh rm base bx h (errT 9, h)) := by
  have HR : Hid _ := r
  have HW : Hid _ := words_any w s (by omega)
  rw [hw] at HW
  have h3 := manyL_le c hb
  have HM : Hid (∀ w, Calls Tryz.prog 14 #[.string (TX c)] w fun e w' => e = .returned (.int .i64 (args.length : Int)) ∧ w' = w) := fun w => by
    have := many_any w (TX c)
    rw [show manyI (TX c).data.toList = (args.length : Int) from (manyI_iff c _).2 hb] at this
    exact this
  have HF : Hid _ := fun w => fault_any w 9 (by omega) (by omega)
  have HN : Hid _ := hn
  have hz : s.size = s.data.toList.length := (Array.length_toList (xs := s.data)).symm
  have HA : Hid (∀ i, i < args.length → (TX (args.getD i [])).size ≤ 300) := fun i hi => by
    have := words_len s.data.toList (args.getD i []) (by rw [hw, List.getD_eq_getElem?_getD, List.getElem?_eq_getElem hi]; exact List.mem_cons_of_mem _ (List.getElem_mem hi))
    rw [TX_size]
    omega
  clear r hw hb hn hz
  have hI : ((args.length : Int) != (args.length : Int)) = false := by simp
  have hI2 : decide (200 < (s.size : Int)) = false := by simp; omega
  go_enter Tryz.func8, Tryz.ntmps8
  go_wp2_with fail
  refine Calls.mono HW.out ?_
  rintro e w2 ⟨v2, rfl, hs2, hu2⟩
  obtain ⟨a, cap, rfl, ht, hbs⟩ := hs2.txAt
  obtain ⟨g, o, rfl, hg, hc⟩ := ht 0 (by rw [txs_length]; simp)
  rw [txs_get (by simp), Nat.add_zero] at hc
  rw [txs_length]
  simp only [List.getD_cons_zero, List.length_cons] at hc ⊢
  have HT : Hid (TxAt w2 (some ⟨g, o, none⟩) (txs (c :: args))) := ht
  have HU2 : Hid _ := hu2
  clear hs2 ht hbs HW hu2
  go_wp2_with (first
    | (go_at_call 14; refine Calls.mono (HM.out _) ?_; rintro e w3 ⟨rfl, hw3⟩; subst hw3))
  have N0 : NAt (w3.alloc (.cells #[.int .i64 0, .int .i64 0, .int .i64 0] 56)) w3.heap.size [] := NAt.new w3 _
  have HU3 : Hid (Upd (fun _ => False) w (w3.alloc (.cells #[.int .i64 0, .int .i64 0, .int .i64 0] 56))) := HU2.out.alloc _
  have HT3 : Hid (TxAt (w3.alloc (.cells #[.int .i64 0, .int .i64 0, .int .i64 0] 56)) (some ⟨g, o, none⟩) (txs (c :: args))) := HT.out.upd ((Upd.refl (fun _ => False) w3).alloc _) (fun _ _ _ f => f)
  have hqg : g < w3.heap.size := hg
  have HQW : Hid (w.heap.size ≤ w3.heap.size) := HU2.out.size
  have HN0 : Hid _ := N0
  clear HT hc hg N0
  revert HN0 HU3 HT3
  generalize w3.alloc (.cells #[.int .i64 0, .int .i64 0, .int .i64 0] 56) = wb
  generalize w3.heap.size = q at *
  intro HU3 HT3 HN0
  go_loopg [7] args.length (fun gk iv wr => ∃ (k : Nat) (ns : List Int), k + gk = args.length ∧ iv = .int .i64 ((k : Int) + 1) ∧ Hid (RdAt args k ns) ∧ Hid (NAt wr q ns) ∧ Hid (TxAt wr (some ⟨g, o, none⟩) (txs (c :: args))) ∧ Hid (Upd (fun _ => False) w wr))
  case atStart => exact ⟨0, [], by omega, by rfl, RdAt.start _, HN0.out, HT3.out, HU3.out⟩
  case round =>
    clear HN0 HU3 HT3
    obtain ⟨k, ns, hk, rfl, HD, HQ, HT, HU⟩ := hrel
    have HK : Hid _ := hk
    clear hk
    by_cases hlt : k < args.length
    · obtain ⟨g', o', e, _, hc⟩ := HT.out (k + 1) (by rw [txs_length]; simp; exact hlt)
      cases e
      rw [txs_get (by simp; exact hlt), List.getD_cons_succ] at hc
      have HFI : Hid _ := fun w => figures_any w (TX (args.getD k [])) (HA.out k hlt)
      cases hx : numW (args.getD k []) with
      | none =>
        have HX : Hid (numW (TX (args.getD k [])).data.toList = none) := hx
        clear hx
        generalize TX (args.getD k []) = word at *
        go_wp2_with (first
          | (go_at_call 16; refine Calls.mono (HFI.out _) ?_; rintro e w4 ⟨⟨x, ok, rfl, _, hok⟩, hu4⟩; have hok := hok HX.out; subst hok)
          | (go_at_call 15; refine Calls.mono (HF.out _) ?_; rintro e w5 ⟨rfl, hu5⟩))
        go_ret
        exact (DM.more (DM.more (DM.more (DM.refl HR.out) HU.out) hu4) hu5).fin
      | some y =>
        have HX : Hid (numW (TX (args.getD k [])).data.toList = some y) := hx
        have HD2 : Hid _ := HD.out.next hlt hx
        have hnl := HD.out.len
        clear hx
        generalize TX (args.getD k []) = word at *
        go_wp2_with fail
        refine Calls.mono (HFI.out _) ?_
        rintro e w4 ⟨⟨x, ok, rfl, hok, _⟩, hu4⟩
        obtain ⟨rfl, rfl⟩ := hok _ HX.out
        have HQ4 : Hid (NAt w4 q ns) := HQ.out.upd hu4 (fun f => f)
        have hck := HQ4.out.at (k := k) (by omega)
        have hfz := HQ4.out.fz k
        have HP : Hid (NAt (w4.setCell ⟨q, k, none⟩ (.int .i64 x)) q (ns ++ [x])) := by
          have := HQ4.out.put x (by omega)
          rw [hnl] at this
          exact this
        have HU4 : Hid (Upd (fun _ => False) w (w4.setCell ⟨q, k, none⟩ (.int .i64 x))) := (HU.out.trans hu4 (fun _ _ f => f)).setCell _ (fun e => by have := HQW.out; simp only at e; omega) _
        have HT4 : Hid (TxAt (w4.setCell ⟨q, k, none⟩ (.int .i64 x)) (some ⟨g, o, none⟩) (txs (c :: args))) := (HT.out.upd hu4 (fun _ _ _ f => f)).upd (Upd.one w4 q k (.int .i64 x)) (fun g' o' e => by cases e; omega)
        clear hu4 hc
        go_wp2_with fail
        go_roundg (args.length - (k + 1))
        case rel => exact ⟨k + 1, ns ++ [x], by omega, by go_num, HD2.out, HP.out, HT4.out, HU4.out⟩
        case measure => have := HK.out; omega
    · exact absurd HN.out (by
        have := HD.out.ok
        have e : k = args.length := by have := HK.out; omega
        rw [e, List.take_length] at this
        rw [this]
        simp)
end Go.Proofs.YtadpibcgjgcjhabGreatDoor
