/- The console's answer. -/
import Derived.Test.YtadpibcgjgcjhabGreatDoorCnMc
namespace Go.Proofs.YtadpibcgjgcjhabGreatDoor
open Go.ChangeShapes Go.WideShapes Go.ChangeAt Go.RowKit Go.WideMaps Go.Maps
set_option maxRecDepth 100000
attribute [local go_sem ↓] Go.wp_at_zero Go.wp_at_succ
variable {W w w1 w2 w3 w' : World} {bh bp bf bm : Nat} {G G' : Nat → G3} {h h2 : Hs} {n k : Nat}

theorem read_any (w : World) (mx : Int) (hm : w.cell? ⟨0, 0, none⟩ = some (.int .i64 mx)) (hmap : MapAt w bm manyL) (s : ByteArray) : Calls Tryz.prog 34 #[.agg #[.pointer (some ⟨bh, 0, none⟩), .map (some bm)], .string s] w (RdP (readL s.data.toList) w) := by
  have hz : s.size = s.data.toList.length := (Array.length_toList (xs := s.data)).symm
  by_cases hl : 200 < s.size
  · have e : readL s.data.toList = none := by unfold readL; rw [if_pos (by omega)]
    rw [e]
    exact read_long w bh bm s hl
  · obtain ⟨c, args, hw⟩ : ∃ c args, wordsL s.data.toList = c :: args := by
      cases hw : wordsL s.data.toList with
      | nil => exact absurd hw (wordsL_ne _)
      | cons c args => exact ⟨c, args, rfl⟩
    by_cases hmy : manyL c = some args.length
    · have e : readL s.data.toList = (args.mapM numW).map fun ns => (c, ns) := by
        unfold readL
        rw [if_neg (by omega), hw]
        simp only [hmy, if_true]
        cases args.mapM numW <;> rfl
      rw [e]
      by_cases ha : args = []
      · subst ha
        exact read_zero w mx hm hmap s (by omega) c hw hmy
      · exact read_good w mx hm hmap s (by omega) c args hw hmy ha
    · have e : readL s.data.toList = none := by unfold readL; rw [if_neg (by omega), hw]; simp only [hmy, if_false]
      rw [e]
      exact read_none w mx hm hmap s (by omega) c args hw hmy
theorem read_many {l c : List UInt8} {ns : List Int} (e : readL l = some (c, ns)) : ∃ m, manyL c = some m := by
  unfold readL at e
  split at e
  · cases e
  · split at e
    · cases e
    · next w ws hw =>
      split at e
      · next hm =>
        split at e
        · cases e; exact ⟨_, hm⟩
        · cases e
      · cases e
theorem boxN (w : World) : (w.alloc (.cells #[.int .i64 0, .int .i64 0, .int .i64 0] 84)).cell? ⟨w.heap.size, 0, none⟩ = some (.int .i64 0) ∧ (w.alloc (.cells #[.int .i64 0, .int .i64 0, .int .i64 0] 84)).cell? ⟨w.heap.size, 1, none⟩ = some (.int .i64 0) ∧ (w.alloc (.cells #[.int .i64 0, .int .i64 0, .int .i64 0] 84)).cell? ⟨w.heap.size, 2, none⟩ = some (.int .i64 0) ∧ (w.alloc (.cells #[.int .i64 0, .int .i64 0, .int .i64 0] 84)).frozen? ⟨w.heap.size, 0, none⟩ = false ∧ (w.alloc (.cells #[.int .i64 0, .int .i64 0, .int .i64 0] 84)).frozen? ⟨w.heap.size, 1, none⟩ = false ∧ (w.alloc (.cells #[.int .i64 0, .int .i64 0, .int .i64 0] 84)).frozen? ⟨w.heap.size, 2, none⟩ = false := by
  refine ⟨?_, ?_, ?_, World.frozen?_alloc_new _ _ _ _, World.frozen?_alloc_new _ _ _ _, World.frozen?_alloc_new _ _ _ _⟩
  all_goals rw [World.cell?_alloc_new]; rfl
set_option maxHeartbeats 1000000 in
theorem answer_any (s : PS W w n k bh bp bf G h) (mx : Int) (hm : w.cell? ⟨0, 0, none⟩ = some (.int .i64 mx)) (hmap : MapAt w bm manyL) (l : ByteArray) :
    Calls Tryz.prog 12 #[.agg #[.pointer (some ⟨bh, 0, none⟩), .map (some bm)], .string l] w fun e w2 => e = .returned (.string (TX (sayL h l.data.toList).1)) ∧ PM w w2 bh bp bf G h (sayL h l.data.toList).2 := by
  have HS0 : Hid (PS W w n k bh bp bf G h) := s
  have HRD : Hid (∀ w1, Upd (fun _ => False) w w1 → _) := fun w1 u => read_any (bh := bh) w1 mx (u.cell hm (fun f => f)) (hmap.upd u (fun f => f)) l
  have HRF : Hid (∀ w1, Upd (fun _ => False) w w1 → _) := fun w1 u => refusal_any w1 (s.tab1 u) 9 (by omega) (by omega)
  rw [errV_no (by omega)] at HRF
  cases hr : readL l.data.toList with
  | none =>
    have HE : Hid (sayL h l.data.toList = (errT 9, h)) := show _ = _ by unfold sayL; rw [hr]
    rw [hr] at HRD
    rw [HE.out]
    clear hr s hm hmap
    go_enter Tryz.func12, Tryz.ntmps12
    go_wp2_with fail
    refine Calls.mono (HRD.out _ ((Upd.refl _ _).alloc _)) ?_
    rintro e w2 ⟨⟨c, a, b, v, rfl⟩, hu2⟩
    have HU2 : Hid (Upd (fun _ => False) w w2) := ((Upd.refl _ _).alloc _).trans hu2 (fun _ _ f => f)
    obtain ⟨y0, y1, y2, z0, z1, z2⟩ := boxN w2
    clear hu2 HRD
    go_wp2_with (go_at_call 35; refine Calls.mono (HRF.out _ (HU2.out.alloc _)) ?_; rintro e w3 ⟨rfl, hu3⟩)
    go_ret
    exact ⟨rfl, ((PM.refl HS0.out.m).more (HU2.out.alloc _)).more hu3⟩
  | some cn =>
    obtain ⟨c, ns⟩ := cn
    obtain ⟨m, hmy⟩ := read_many hr
    have HE : Hid (sayL h l.data.toList = ansL h c (ns.getD 0 0) (ns.getD 1 0) (ns.getD 2 0)) := show _ = _ by unfold sayL; rw [hr]
    rw [hr] at HRD
    rw [HE.out]
    unfold RdP at HRD
    simp only at HRD
    have HOB : Hid (∀ w1, Upd (fun _ => False) w w1 → _) := fun w1 u => obey_any (s.same u) (.map (some bm)) c hmy (ns.getD 0 0) (ns.getD 1 0) (ns.getD 2 0)
    have HRE : Hid (∀ w1 w2, Upd (fun _ => False) w w1 → PM w1 w2 bh bp bf G h (ansL h c (ns.getD 0 0) (ns.getD 1 0) (ns.getD 2 0)).2 → ∀ e : Int, 0 < e → e ≤ 9 → _) := fun w1 w2 u d e h0 h9 => refusal_any w2 (s.tab2 u d) e h0 h9
    clear hr s hm hmap hmy HRF
    generalize ns.getD 0 0 = a at *
    generalize ns.getD 1 0 = b at *
    generalize ns.getD 2 0 = v at *
    generalize ansL h c a b v = r at *
    go_enter Tryz.func12, Tryz.ntmps12
    go_wp2_with fail
    refine Calls.mono (HRD.out _ ((Upd.refl _ _).alloc _)) ?_
    rintro e w2 ⟨rfl, hu2⟩
    have HU2 : Hid (Upd (fun _ => False) w w2) := ((Upd.refl _ _).alloc _).trans hu2 (fun _ _ f => f)
    obtain ⟨y0, y1, y2, z0, z1, z2⟩ := boxN w2
    have q0 : w2.cell? ⟨w.heap.size, 0, none⟩ = some (.pointer (some ⟨bh, 0, none⟩)) := hu2.cell (by rw [World.cell?_alloc_new]; rfl) (fun f => f)
    have q1 : w2.cell? ⟨w.heap.size, 1, none⟩ = some (.map (some bm)) := hu2.cell (by rw [World.cell?_alloc_new]; rfl) (fun f => f)
    have hq := World.block_lt_of_cell? w2 _ q0
    simp only at hq
    clear hu2 HRD
    generalize w.heap.size = q at *
    go_wp2_with fail
    refine Calls.mono (HOB.out _ (HU2.out.alloc _)) ?_
    rintro e w3 ⟨t, e, rfl, ⟨he0, he9⟩, hte, hd3⟩
    have HD3 : Hid (PM w w3 bh bp bf G h r.2) := PM.fore (HU2.out.alloc _) hd3
    by_cases h0 : 0 < e
    · have HRR : Hid _ := HRE.out _ _ (HU2.out.alloc _) hd3 e h0 he9
      rw [if_pos h0] at hte
      have HTE : Hid (errT e = r.1) := hte
      rw [errV_no (by omega)] at HRR ⊢
      clear hte hd3 HRE y0 y1 y2 z0 z1 z2 q0 q1
      go_wp2_with (go_at_call 35; refine Calls.mono HRR.out ?_; rintro e4 w4 ⟨rfl, hu4⟩)
      go_ret
      exact ⟨by rw [← HTE.out]; rfl, HD3.out.more hu4⟩
    · have e0 : e = 0 := by omega
      subst e0
      rw [if_neg h0] at hte
      have HTE : Hid (t = r.1) := hte
      rw [errV_zero]
      clear hte hd3 HRE y0 y1 y2 z0 z1 z2 q0 q1
      go_wp2_with fail
      go_ret
      exact ⟨by rw [← HTE.out]; rfl, HD3.out⟩
end Go.Proofs.YtadpibcgjgcjhabGreatDoor
