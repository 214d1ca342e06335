/- Package cache: Point. -/
import Derived.Test.YtadpibcgjgcjhabGreatDoorCkF
namespace Go.Proofs.YtadpibcgjgcjhabGreatDoor
open Go.ChangeShapes Go.WideShapes Go.ChangeAt Go.RowKit
set_option maxRecDepth 100000
attribute [local go_sem ↓] Go.wp_at_zero Go.wp_at_succ

def lfCells (l : Lf) : List Value := [.bool l.there, .bool l.wr, .int .i64 l.fr]
theorem CaAt.setLf {w : World} {b : Nat} {cur : Nat → En} {n : Nat} (h : CaAt w b cur n) {i : Nat} (hi : i < 4) (l : Lf) :
    CaAt (((w.setCell ⟨b, i * 7 + 4, none⟩ (.bool l.there)).setCell ⟨b, i * 7 + 4 + 1, none⟩ (.bool l.wr)).setCell ⟨b, i * 7 + 4 + 2, none⟩ (.int .i64 l.fr)) b (setAt cur i { cur i with lf := l }) n := by
  have hw : (((w.setCell ⟨b, i * 7 + 4, none⟩ (.bool l.there)).setCell ⟨b, i * 7 + 4 + 1, none⟩ (.bool l.wr)).setCell ⟨b, i * 7 + 4 + 2, none⟩ (.int .i64 l.fr)) = w.setCells b (i * 7 + 4) (lfCells l) := rfl
  rw [hw]
  have h3 : (lfCells l).length = 3 := rfl
  refine ⟨fun k j hk hj => ?_, ?_, fun o => by rw [World.frozen?_setCells]; exact h.fz o, h.le⟩
  · by_cases e : k = i
    · subst e
      rw [setAt_same]
      by_cases hj4 : j < 4
      · rw [World.cell?_setCells_out _ _ _ _ _ (fun _ _ => by simp only [h3]; omega), h.cells k j hk hj]
        rcases j with _ | _ | _ | _ | j
        all_goals first | rfl | omega
      · obtain ⟨v, hv⟩ : ∃ v, (lfCells l)[j - 4]? = some v := ⟨_, List.getElem?_eq_getElem (show j - 4 < (lfCells l).length by omega)⟩
        have := World.rangeAt_setCells_same w b (k * 7 + 4) (lfCells l) (fun o ho => h.there _ (by omega)) (j - 4) v hv
        rw [show k * 7 + 4 + (j - 4) = k * 7 + j by omega] at this
        rw [this, ← hv]
        obtain ⟨t, rfl⟩ : ∃ t, j = t + 4 := ⟨j - 4, by omega⟩
        rw [Nat.add_sub_cancel]
        rcases t with _ | _ | _ | t
        all_goals first | rfl | omega
    · rw [World.cell?_setCells_out _ _ _ _ _ (fun _ _ => by simp only [h3]; omega), h.cells k j hk hj, setAt_other _ _ _ _ e]
  · rw [World.cell?_setCells_out _ _ _ _ _ (fun _ _ => by simp only [h3]; omega)]; exact h.cnt
theorem Upd.setLf (w : World) (b i : Nat) (l : Lf) : Upd (fun k => k = b) w (((w.setCell ⟨b, i * 7 + 4, none⟩ (.bool l.there)).setCell ⟨b, i * 7 + 4 + 1, none⟩ (.bool l.wr)).setCell ⟨b, i * 7 + 4 + 2, none⟩ (.int .i64 l.fr)) := Upd.row w b (i * 7 + 4) (lfCells l)
theorem pntTo_get (d : Int) (l : Lf) (es : List En) : ∀ k, ∀ t, t < k → atE (pntTo d l es k) t = pnt d l (atE es t)
  | 0, _, h => absurd h (by omega)
  | k + 1, t, h => by
    have hl := pntTo_length d l es k
    unfold pntTo
    by_cases e : t = k
    · subst e
      simp [atE, List.getD_eq_getElem?_getD, hl]
    · have := pntTo_get d l es k t (by omega)
      rw [← this]
      simp [atE, List.getD_eq_getElem?_getD, List.getElem?_append_left (show t < (pntTo d l es k).length by omega)]
theorem kPoint_any (w : World) (b : Nat) (es : List En) (d : Int) (l : Lf) (h : CaL w b es) :
    Calls Tryz.prog 146 #[.pointer (some ⟨b, 0, none⟩), .int .i64 d, .agg #[.bool l.there, .bool l.wr, .int .i64 l.fr]] w fun e w' => e = .returned (.int .i64 (pntN d es es.length)) ∧ CaL w' b (pntTo d l es es.length) ∧ Upd (fun k => k = b) w w' := by
  obtain ⟨cur, h, hes⟩ := h
  have hle := h.le
  have hlt := h.lt
  have u0 := (Upd.refl (fun _ => False) w).alloc (.cells #[.bool l.there, .bool l.wr, .int .i64 l.fr] 92)
  have p0 : (w.alloc (.cells #[.bool l.there, .bool l.wr, .int .i64 l.fr] 92)).cell? ⟨w.heap.size, 0, none⟩ = some (.bool l.there) := by rw [World.cell?_alloc_new]; rfl
  have p1 : (w.alloc (.cells #[.bool l.there, .bool l.wr, .int .i64 l.fr] 92)).cell? ⟨w.heap.size, 1, none⟩ = some (.bool l.wr) := by rw [World.cell?_alloc_new]; rfl
  have p2 : (w.alloc (.cells #[.bool l.there, .bool l.wr, .int .i64 l.fr] 92)).cell? ⟨w.heap.size, 2, none⟩ = some (.int .i64 l.fr) := by rw [World.cell?_alloc_new]; rfl
  have HA0 : Hid _ := h.upd u0 (fun f => f)
  have HE : Hid _ := hes
  have U0 : Hid _ := u0
  have P0 : Hid _ := p0
  have P1 : Hid _ := p1
  have P2 : Hid _ := p2
  clear h hes u0 p0 p1 p2
  go_enter Tryz.func146, Tryz.ntmps146
  go_wp2_with fail
  refine (kLive_any _ b cur es.length HA0.out).mono ?_
  rintro e w1 ⟨rfl, m, rfl⟩
  have u1 := (Upd.refl (fun _ => False) (w.alloc (.cells #[.bool l.there, .bool l.wr, .int .i64 l.fr] 92))).drewN m
  have p0 := u1.cell P0.out (fun f => f)
  have p1 := u1.cell P1.out (fun f => f)
  have p2 := u1.cell P2.out (fun f => f)
  have HA1 : Hid _ := HA0.out.upd u1 (fun f => f)
  have U1 : Hid _ := U0.out.trans u1 (fun _ _ f => f)
  clear u1 U0 HA0 P0 P1 P2
  revert p0 p1 p2 HA1 U1
  generalize (w.alloc (.cells #[.bool l.there, .bool l.wr, .int .i64 l.fr] 92)).drewN m = w1
  generalize hB : w.heap.size = B
  have HB : Hid _ := hB
  intro p0 p1 p2 HA1 U1
  have hbB : b ≠ B := by omega
  clear hB hlt
  go_wp2_with fail
  go_loopg [7, 14] es.length (fun gg s7 s14 wi => ∃ (k : Nat) (c : Nat → En), k + gg = es.length ∧ s14 = .int .i64 k ∧ s7 = .int .i64 (pntN d es k) ∧ Hid (CaAt wi b c es.length) ∧ Hid (∀ t, t < k → c t = pnt d l (atE es t)) ∧ Hid (∀ t, k ≤ t → t < es.length → c t = atE es t) ∧ Hid (Upd (fun k => k = b) w1 wi))
  case atStart => exact ⟨0, cur, by omega, rfl, rfl, HA1.out, fun t ht => absurd ht (by omega), fun t _ ht => HE.out t ht, Upd.refl _ _⟩
  case round =>
    obtain ⟨k, c, hk, rfl, rfl, HA, HT1, HT2, HU⟩ := hrel
    have HK : Hid _ := hk
    by_cases hlt : k < es.length
    · clear hk
      have hA := HA.out
      have ek := HT2.out k (Nat.le_refl _) hlt
      have fz := hA.fz
      have c2 : wr.cell? ⟨b, k * 7 + 2, none⟩ = some (.int .i64 (atE es k).dest) := by have := hA.cells k 2 (by omega) (by omega); rw [ek] at this; exact this
      have c4 : wr.cell? ⟨b, k * 7 + 4, none⟩ = some (.bool (atE es k).lf.there) := by have := hA.cells k 4 (by omega) (by omega); rw [ek] at this; exact this
      have c5 : wr.cell? ⟨b, k * 7 + 4 + 1, none⟩ = some (.bool (atE es k).lf.wr) := by have := hA.cells k 5 (by omega) (by omega); rw [ek] at this; exact this
      have c6 : wr.cell? ⟨b, k * 7 + 4 + 2, none⟩ = some (.int .i64 (atE es k).lf.fr) := by have := hA.cells k 6 (by omega) (by omega); rw [ek] at this; exact this
      have q0 := HU.out.cell p0 (by simp only; omega)
      have q1 := HU.out.cell p1 (by simp only; omega)
      have q2 := HU.out.cell p2 (by simp only; omega)
      have hN : pntN d es (k + 1) = pntN d es k + if (atE es k).dest == d then 1 else 0 := rfl
      have hle2 := pntN_le d es k
      have HN : Hid _ := hN
      have HEK : Hid _ := ek
      clear hN hA ek p0 p1 p2
      generalize hx : atE es k = x at *
      have HX : Hid _ := hx
      clear hx
      have k0 : (0 : Int) ≤ (k : Int) := by omega
      have k1 : (k : Int) < es.length := by omega
      cases hd : (x.dest == d) with
      | true =>
        rw [hd] at HN
        generalize pntN d es k = v at *
        go_wp2_with fail
        go_roundg (es.length - (k + 1))
        case rel =>
          refine ⟨k + 1, setAt c k { c k with lf := l }, by have := HK.out; omega, by go_num, ?_, HA.out.setLf (by omega) l, (show Hid _ from fun t ht => ?_), (show Hid _ from fun t h1 h2 => ?_), HU.out.trans (Upd.setLf wr b k l) (fun _ _ e => e)⟩
          · rw [HN.out]; simp only [if_true]; first | rfl | go_num | (simp; go_num)
          · by_cases e : t = k
            · subst e
              rw [setAt_same, HEK.out, HX.out]
              simp [pnt, hd]
            · rw [setAt_other _ _ _ _ e]; exact HT1.out t (by omega)
          · rw [setAt_other _ _ _ _ (by omega)]; exact HT2.out t (by omega) h2
        case measure => have := HK.out; omega
      | false =>
        rw [hd] at HN
        generalize pntN d es k = v at *
        go_wp2_with fail
        go_roundg (es.length - (k + 1))
        case rel =>
          refine ⟨k + 1, c, by have := HK.out; omega, by go_num, ?_, HA.out, (show Hid _ from fun t ht => ?_), (show Hid _ from fun t h1 h2 => HT2.out t (by omega) h2), HU.out⟩
          · rw [HN.out]; simp
          · by_cases e : t = k
            · subst e
              rw [HEK.out, HX.out]
              simp [pnt, hd]
            · exact HT1.out t (by omega)
        case measure => have := HK.out; omega
    · have ek : k = es.length := by omega
      subst ek
      clear hk p0 p1 p2
      go_wp2_with fail
      go_ret
      refine ⟨rfl, ?_, (U1.out.free (S := fun k => k = b)).trans HU.out (fun _ _ e => e)⟩
      exact CaL.of HA.out (pntTo_length d l es es.length).symm (fun t ht => by rw [pntTo_length] at ht; rw [pntTo_get d l es es.length t ht]; exact HT1.out t ht)
end Go.Proofs.YtadpibcgjgcjhabGreatDoor
