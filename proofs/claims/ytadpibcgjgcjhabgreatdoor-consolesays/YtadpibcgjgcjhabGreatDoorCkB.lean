/- Package cache: what the library's IndexFunc answers over a cache's places. -/
import Derived.Test.YtadpibcgjgcjhabGreatDoorCkA
namespace Go.Proofs.YtadpibcgjgcjhabGreatDoor
open Go.ChangeShapes Go.WideShapes Go.ChangeAt Go.RowKit
set_option maxRecDepth 100000
attribute [local go_sem ↓] Go.wp_at_zero Go.wp_at_succ

/-- The place of the first entry of which p holds. -/
def idxP (p : En → Bool) (es : List En) : Int := match es.findIdx? p with
  | some i => i
  | none => -1
theorem idxP_some {p : En → Bool} {es : List En} {k : Nat} (hk : k < es.length) (h : p (atE es k) = true) (hb : ∀ i, i < k → p (atE es i) = false) : idxP p es = k := by
  have : es.findIdx? p = some k := by
    rw [List.findIdx?_eq_some_iff_getElem]
    refine ⟨hk, ?_, fun j hj => ?_⟩
    · simpa [atE, List.getD_eq_getElem?_getD, List.getElem?_eq_getElem hk] using h
    · have := hb j hj
      simpa [atE, List.getD_eq_getElem?_getD, List.getElem?_eq_getElem (show j < es.length by omega)] using this
  unfold idxP
  rw [this]
theorem idxP_none {p : En → Bool} {es : List En} (hb : ∀ i, i < es.length → p (atE es i) = false) : idxP p es = -1 := by
  have : es.findIdx? p = none := by
    rw [List.findIdx?_eq_none_iff]
    intro x hx
    obtain ⟨i, hi, rfl⟩ := List.getElem_of_mem hx
    have := hb i hi
    simpa [atE, List.getD_eq_getElem?_getD, List.getElem?_eq_getElem hi] using this
  unfold idxP
  rw [this]
/-- It is a place, or there is none. -/
theorem idxP_cases (p : En → Bool) (es : List En) : (∃ k : Nat, k < es.length ∧ idxP p es = k ∧ p (atE es k) = true ∧ ∀ i, i < k → p (atE es i) = false) ∨ (idxP p es = -1 ∧ ∀ i, i < es.length → p (atE es i) = false) := by
  by_cases h : ∃ k, k < es.length ∧ p (atE es k) = true
  · obtain ⟨k, ⟨hk, hp⟩, hmin⟩ := exists_least h
    have hb : ∀ i, i < k → p (atE es i) = false := fun i hi => by
      cases hq : p (atE es i) with
      | false => rfl
      | true => have := hmin i ⟨by omega, hq⟩; omega
    exact Or.inl ⟨k, hk, idxP_some hk hp hb, hp, hb⟩
  · have hb : ∀ i, i < es.length → p (atE es i) = false := fun i hi => by
      cases hq : p (atE es i) with
      | false => rfl
      | true => exact absurd ⟨i, hi, hq⟩ h
    exact Or.inr ⟨idxP_none hb, hb⟩
/-- The entries of a cache. -/
def CaL (w : World) (b : Nat) (es : List En) : Prop := ∃ cur, CaAt w b cur es.length ∧ ∀ i, i < es.length → cur i = atE es i
theorem kIndex_any (w : World) (b : Nat) (cur : Nat → En) (es : List En) (g : Nat) (lb : Array Value) (p : En → Bool) (h : CaAt w b cur es.length) (hes : ∀ i, i < es.length → cur i = atE es i)
    (hp : PredOn b w g lb p) (eg : ∀ args w, (callFunc g args).run Tryz.prog w = .ok (.enter g args) w) :
    Calls Tryz.prog 193 #[.slice (some ⟨b, 0, none⟩) es.length 4, .func (.func g) #[] lb] w fun e w' => e = .returned (.int .i64 (idxP p es)) ∧ Upd (fun _ => False) w w' := by
  have HH : Hid _ := h
  have HE : Hid _ := hes
  have HP : Hid _ := hp
  have hle := h.le
  clear h hes hp
  go_enter Tryz.func193, Tryz.ntmps193
  go_wp2_with fail
  go_loopg [8] es.length (fun gg i wi => ∃ k : Nat, k + gg = es.length ∧ i = .int .i64 k ∧ Hid (∀ i, i < k → p (atE es i) = false) ∧ Hid (Upd (fun _ => False) w wi))
  case atStart => exact ⟨0, by omega, rfl, fun i hi => absurd hi (by omega), Upd.refl _ _⟩
  case round =>
    obtain ⟨k, hk, rfl, HB, HU⟩ := hrel
    have HK : Hid _ := hk
    by_cases hlt : k < es.length
    · clear hk
      have HA : Hid _ := HH.out.upd HU.out (fun f => f)
      have ek := HE.out k hlt
      have c0 : wr.cell? ⟨b, k * 7, none⟩ = some (.int .i64 (atE es k).root) := by have := HA.out.cells k 0 (by omega) (by omega); rw [ek] at this; exact this
      have c1 : wr.cell? ⟨b, k * 7 + 1, none⟩ = some (.int .i64 (atE es k).page) := by have := HA.out.cells k 1 (by omega) (by omega); rw [ek] at this; exact this
      have c2 : wr.cell? ⟨b, k * 7 + 2, none⟩ = some (.int .i64 (atE es k).dest) := by have := HA.out.cells k 2 (by omega) (by omega); rw [ek] at this; exact this
      have c3 : wr.cell? ⟨b, k * 7 + 3, none⟩ = some (.bool (atE es k).may) := by have := HA.out.cells k 3 (by omega) (by omega); rw [ek] at this; exact this
      have c4 : wr.cell? ⟨b, k * 7 + 4, none⟩ = some (.bool (atE es k).lf.there) := by have := HA.out.cells k 4 (by omega) (by omega); rw [ek] at this; exact this
      have c5 : wr.cell? ⟨b, k * 7 + 5, none⟩ = some (.bool (atE es k).lf.wr) := by have := HA.out.cells k 5 (by omega) (by omega); rw [ek] at this; exact this
      have c6 : wr.cell? ⟨b, k * 7 + 6, none⟩ = some (.int .i64 (atE es k).lf.fr) := by have := HA.out.cells k 6 (by omega) (by omega); rw [ek] at this; exact this
      clear ek HA HE
      have k0 : (0 : Int) ≤ (k : Int) := by omega
      have k1 : (k : Int) < es.length := by omega
      generalize hx : atE es k = x at c0 c1 c2 c3 c4 c5 c6
      have HX : Hid _ := hx
      clear hx
      have hcall := HP.out wr x (HU.out.trans (T := fun _ => False) (Upd.refl _ _) (fun _ _ f => f.elim) |> fun u => ⟨u.os, u.tape, u.output, u.size, fun i hi _ => u.block i hi (fun f => f)⟩)
      clear HP
      cases hq : p x with
      | true =>
        rw [hq] at hcall
        go_wp2_with (go_at_fn g; refine hcall.mono ?_; rintro e w' ⟨rfl, hb'⟩)
        go_ret
        exact ⟨by rw [idxP_some hlt (by rw [HX.out]; exact hq) HB.out]; rfl, HU.out.trans hb' (fun _ _ f => f)⟩
      | false =>
        rw [hq] at hcall
        go_wp2_with (go_at_fn g; refine hcall.mono ?_; rintro e w' ⟨rfl, hb'⟩)
        go_roundg (es.length - (k + 1))
        case rel =>
          refine ⟨k + 1, by omega, by go_num, (show Hid _ from fun i hi => ?_), HU.out.trans hb' (fun _ _ f => f)⟩
          by_cases e : i = k
          · subst e; rw [HX.out]; exact hq
          · exact HB.out i (by omega)
        case measure => have := HK.out; omega
    · have HF : Hid _ := idxP_none (p := p) (es := es) (fun i hi => HB.out i (by have := HK.out; omega))
      clear hk HP HE HH
      go_wp2_with fail
      go_ret
      exact ⟨by rw [HF.out]; rfl, HU.out⟩
end Go.Proofs.YtadpibcgjgcjhabGreatDoor
