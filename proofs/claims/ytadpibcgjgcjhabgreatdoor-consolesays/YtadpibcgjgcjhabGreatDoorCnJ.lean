/- SameTexts. -/
import Derived.Test.YtadpibcgjgcjhabGreatDoorCnI
namespace Go.Proofs.YtadpibcgjgcjhabGreatDoor
open Go.ChangeShapes Go.WideShapes Go.ChangeAt Go.RowKit
set_option maxRecDepth 100000
attribute [local go_sem ↓] Go.wp_at_zero Go.wp_at_succ
variable {w w' : World}

/-- Texts that a slice holds. -/
def TxAt (w : World) (a : Option Addr) (l : List ByteArray) : Prop := ∀ i, i < l.length → ∃ g o, a = some ⟨g, o, none⟩ ∧ g < w.heap.size ∧ w.cell? ⟨g, o + i, none⟩ = some (.string (l.getD i ByteArray.empty))
theorem TxAt.upd {S : Nat → Prop} {a : Option Addr} {l : List ByteArray} (h : TxAt w a l) (u : Upd S w w') (hS : ∀ g o, a = some ⟨g, o, none⟩ → ¬ S g) : TxAt w' a l := fun i hi => by
  obtain ⟨g, o, e, hg, hc⟩ := h i hi
  exact ⟨g, o, e, Nat.lt_of_lt_of_le hg u.size, u.cell hc (hS g o e)⟩
theorem SlS.txAt {base : Nat} {v : Value} {l : List ByteArray} (h : SlS w base v l) : ∃ a cap, v = .slice a l.length cap ∧ TxAt w a l ∧ ∀ g o, a = some ⟨g, o, none⟩ → base ≤ g := by
  rcases h.2 with ⟨rfl, h0⟩ | ⟨g, cap, cur, rfl, hb, hg, _⟩
  · exact ⟨none, 0, by rw [h0], fun i hi => absurd hi (by omega), fun g o e => by cases e⟩
  · obtain ⟨a, cap', e, hc⟩ := h.form
    cases e
    refine ⟨_, _, rfl, fun i hi => ?_, fun g' o e => ?_⟩
    · obtain ⟨g', e, _, hlt, hcc⟩ := hc i hi
      cases e
      exact ⟨_, 0, rfl, hlt, by rw [Nat.zero_add]; exact hcc⟩
    · cases e
      exact hb
theorem sameTexts_any (w : World) (a b : Option Addr) (c d : Nat) (l : List ByteArray) (ha : TxAt w a l) (hb : TxAt w b l) (hl : l.length ≤ 1000) : Calls Tryz.prog 9 #[.slice a l.length c, .slice b l.length d] w fun e w' => e = .returned (.bool true) ∧ Upd (fun _ => False) w w' := by
  have HA : Hid _ := ha
  have HB : Hid _ := hb
  clear ha hb
  have hll : ((l.length : Int) != (l.length : Int)) = false := by simp
  go_enter Tryz.func9, Tryz.ntmps9
  go_wp2_with fail
  go_loopg [5] l.length (fun g iv wr => ∃ k : Nat, k + g = l.length ∧ iv = .int .i64 k ∧ Hid (Upd (fun _ => False) w wr))
  case atStart => exact ⟨0, by omega, rfl, Upd.refl _ _⟩
  case round =>
    obtain ⟨k, hk, rfl, HU⟩ := hrel
    have HK : Hid _ := hk
    clear hk
    by_cases hlt : k < l.length
    · obtain ⟨g, o, rfl, _, hc⟩ := HA.out k hlt
      obtain ⟨g', o', rfl, _, hc'⟩ := HB.out k hlt
      have d := HU.out.cell hc (fun f => f)
      have d' := HU.out.cell hc' (fun f => f)
      clear hc hc'
      generalize l.getD k ByteArray.empty = x at *
      have he : (x.toList == x.toList) = true := by simp
      have hne : (x.toList != x.toList) = false := by simp
      go_wp2_with fail
      go_quiet (fail)
      go_wp2_with fail
      go_roundg (l.length - (k + 1))
      case rel => exact ⟨k + 1, by omega, by go_num, HU.out.drewN nq⟩
      case measure => have := HK.out; omega
    · go_wp2_with fail
      go_ret
      exact ⟨rfl, HU.out⟩
end Go.Proofs.YtadpibcgjgcjhabGreatDoor
