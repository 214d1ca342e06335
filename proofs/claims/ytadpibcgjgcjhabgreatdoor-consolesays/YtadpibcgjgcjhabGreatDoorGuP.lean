/- Touch, plainly: the frame it tells is one, and bytes stay bytes. -/
import Derived.Test.YtadpibcgjgcjhabGreatDoorGuM
namespace Go.Proofs.YtadpibcgjgcjhabGreatDoor
def BytOk (s : Pl) : Prop := ∀ f i, 0 ≤ s.byt f i ∧ s.byt f i ≤ 255
theorem take_or (s : Pl) : (∃ j : Nat, j < s.n ∧ s.take = ((j : Int), 0, { s with refs := setAt s.refs j 1, byt := setAt s.byt j fun _ => 0 })) ∨ s.take = (0, 3, s) := by
  unfold Pl.take
  cases h : firstFrom s.refs 0 s.n with
  | none => exact Or.inr rfl
  | some j =>
    refine Or.inl ⟨j, ?_, rfl⟩
    have aux : ∀ (m k : Nat), firstFrom s.refs k m = some j → k ≤ j ∧ j < k + m := by
      intro m
      induction m with
      | zero => intro k hk; simp [firstFrom] at hk
      | succ m ih =>
        intro k hk
        unfold firstFrom at hk
        split at hk
        · cases hk; omega
        · have := ih (k + 1) hk; omega
    have := aux s.n 0 h
    omega
theorem share_same (s : Pl) (f d : Int) : (s.share f d).2.n = s.n ∧ (s.share f d).2.byt = s.byt := by unfold Pl.share; split <;> exact ⟨rfl, rfl⟩
theorem touch_code (s : Pl) (m : Mp) (n : Int) (wt : Bool) : 0 ≤ (touchR s m n wt).1.2.2 := by
  unfold touchR
  repeat' split
  all_goals first | (simp; done) | skip
  rcases take_or s with ⟨j, _, e⟩ | e <;> rw [e] <;> simp
theorem touch_frame {s : Pl} {a b : Mp} (h : Inv s a b) (n : Int) (wt : Bool) (he : (touchR s a n wt).1.2.2 = 0) :
    0 ≤ (touchR s a n wt).1.1 ∧ (touchR s a n wt).1.1 < (touchR s a n wt).2.1.n ∧ onB n = true ∧ ((touchR s a n wt).2.2.lf n.toNat).there = true ∧ ((touchR s a n wt).2.2.lf n.toNat).fr = (touchR s a n wt).1.1 := by
  unfold touchR at he ⊢
  cases ho : onB n with
  | false => simp [ho] at he
  | true =>
    obtain ⟨n0, n1⟩ := (onB_iff n).1 ho
    have hk : n.toNat < 16 := by omega
    simp only [ho, if_true] at he ⊢
    by_cases h0 : a.st n.toNat = 0
    · simp [h0] at he
    · rw [if_neg h0] at he ⊢
      by_cases h2 : a.st n.toNat = 2
      · simp [h2] at he
      · rw [if_neg h2] at he ⊢
        cases ht : (a.lf n.toNat).there with
        | true =>
          have hin := h.ina n.toNat hk ht
          cases hw : (!wt || (a.lf n.toNat).wr) with
          | true => simp [ht, hin]
          | false =>
            simp only [ht, hw, Bool.and_false, Bool.false_eq_true, if_false, Bool.true_and] at he ⊢
            cases hr : (s.refs (a.lf n.toNat).fr.toNat == 1) with
            | true => simp [setAt, hin]
            | false =>
              simp only [hr, Bool.false_eq_true, if_false] at he ⊢
              rcases take_or s with ⟨j, hj, e⟩ | e
              · rw [e]
                simp only [if_true, setAt]
                exact ⟨by omega, by rw [(share_same _ _ _).1]; show (j : Int) < s.n; omega, trivial, by simp, by simp⟩
              · rw [e] at he; simp at he
        | false =>
          simp only [ht, Bool.false_and, Bool.false_eq_true, if_false] at he ⊢
          rcases take_or s with ⟨j, hj, e⟩ | e
          · rw [e]
            simp only [if_true, setAt]
            exact ⟨by omega, by show (j : Int) < s.n; omega, trivial, by simp, by simp⟩
          · rw [e] at he; simp at he
theorem BytOk.touch {s : Pl} (h : BytOk s) (m : Mp) (n : Int) (wt : Bool) : BytOk (touchR s m n wt).2.1 := by
  have ht : BytOk s.take.2.2 := by
    rcases take_or s with ⟨j, _, e⟩ | e
    · rw [e]
      intro f i
      show 0 ≤ setAt s.byt j (fun _ => 0) f i ∧ setAt s.byt j (fun _ => 0) f i ≤ 255
      by_cases ef : f = j
      · subst ef; simp [setAt]
      · rw [setAt_other _ _ _ _ ef]; exact h f i
    · rw [e]; exact h
  unfold touchR
  repeat' split
  all_goals first | exact h | exact ht | skip
  intro f i
  rw [(share_same _ _ _).2]
  show 0 ≤ setAt s.take.2.2.byt s.take.1.toNat (s.take.2.2.byt (m.lf n.toNat).fr.toNat) f i ∧ setAt s.take.2.2.byt s.take.1.toNat (s.take.2.2.byt (m.lf n.toNat).fr.toNat) f i ≤ 255
  by_cases ef : f = s.take.1.toNat
  · rw [ef, setAt_same]; exact ht _ _
  · rw [setAt_other _ _ _ _ ef]; exact ht f i
end Go.Proofs.YtadpibcgjgcjhabGreatDoor
