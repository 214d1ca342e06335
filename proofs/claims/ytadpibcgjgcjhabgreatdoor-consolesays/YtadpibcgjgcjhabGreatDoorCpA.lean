/- Entries, plainly: no two have the same root and page; the program's ways and the document's are one. -/
import Derived.Test.YtadpibcgjgcjhabGreatDoorCkG
namespace Go.Proofs.YtadpibcgjgcjhabGreatDoor

def KeyNe (a b : En) : Prop := ¬ (a.root = b.root ∧ a.page = b.page)
def Dist (es : List En) : Prop := es.Pairwise KeyNe
theorem isAt_iff (r p : Int) (e : En) : isAt r p e = true ↔ e.root = r ∧ e.page = p := by simp [isAt]
theorem isAt_false (r p : Int) (e : En) : isAt r p e = false ↔ ¬ (e.root = r ∧ e.page = p) := by
  rw [← isAt_iff, Bool.not_eq_true]
theorem atE_mem {es : List En} {i : Nat} (h : i < es.length) : atE es i ∈ es := by
  simp [atE, List.getD_eq_getElem?_getD, h]
theorem atE_get {es : List En} {i : Nat} (h : i < es.length) : atE es i = es[i] := by
  simp [atE, List.getD_eq_getElem?_getD, h]
theorem mem_flt {p : En → Bool} {es : List En} {x : En} : x ∈ flt p es ↔ x ∈ es ∧ p x = false := by
  simp [flt]
theorem dist_nil : Dist [] := List.Pairwise.nil
theorem dist_flt {es : List En} (h : Dist es) (p : En → Bool) : Dist (flt p es) := List.Pairwise.filter _ h
theorem cut1_sub (l : List En) : List.Sublist (cut1 l) l := by
  unfold cut1
  split
  · exact List.filter_sublist
  · exact List.Sublist.refl _
theorem dist_putK {es : List En} (h : Dist es) (x : En) : Dist (putK es x) := by
  unfold Dist putK
  rw [List.pairwise_append]
  refine ⟨List.Pairwise.sublist (cut1_sub _) (dist_flt h _), List.pairwise_singleton _ _, fun a ha b hb => ?_⟩
  rw [List.mem_singleton] at hb
  subst hb
  have := (mem_flt.1 ((cut1_sub _).subset ha)).2
  exact (isAt_false _ _ _).1 this
theorem fndI_idx (es : List En) (r p : Int) : fndI es r p = idxP (isAt r p) es := rfl
/-- Of the first k, by a test of the place that is a test of the entry. -/
theorem keepTo_flt (P : Nat → Bool) (p : En → Bool) (es : List En) (h : ∀ i, i < es.length → P i = !p (atE es i)) : ∀ k, k ≤ es.length → keepTo P es k = fltTo p es k
  | 0, _ => by simp [keepTo, fltTo]
  | k + 1, hk => by
    rw [fltTo_succ p es k (by omega)]
    unfold keepTo
    rw [keepTo_flt P p es h k (by omega), h k (by omega)]
    cases p (atE es k) <;> simp
theorem keep_drop {es : List En} (h : Dist es) (r p : Int) : keepTo (fun i => (i : Int) != fndI es r p) es es.length = flt (isAt r p) es := by
  rw [← fltTo_all, keepTo_flt _ (isAt r p) es (fun i hi => ?_) es.length (Nat.le_refl _)]
  rw [fndI_idx]
  rcases idxP_cases (isAt r p) es with ⟨k, hk, ek, hp, hb⟩ | ⟨ek, hb⟩
  · rw [ek]
    by_cases e : i = k
    · subst e; rw [hp]; simp
    · have hq : isAt r p (atE es i) = false := by
        refine (isAt_false _ _ _).2 (fun hh => ?_)
        have hpk := (isAt_iff _ _ _).1 hp
        rcases Nat.lt_or_ge i k with hlt | hge
        · have := List.pairwise_iff_getElem.1 h i k hi hk hlt
          rw [← atE_get hi, ← atE_get hk] at this
          exact this ⟨hh.1.trans hpk.1.symm, hh.2.trans hpk.2.symm⟩
        · have := List.pairwise_iff_getElem.1 h k i hk hi (by omega)
          rw [← atE_get hi, ← atE_get hk] at this
          exact this ⟨hpk.1.trans hh.1.symm, hpk.2.trans hh.2.symm⟩
      rw [hq]
      simp; omega
  · rw [ek, hb i hi]
    simp
theorem keep_forget (es : List En) (r : Int) : keepTo (fun i => (atE es i).root != r) es es.length = flt (fun x => x.root == r) es := by
  rw [← fltTo_all, keepTo_flt (fun i => (atE es i).root != r) (fun x => x.root == r) es (fun i hi => rfl) es.length (Nat.le_refl _)]
theorem cut1_tail {l : List En} (h : Dist l) (h4 : l.length = 4) (x : En) : keepTo (fun i => (i : Int) != 0) (l ++ [x]) (l ++ [x]).length = cut1 l ++ [x] := by
  rcases l with _ | ⟨a, l⟩
  · simp at h4
  · have h2 : cut1 (a :: l) = l := by
      unfold cut1
      rw [if_pos h4]
      have ha : atE (a :: l) 0 = a := rfl
      rw [ha]
      unfold flt
      rw [List.filter_cons_of_neg (by rw [(isAt_iff a.root a.page a).2 ⟨rfl, rfl⟩]; simp), List.filter_eq_self]
      intro y hy
      have := (List.pairwise_cons.1 h).1 y hy
      rw [(isAt_false _ _ _).2 (fun e => this ⟨e.1.symm, e.2.symm⟩)]; rfl
    rw [h2]
    have aux : ∀ (m : List En) (k : Nat), k ≤ m.length → keepTo (fun i => (i : Int) != 0) (a :: m) (k + 1) = m.take k := by
      intro m k
      induction k with
      | zero => intro _; simp [keepTo]
      | succ k ih =>
        intro hk
        unfold keepTo
        rw [ih (by omega), List.take_add_one, List.getElem?_eq_getElem (by omega)]
        have : (((k + 1 : Nat) : Int) != 0) = true := by simp; omega
        rw [this]
        have e2 : atE (a :: m) (k + 1) = m[k] := by simp [atE, List.getD_eq_getElem?_getD, List.getElem?_eq_getElem (show k < m.length by omega)]
        simp [e2]
    have := aux (l ++ [x]) (l ++ [x]).length (Nat.le_refl _)
    rw [List.take_length] at this
    exact this
theorem put_same {es : List En} (h : Dist es) (h4 : es.length ≤ 4) (x : En) : putC es x = putK es x := by
  unfold putC putK
  simp only
  rw [keep_drop h]
  have hd := dist_flt h (isAt x.root x.page)
  have hl := flt_length (isAt x.root x.page) es
  generalize flt (isAt x.root x.page) es = l at *
  by_cases e : l.length = 4
  · rw [if_pos (by simp; omega)]
    exact cut1_tail hd e x
  · rw [if_neg (by simp; omega)]
    unfold cut1
    rw [if_neg e]
theorem pntTo_map (d : Int) (l : Lf) (es : List En) : ∀ k, k ≤ es.length → pntTo d l es k = (es.take k).map (pnt d l)
  | 0, _ => by simp [pntTo]
  | k + 1, h => by
    unfold pntTo
    rw [pntTo_map d l es k (by omega), take_succ_atE es k (by omega)]
    simp
end Go.Proofs.YtadpibcgjgcjhabGreatDoor
