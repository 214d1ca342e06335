/- Entries, plainly: no two have the same root and page; the program's ways and the document's are one. -/
import Derived.Test.YtehdddmpjimfhaaCkG
namespace Go.Proofs.Ytehdddmpjimfhaa

def KeyNe (a b : En) : Prop := ¬ (a.root = b.root ∧ a.page = b.page)
def Dist (es : List En) : Prop := es.Pairwise KeyNe
theorem isAt_iff (r p : Int) (e : En) : isAt r p e = true ↔ e.root = r ∧ e.page = p := by simp [isAt]
theorem isAt_false (r p : Int) (e : En) : isAt r p e = false ↔ ¬ (e.root = r ∧ e.page = p) := by
  rw [← isAt_iff, Bool.not_eq_true]
theorem atE_mem {es : List En} {i : Nat} (h : i < es.length) : atE es i ∈ es := by
  simp [atE, List.getD_eq_getElem?_getD, h]
theorem atE_get {es : List En} {i : Nat} (h : i < es.length) : atE es i = es[i] := by
  simp [atE, List.getD_eq_getElem?_getD, h]
theorem mem_flt {p : En → Bool} {es : List En} {x : En} : x ∈ flt p es ↔ x ∈ es ∧ p x = false := by
  simp [flt]
theorem dist_nil : Dist [] := List.Pairwise.nil
theorem dist_flt {es : List En} (h : Dist es) (p : En → Bool) : Dist (flt p es) := List.Pairwise.filter _ h
theorem cut1_sub (l : List En) : List.Sublist (cut1 l) l := by
  unfold cut1
  split
  · exact List.filter_sublist
  · exact List.Sublist.refl _
theorem putK_le (es : List En) (x : En) (h : es.length ≤ 4) : (putK es x).length ≤ 4 := by
  have h1 := flt_length (isAt x.root x.page) es
  have h2 := cut1_length (flt (isAt x.root x.page) es) (by omega)
  unfold putK
  simp; omega
theorem dist_putK {es : List En} (h : Dist es) (x : En) : Dist (putK es x) := by
  unfold Dist putK
  rw [List.pairwise_append]
  refine ⟨List.Pairwise.sublist (cut1_sub _) (dist_flt h _), List.pairwise_singleton _ _, fun a ha b hb => ?_⟩
  rw [List.mem_singleton] at hb
  subst hb
  have := (mem_flt.1 ((cut1_sub _).subset ha)).2
  exact (isAt_false _ _ _).1 this
theorem idx_self {es : List En} (h : Dist es) {i : Nat} (hi : i < es.length) : idxP (isAt (atE es i).root (atE es i).page) es = i := by
  refine idxP_some hi ((isAt_iff _ _ _).2 ⟨rfl, rfl⟩) (fun j hj => (isAt_false _ _ _).2 ?_)
  have := List.pairwise_iff_getElem.1 h j i (by omega) hi hj
  rw [atE_get hi, atE_get (show j < es.length by omega)]
  exact this
theorem atE_last (l : List En) (x : En) : atE (l ++ [x]) l.length = x := by simp [atE, List.getD_eq_getElem?_getD]
theorem idx_put {es : List En} (h : Dist es) (x : En) : idxP (isAt x.root x.page) (putK es x) = (cut1 (flt (isAt x.root x.page) es)).length ∧ (cut1 (flt (isAt x.root x.page) es)).length < (putK es x).length ∧ atE (putK es x) (cut1 (flt (isAt x.root x.page) es)).length = x := by
  have h1 := dist_putK h x
  have hlt : (cut1 (flt (isAt x.root x.page) es)).length < (putK es x).length := by unfold putK; simp
  have ex : atE (putK es x) (cut1 (flt (isAt x.root x.page) es)).length = x := atE_last _ _
  have := idx_self h1 hlt
  rw [ex] at this
  exact ⟨this, hlt, ex⟩
theorem idx_drop (es : List En) (r p : Int) : idxP (isAt r p) (flt (isAt r p) es) = -1 :=
  idxP_none (fun _ hi => (mem_flt.1 (atE_mem hi)).2)
theorem forget_root {es : List En} {r : Int} {i : Nat} (h : i < (flt (fun x => x.root == r) es).length) : ((atE (flt (fun x => x.root == r) es) i).root == r) = false := (mem_flt.1 (atE_mem h)).2
theorem fndI_idx (es : List En) (r p : Int) : fndI es r p = idxP (isAt r p) es := rfl
/-- Of the first k, by a test of the place that is a test of the entry. -/
theorem keepTo_flt (P : Nat → Bool) (p : En → Bool) (es : List En) (h : ∀ i, i < es.length → P i = !p (atE es i)) : ∀ k, k ≤ es.length → keepTo P es k = fltTo p es k
  | 0, _ => by simp [keepTo, fltTo]
  | k + 1, hk => by
    rw [fltTo_succ p es k (by omega)]
    unfold keepTo
    rw [keepTo_flt P p es h k (by omega), h k (by omega)]
    cases p (atE es k) <;> simp
theorem keep_drop {es : List En} (h : Dist es) (r p : Int) : keepTo (fun i => (i : Int) != fndI es r p) es es.length = flt (isAt r p) es := by
  rw [← fltTo_all, keepTo_flt _ (isAt r p) es (fun i hi => ?_) es.length (Nat.le_refl _)]
  rw [fndI_idx]
  rcases idxP_cases (isAt r p) es with ⟨k, hk, ek, hp, hb⟩ | ⟨ek, hb⟩
  · rw [ek]
    by_cases e : i = k
    · subst e; rw [hp]; simp
    · have hq : isAt r p (atE es i) = false := by
        refine (isAt_false _ _ _).2 (fun hh => ?_)
        have hpk := (isAt_iff _ _ _).1 hp
        rcases Nat.lt_or_ge i k with hlt | hge
        · have := List.pairwise_iff_getElem.1 h i k hi hk hlt
          rw [← atE_get hi, ← atE_get hk] at this
          exact this ⟨hh.1.trans hpk.1.symm, hh.2.trans hpk.2.symm⟩
        · have := List.pairwise_iff_getElem.1 h k i hk hi (by omega)
          rw [← atE_get hi, ← atE_get hk] at this
          exact this ⟨hpk.1.trans hh.1.symm, hpk.2.trans hh.2.symm⟩
      rw [hq]
      simp; omega
  · rw [ek, hb i hi]
    simp
theorem keep_forget (es : List En) (r : Int) : keepTo (fun i => (atE es i).root != r) es es.length = flt (fun x => x.root == r) es := by
  rw [← fltTo_all, keepTo_flt (fun i => (atE es i).root != r) (fun x => x.root == r) es (fun i hi => rfl) es.length (Nat.le_refl _)]
theorem drop_said (es : List En) (r p : Int) : decide ((0 : Int) < ((es.length - (flt (isAt r p) es).length : Nat) : Int)) = decide (0 ≤ fndI es r p) := by
  rw [fndI_idx]
  have hfl := flt_length (isAt r p) es
  rcases idxP_cases (isAt r p) es with ⟨k, hk, ek, hp, hb⟩ | ⟨ek, hb⟩
  · rw [ek]
    have : (flt (isAt r p) es).length < es.length := by
      unfold flt
      rcases Nat.lt_or_ge (es.filter fun e => !isAt r p e).length es.length with g | g
      · exact g
      · exfalso
        have e1 := List.Sublist.eq_of_length_le (List.filter_sublist (p := fun e => !isAt r p e) (l := es)) g
        have := (List.filter_eq_self.1 e1) (atE es k) (atE_mem hk)
        rw [hp] at this
        simp at this
    simp; omega
  · rw [ek]
    have : flt (isAt r p) es = es := by
      unfold flt
      rw [List.filter_eq_self]
      intro x hx
      obtain ⟨i, hi, rfl⟩ := List.getElem_of_mem hx
      have := hb i hi
      rw [atE_get hi] at this
      rw [this]; rfl
    rw [this]
    simp
theorem cut1_tail {l : List En} (h : Dist l) (h4 : l.length = 4) (x : En) : keepTo (fun i => (i : Int) != 0) (l ++ [x]) (l ++ [x]).length = cut1 l ++ [x] := by
  rcases l with _ | ⟨a, l⟩
  · simp at h4
  · have h2 : cut1 (a :: l) = l := by
      unfold cut1
      rw [if_pos h4]
      have ha : atE (a :: l) 0 = a := rfl
      rw [ha]
      unfold flt
      rw [List.filter_cons_of_neg (by rw [(isAt_iff a.root a.page a).2 ⟨rfl, rfl⟩]; simp), List.filter_eq_self]
      intro y hy
      have := (List.pairwise_cons.1 h).1 y hy
      rw [(isAt_false _ _ _).2 (fun e => this ⟨e.1.symm, e.2.symm⟩)]; rfl
    rw [h2]
    have aux : ∀ (m : List En) (k : Nat), k ≤ m.length → keepTo (fun i => (i : Int) != 0) (a :: m) (k + 1) = m.take k := by
      intro m k
      induction k with
      | zero => intro _; simp [keepTo]
      | succ k ih =>
        intro hk
        unfold keepTo
        rw [ih (by omega), List.take_add_one, List.getElem?_eq_getElem (by omega)]
        have : (((k + 1 : Nat) : Int) != 0) = true := by simp; omega
        rw [this]
        have e2 : atE (a :: m) (k + 1) = m[k] := by simp [atE, List.getD_eq_getElem?_getD, List.getElem?_eq_getElem (show k < m.length by omega)]
        simp [e2]
    have := aux (l ++ [x]) (l ++ [x]).length (Nat.le_refl _)
    rw [List.take_length] at this
    exact this
theorem put_same {es : List En} (h : Dist es) (h4 : es.length ≤ 4) (x : En) : putC es x = putK es x := by
  unfold putC putK
  simp only
  rw [keep_drop h]
  have hd := dist_flt h (isAt x.root x.page)
  have hl := flt_length (isAt x.root x.page) es
  generalize flt (isAt x.root x.page) es = l at *
  by_cases e : l.length = 4
  · rw [if_pos (by simp; omega)]
    exact cut1_tail hd e x
  · rw [if_neg (by simp; omega)]
    unfold cut1
    rw [if_neg e]
theorem pnt_key (d : Int) (l : Lf) (e : En) : (pnt d l e).root = e.root ∧ (pnt d l e).page = e.page := by unfold pnt; split <;> exact ⟨rfl, rfl⟩
theorem pntTo_map (d : Int) (l : Lf) (es : List En) : ∀ k, k ≤ es.length → pntTo d l es k = (es.take k).map (pnt d l)
  | 0, _ => by simp [pntTo]
  | k + 1, h => by
    unfold pntTo
    rw [pntTo_map d l es k (by omega), take_succ_atE es k (by omega)]
    simp
theorem dist_point {es : List En} (h : Dist es) (d : Int) (l : Lf) : Dist (pntTo d l es es.length) := by
  rw [pntTo_map d l es es.length (Nat.le_refl _), List.take_length]
  unfold Dist
  rw [List.pairwise_map]
  refine List.Pairwise.imp (fun {a b} hab => ?_) h
  unfold KeyNe
  rw [(pnt_key d l a).1, (pnt_key d l a).2, (pnt_key d l b).1, (pnt_key d l b).2]
  exact hab
end Go.Proofs.Ytehdddmpjimfhaa
