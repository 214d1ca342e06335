/- No frame is wanting: as many pages are in frames as the frames' numbers say together. -/
import Derived.Test.YtadpibcgjgcjhabGreatDoorHoB
namespace Go.Proofs.YtadpibcgjgcjhabGreatDoor
open Go.RowKit

/-- Pages of the first k that are in a frame. -/
def thr (L : Nat → Lf) : Nat → Nat
  | 0 => 0
  | k + 1 => thr L k + if (L k).there = true then 1 else 0
def totTo (a : Nat → Nat) : Nat → Nat
  | 0 => 0
  | n + 1 => totTo a n + a n
/-- Plain ones of the first k. -/
def pln (S : Nat → Int) : Nat → Nat
  | 0 => 0
  | k + 1 => pln S k + if S k = 1 then 1 else 0
theorem totTo_add (a b : Nat → Nat) : ∀ n, totTo (fun f => a f + b f) n = totTo a n + totTo b n
  | 0 => rfl
  | n + 1 => by
    have := totTo_add a b n
    simp only [totTo] at *
    omega
theorem totTo_zero (a : Nat → Nat) : ∀ n, (∀ f, f < n → a f = 0) → totTo a n = 0
  | 0, _ => rfl
  | n + 1, h => by
    have h1 := totTo_zero a n (fun f hf => h f (by omega))
    have h2 := h n (by omega)
    simp only [totTo]
    omega
theorem sum_in (l : Lf) : ∀ n : Nat, (l.there = true → 0 ≤ l.fr ∧ l.fr < n) → totTo (fun f => inIn l f) n = if l.there = true then 1 else 0
  | 0, h => by
    cases ht : l.there with
    | false => simp [totTo]
    | true => have := h ht; omega
  | n + 1, h => by
    by_cases e : l.there = true ∧ l.fr = (n : Int)
    · have hz : totTo (fun f => inIn l f) n = 0 := totTo_zero _ n (fun f hf => by
        unfold inIn
        rw [if_neg]
        rintro ⟨_, e2⟩
        omega)
      have h1 : inIn l (n : Int) = 1 := by unfold inIn; rw [if_pos e]
      simp only [totTo]
      rw [hz, h1, if_pos e.1]
    · have h1 : inIn l (n : Int) = 0 := by unfold inIn; rw [if_neg e]
      have := sum_in l n (fun ht => by
        obtain ⟨a, b⟩ := h ht
        have : l.fr ≠ (n : Int) := fun e2 => e ⟨ht, e2⟩
        omega)
      simp only [totTo]
      rw [this, h1]
      rfl
theorem sum_cnt (L : Nat → Lf) (n : Nat) : ∀ K, (∀ k, k < K → (L k).there = true → 0 ≤ (L k).fr ∧ (L k).fr < n) → totTo (fun f => cntTo L f K) n = thr L K
  | 0, _ => totTo_zero _ _ (fun _ _ => rfl)
  | K + 1, h => by
    have h1 := sum_cnt L n K (fun k hk => h k (by omega))
    have h2 := sum_in (L K) n (h K (by omega))
    have h3 := totTo_add (fun f => cntTo L f K) (fun f => inIn (L K) f) n
    have h4 : (fun f : Nat => cntTo L f (K + 1)) = fun f : Nat => cntTo L f K + inIn (L K) f := by funext f; rfl
    rw [h4, h3, h1, h2]
    rfl
theorem totTo_ge (a : Nat → Nat) : ∀ n, (∀ f, f < n → 1 ≤ a f) → n ≤ totTo a n
  | 0, _ => Nat.le_refl _
  | n + 1, h => by
    have h1 := totTo_ge a n (fun f hf => h f (by omega))
    have h2 := h n (by omega)
    simp only [totTo]
    omega
theorem totTo_gt (a : Nat → Nat) (p : Nat) (hp : 2 ≤ a p) : ∀ n, p < n → (∀ f, f < n → 1 ≤ a f) → n + 1 ≤ totTo a n
  | 0, h, _ => absurd h (by omega)
  | n + 1, h, g => by
    simp only [totTo]
    by_cases e : n = p
    · subst e
      have := totTo_ge a n (fun f hf => g f (by omega))
      omega
    · have := totTo_gt a p hp n (by omega) (fun f hf => g f (by omega))
      have := g n (by omega)
      omega
theorem thr_pln (L : Nat → Lf) (S : Nat → Int) : ∀ K, (∀ k, k < K → (L k).there = true → S k = 1) → thr L K ≤ pln S K
  | 0, _ => Nat.le_refl _
  | K + 1, h => by
    have h1 := thr_pln L S K (fun k hk => h k (by omega))
    have h2 := h K (by omega)
    simp only [thr, pln]
    by_cases ht : (L K).there = true
    · rw [if_pos ht, if_pos (h2 ht)]; omega
    · rw [if_neg ht]; omega
theorem thr_pln_lt (L : Nat → Lf) (S : Nat → Int) (p : Nat) (hs : S p = 1) (ht : (L p).there = false) : ∀ K, p < K → (∀ k, k < K → (L k).there = true → S k = 1) → thr L K + 1 ≤ pln S K
  | 0, h, _ => absurd h (by omega)
  | K + 1, h, g => by
    simp only [thr, pln]
    by_cases e : K = p
    · subst e
      have := thr_pln L S K (fun k hk => g k (by omega))
      rw [if_pos hs, ht]
      simp
      omega
    · have h1 := thr_pln_lt L S p hs ht K (by omega) (fun k hk => g k (by omega))
      have h2 := g K (by omega)
      by_cases ht : (L K).there = true
      · rw [if_pos ht, if_pos (h2 ht)]; omega
      · rw [if_neg ht]; omega
/-- A frame is free for a page that wants one. -/
theorem no_want {s : Pl} {L : Nat → Lf} {S : Nat → Int} (c : Cn s L) (hp : ∀ k, k < 64 → (L k).there = true → S k = 1) (hn : pln S 64 ≤ s.n) {p : Nat} (hp64 : p < 64) (hs : S p = 1) (hw : (L p).there = false ∨ s.refs (L p).fr.toNat ≠ 1) : ∃ j, firstFrom s.refs 0 s.n = some j := by
  cases hff : firstFrom s.refs 0 s.n with
  | some j => exact ⟨j, rfl⟩
  | none =>
    exfalso
    have hsp := firstFrom_spec s.refs s.n 0
    rw [hff] at hsp
    have hall : ∀ f, f < s.n → 1 ≤ cntTo L f 64 := fun f hf => by
      have h1 := hsp f (by omega) (by omega)
      have h2 := c.cnt f hf
      omega
    have hsum := sum_cnt L s.n 64 c.rng
    have hge := totTo_ge (fun f => cntTo L f 64) s.n hall
    cases ht : (L p).there with
    | false =>
      have := thr_pln_lt L S p hs ht 64 hp64 hp
      omega
    | true =>
      rw [ht] at hw
      have hr : s.refs (L p).fr.toNat ≠ 1 := by
        rcases hw with h | h
        · simp at h
        · exact h
      have h1 := c.pos hp64 ht
      obtain ⟨f0, f1⟩ := c.rng p hp64 ht
      have h2 := c.cnt (L p).fr.toNat (by omega)
      have h3 : 2 ≤ cntTo L (((L p).fr.toNat : Nat) : Int) 64 := by omega
      have := totTo_gt (fun f => cntTo L f 64) (L p).fr.toNat h3 s.n (by omega) hall
      have := thr_pln L S 64 hp
      omega
/-- A plain page is touched: never is a frame wanting. -/
theorem touch_some {s : Pl} {m : Mp} {L : Nat → Lf} {S : Nat → Int} (c : Cn s L) (hp : ∀ k, k < 64 → (L k).there = true → S k = 1) (hn : pln S 64 ≤ s.n) {p k : Nat} (hp64 : p < 64) (hk : k < 16) (hL : L p = m.lf k) (hS : S p = m.st k) (hs : m.st k = 1) (wt : Bool) : (touchR s m k wt).1.2.2 = 0 := by
  have ho : onB (k : Int) = true := (onB_iff _).2 ⟨by omega, by omega⟩
  unfold touchR
  simp only [ho, if_true, Int.toNat_natCast, hs, show ¬ ((1 : Int) = 0) by omega, show ¬ ((1 : Int) = 2) by omega, if_false]
  split
  · rfl
  · split
    · rfl
    · rename_i hb
      have hw : (L p).there = false ∨ s.refs (L p).fr.toNat ≠ 1 := by
        rw [hL]
        cases ht : (m.lf k).there with
        | false => exact Or.inl rfl
        | true => exact Or.inr (fun e => hb (by simp [ht, e]))
      obtain ⟨j, hj⟩ := no_want c hp hn hp64 (hS.trans hs) hw
      rw [take_some hj]
      simp
end Go.Proofs.YtadpibcgjgcjhabGreatDoor
