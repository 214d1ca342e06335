/- Lines, words and numbers: what the console and the document mean by them. -/
import Derived.Lib.ItoaNum
import Derived.Lib.SplitLaws
import Derived.Lib.Join
namespace Go.Proofs.YtadpibcgjgcjhabGreatDoor
open Go.Lib

/-- Words of a line: one blank between. -/
def glue (p : List UInt8) : List (List UInt8) → List (List UInt8)
  | [] => [p]
  | x :: r => (p ++ x) :: r
def wordsL : List UInt8 → List (List UInt8)
  | [] => [[]]
  | b :: l => if b = 32 then [] :: wordsL l else glue [b] (wordsL l)
theorem wordsL_ne (l : List UInt8) : wordsL l ≠ [] := by
  cases l with
  | nil => simp [wordsL]
  | cons b l =>
    unfold wordsL
    split
    · simp
    · cases wordsL l <;> simp [glue]
theorem glue_nil {l : List (List UInt8)} (h : l ≠ []) : glue [] l = l := by cases l <;> simp_all [glue]
theorem glue_glue {p q : List UInt8} {l : List (List UInt8)} : glue p (glue q l) = glue (p ++ q) l := by cases l <;> simp [glue]
theorem glue_length {p : List UInt8} {l : List (List UInt8)} (h : l ≠ []) : (glue p l).length = l.length := by cases l <;> simp_all [glue]
theorem wordsL_length (l : List UInt8) : (wordsL l).length = l.count 32 + 1 := by
  induction l with
  | nil => rfl
  | cons b l ih =>
    unfold wordsL
    split
    · next h => subst h; simp [ih]
    · next h => rw [glue_length (wordsL_ne l), ih, List.count_cons_of_ne (by simpa using fun e => h e)]
theorem index_cons (b : UInt8) (l : List UInt8) (h : b ≠ 32) : index (b :: l) [32] = if index l [32] == -1 then -1 else index l [32] + 1 := by
  have hp : ([32] : List UInt8).isPrefixOf (b :: l) = false := by simp [List.isPrefixOf, Ne.symm h]
  rw [index, hp]
  simp
theorem index_zero (l : List UInt8) : index (32 :: l) [32] = 0 := by rw [index]; simp [List.isPrefixOf]
theorem splitK_words : ∀ s : List UInt8, splitK [32] 0 (s.count 32) s = wordsL s
  | [] => rfl
  | b :: l => by
    have ih := splitK_words l
    by_cases h : b = 32
    · subst h
      rw [List.count_cons_self, splitK, index_zero, if_neg (by decide), wordsL, if_pos rfl, ← ih]
      rfl
    · rw [List.count_cons_of_ne (by simpa using h), wordsL, if_neg h, ← ih]
      cases hc : l.count 32 with
      | zero => rfl
      | succ k =>
        have hne : index l [32] ≠ -1 := fun e => by
          have := count_miss e
          rw [count_one, hc] at this
          omega
        have hge := index_ge l [32]
        obtain ⟨j, hj⟩ : ∃ j : Nat, index l [32] = j := ⟨(index l [32]).toNat, by omega⟩
        have e2 : index (b :: l) [32] = ((j + 1 : Nat) : Int) := by rw [index_cons b l h, if_neg (by simpa using hne), hj]; omega
        rw [splitK, e2, splitK, hj, if_neg (by simp; omega), if_neg (by simp), Int.toNat_natCast, Int.toNat_natCast]
        simp [glue]
theorem splitB_words (s : ByteArray) : (splitB ⟨#[32]⟩ 0 (countB s ⟨#[32]⟩) s).map (·.data.toList) = wordsL s.data.toList := by
  rw [splitB_data, show countB s ⟨#[32]⟩ = s.data.toList.count 32 from count_one 32 _]
  exact splitK_words _
/-- Numbers. -/
def digB (b : UInt8) : Bool := decide (48 ≤ b.toNat) && decide (b.toNat ≤ 57)
def valB (l : List UInt8) : Nat := l.foldl (fun v b => 10 * v + (b.toNat - 48)) 0
theorem valB_snoc (l : List UInt8) (b : UInt8) : valB (l ++ [b]) = 10 * valB l + (b.toNat - 48) := by simp [valB]
def goodW (s : List UInt8) : Bool := match s with
  | [] => false
  | b :: r => !(b == 48 && !(r == []))
def numW (s : List UInt8) : Option Int :=
  if s = [45, 49] then some (-1) else if s.length ≤ 5 ∧ goodW s = true ∧ s.all digB = true then some (valB s : Int) else none
theorem dec_unfold (u : Nat) : decDigits u = if u < 10 then [UInt8.ofNat (48 + u)] else decDigits (u / 10) ++ [UInt8.ofNat (48 + u % 10)] := by
  rw [decDigits]; split <;> rfl
theorem dec_ne (u : Nat) : decDigits u ≠ [] := by rw [dec_unfold]; split <;> simp
theorem dig_back {b : UInt8} (h : digB b = true) : UInt8.ofNat (48 + (b.toNat - 48)) = b := by
  simp [digB] at h
  rw [show 48 + (b.toNat - 48) = b.toNat by omega]
  simp
theorem dec_good (u : Nat) : goodW (decDigits u) = true := by
  induction u using Nat.strongRecOn with
  | ind u ih =>
    rw [dec_unfold]
    split
    · simp [goodW]
    · next h =>
      have := ih (u / 10) (by omega)
      have hne := dec_ne (u / 10)
      by_cases h1 : u / 10 < 10
      · rw [dec_unfold, if_pos h1]
        simp [goodW]
        intro e
        have := congrArg UInt8.toNat e
        simp at this
        omega
      · rw [dec_unfold, if_neg h1] at this ⊢
        have hne2 := dec_ne (u / 10 / 10)
        cases hd : decDigits (u / 10 / 10) with
        | nil => exact absurd hd hne2
        | cons b r =>
          rw [hd] at this
          simp [goodW] at this ⊢
          exact this
theorem val_pos {l : List UInt8} (hg : goodW l = true) (hd : l.all digB = true) (h2 : 2 ≤ l.length) : 1 ≤ valB l := by
  have H : ∀ (r : List UInt8) (v : Nat), v ≤ r.foldl (fun v b => 10 * v + (b.toNat - 48)) v := by
    intro r
    induction r with
    | nil => intro v; exact Nat.le_refl _
    | cons b r ih => intro v; exact Nat.le_trans (show v ≤ 10 * v + (b.toNat - 48) by omega) (ih _)
  cases l with
  | nil => simp at h2
  | cons b r =>
    simp [goodW] at hg
    have hb : b ≠ 48 := fun e => by
      rcases hg with hg | hg
      · exact hg e
      · subst hg
        simp at h2
    simp at hd
    have hb2 := hd.1
    simp [digB] at hb2
    have hb3 : b.toNat ≠ 48 := fun e => hb (by apply UInt8.toNat_inj.1; simpa using e)
    refine Nat.le_trans ?_ (H r _)
    show 1 ≤ 10 * 0 + (b.toNat - 48)
    omega
theorem good_pre {l : List UInt8} {b : UInt8} (h : goodW (l ++ [b]) = true) (hl : l ≠ []) : goodW l = true ∧ (l.length = 1 → l ≠ [48]) := by
  cases l with
  | nil => exact absurd rfl hl
  | cons c r =>
    simp [goodW] at h ⊢
    exact ⟨Or.inl h, fun _ e => absurd e h⟩
theorem dec_val : ∀ (n : Nat) (l : List UInt8), l.length = n → goodW l = true → l.all digB = true → decDigits (valB l) = l := by
  intro n
  induction n with
  | zero => intro l hl hg; cases l <;> simp_all [goodW]
  | succ n ih =>
    intro l hl hg hd
    obtain ⟨r, b, rfl⟩ : ∃ r b, l = r ++ [b] := ⟨l.dropLast, l.getLast (by intro e; subst e; simp at hl), (List.dropLast_concat_getLast _).symm⟩
    rw [valB_snoc]
    simp at hl
    rw [List.all_append] at hd
    simp only [Bool.and_eq_true] at hd
    have hb : digB b = true := by simpa using hd.2
    have hb' := hb
    simp [digB] at hb'
    by_cases hr : r = []
    · subst hr
      rw [dec_unfold, if_pos (by simp [valB]; omega)]
      simp [valB, dig_back hb]
    · obtain ⟨g1, g2⟩ := good_pre hg hr
      have e1 := ih r hl g1 hd.1
      have hp : 1 ≤ valB r := by
        by_cases h2 : 2 ≤ r.length
        · exact val_pos g1 hd.1 h2
        · obtain ⟨c, rfl⟩ : ∃ c, r = [c] := by
            cases r with
            | nil => exact absurd rfl hr
            | cons c t => cases t with
              | nil => exact ⟨c, rfl⟩
              | cons _ _ => simp at h2
          have hc := g2 rfl
          have hc1 : c ≠ 48 := fun e => hc (by rw [e])
          have hc2 : c.toNat ≠ 48 := fun e => hc1 (by apply UInt8.toNat_inj.1; simpa using e)
          have hd1 := hd.1
          simp [digB] at hd1
          simp [valB]
          omega
      rw [dec_unfold, if_neg (by omega), show (10 * valB r + (b.toNat - 48)) / 10 = valB r by omega, show (10 * valB r + (b.toNat - 48)) % 10 = b.toNat - 48 by omega, e1, dig_back hb]
theorem dec_iff {l : List UInt8} (hd : l.all digB = true) : (decDigits (valB l) == l) = goodW l := by
  cases hg : goodW l with
  | true => rw [dec_val _ l rfl hg hd]; simp
  | false =>
    have : ¬ decDigits (valB l) = l := fun e => by
      have := dec_good (valB l)
      rw [e, hg] at this
      cases this
    simpa using this
def kAdd : List UInt8 := [97, 100, 100]
def kScanall : List UInt8 := [115, 99, 97, 110, 97, 108, 108]
def kLeft : List UInt8 := [108, 101, 102, 116]
def kPromised : List UInt8 := [112, 114, 111, 109, 105, 115, 101, 100]
def kGuests : List UInt8 := [103, 117, 101, 115, 116, 115]
def kRemove : List UInt8 := [114, 101, 109, 111, 118, 101]
def kFrame : List UInt8 := [102, 114, 97, 109, 101]
def kPlug : List UInt8 := [112, 108, 117, 103]
def kUnplug : List UInt8 := [117, 110, 112, 108, 117, 103]
def kGive : List UInt8 := [103, 105, 118, 101]
def kBack : List UInt8 := [98, 97, 99, 107]
def kLoad : List UInt8 := [108, 111, 97, 100]
def kRoot : List UInt8 := [114, 111, 111, 116]
def kForget : List UInt8 := [102, 111, 114, 103, 101, 116]
def kDrop : List UInt8 := [100, 114, 111, 112]
def kScan : List UInt8 := [115, 99, 97, 110]
def kPage : List UInt8 := [112, 97, 103, 101]
def kStore : List UInt8 := [115, 116, 111, 114, 101]
/-- How many numbers a command has. -/
def manyL (w : List UInt8) : Option Nat :=
  if w = kAdd then some 0 else
  if w = kScanall then some 0 else
  if w = kLeft then some 0 else
  if w = kPromised then some 0 else
  if w = kGuests then some 0 else
  if w = kRemove then some 1 else
  if w = kFrame then some 1 else
  if w = kPlug then some 2 else
  if w = kUnplug then some 2 else
  if w = kGive then some 2 else
  if w = kBack then some 2 else
  if w = kLoad then some 2 else
  if w = kRoot then some 2 else
  if w = kForget then some 2 else
  if w = kDrop then some 2 else
  if w = kScan then some 2 else
  if w = kPage then some 2 else
  if w = kStore then some 3 else
  none
/-- A line that is one: its command and its numbers. -/
def readL (l : List UInt8) : Option (List UInt8 × List Int) :=
  if 200 < l.length then none else
  match wordsL l with
  | [] => none
  | w :: ws => if manyL w = some ws.length then (match ws.mapM numW with
    | some ns => some (w, ns)
    | none => none) else none
def decF : Nat → Nat → List UInt8
  | 0, _ => []
  | f + 1, u => if u < 10 then [UInt8.ofNat (48 + u)] else decF f (u / 10) ++ [UInt8.ofNat (48 + u % 10)]
theorem decF_eq : ∀ f u, u < f → decF f u = decDigits u
  | 0, _, h => absurd h (Nat.not_lt_zero _)
  | f + 1, u, h => by
    rw [decF, dec_unfold]
    split
    · rfl
    · rw [decF_eq f (u / 10) (by omega)]
def numT (n : Int) : List UInt8 := decF (n.toNat + 1) n.toNat
theorem numT_eq (n : Int) : numT n = decDigits n.toNat := decF_eq _ _ (Nat.lt_succ_self _)
def errT (e : Int) : List UInt8 := [101, 114, 114, 111, 114, 32] ++ numT e
def okT : List UInt8 := [111, 107]
def doneT (e : Int) : List UInt8 := if 0 < e then errT e else okT
def valT (n e : Int) : List UInt8 := if 0 < e then errT e else numT n
def boolT (b : Bool) (e : Int) : List UInt8 := if 0 < e then errT e else if b = true then [116, 114, 117, 101] else [102, 97, 108, 115, 101]
def listT (l : List Int) : List UInt8 := join (l.map numT) [32]
def guestsT (l : List Nat) : List UInt8 := if l = [] then [45] else listT (l.map fun (n : Nat) => (n : Int))
def frameT (o : Int × Int × Int) : List UInt8 := if 0 < o.2.2 then errT o.2.2 else listT [o.1, o.2.1]
end Go.Proofs.YtadpibcgjgcjhabGreatDoor
