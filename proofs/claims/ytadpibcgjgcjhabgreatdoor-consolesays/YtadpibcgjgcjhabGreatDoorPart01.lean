/- Contracts of the library at this program (laid by the kit's command, in plain words; the numbers are this translation's). -/
import Derived.Shelf.Strings.OnBuilder
import Derived.Shelf.Small.Wraps
import Derived.Shelf.LaysM
import Derived.Shelf.Strconv.Itoa3
import Derived.Shelf.Strings.Split
import Derived.Test.YtadpibcgjgcjhabGreatDoorProg
import Derived.Lib.ItoaNum
import Derived.Lib.SplitLaws
import Derived.Lib.Join
namespace Go.Proofs
open Go.Shelf
def Tryz.lays156_ren : Go.Shelf.Ren := ⟨fun | 156 => 75 | 165 => 105 | 166 => 106 | 169 => 107 | 240 => 136 | 241 => 137 | 276 => 170 | 277 => 171 | n => n, fun | 31 => 22 | 9 => 9 | 3 => 3 | 4 => 4 | 0 => 0 | 20 => 20 | 72 => 158 | 76 => 111 | 70 => 156 | 37 => 100 | 75 => 25 | 127 => 181 | 164 => 202 | 5 => 5 | 80 => 122 | n => n, fun | n => n⟩
theorem Tryz.lays156 : Go.Proofs.Lays.n156 Tryz.prog Tryz.lays156_ren := {
  mixed := by kernel_rfl
  f156 := Tryz.func75.trans (congrArg some (by kernel_rfl))
  f165 := Tryz.func105.trans (congrArg some (by kernel_rfl))
  f166 := Tryz.func106.trans (congrArg some (by kernel_rfl))
  f169 := Tryz.func107.trans (congrArg some (by kernel_rfl))
  f240 := Tryz.func136.trans (congrArg some (by kernel_rfl))
  f241 := Tryz.func137.trans (congrArg some (by kernel_rfl))
  f276 := Tryz.func170.trans (congrArg some (by kernel_rfl))
  f277 := Tryz.func171.trans (congrArg some (by kernel_rfl))
  t0 := Tryz.underlying0
  a0 := Tryz.isAgg0
  z0 := Tryz.sizeOf0
  v0 := Tryz.zeroValue0
  t3 := Tryz.underlying3
  a3 := Tryz.isAgg3
  z3 := Tryz.sizeOf3
  v3 := Tryz.zeroValue3
  t4 := Tryz.underlying4
  a4 := Tryz.isAgg4
  z4 := Tryz.sizeOf4
  v4 := Tryz.zeroValue4
  t9 := Tryz.underlying9
  a9 := Tryz.isAgg9
  z9 := Tryz.sizeOf9
  v9 := Tryz.zeroValue9
  t20 := Tryz.underlying20
  a20 := Tryz.isAgg20
  z20 := Tryz.sizeOf20
  v20 := Tryz.zeroValue20
  t31 := Tryz.underlying22
  a31 := Tryz.isAgg22
  z31 := Tryz.sizeOf22
  v31 := Tryz.zeroValue22
  t37 := Tryz.underlying100
  a37 := Tryz.isAgg100
  z37 := Tryz.sizeOf100
  v37 := Tryz.zeroValue100
  t70 := Tryz.underlying156
  a70 := Tryz.isAgg156
  z70 := Tryz.sizeOf156
  v70 := Tryz.zeroValue156
  t72 := Tryz.underlying158
  a72 := Tryz.isAgg158
  z72 := Tryz.sizeOf158
  v72 := Tryz.zeroValue158
  t75 := Tryz.underlying25
  a75 := Tryz.isAgg25
  z75 := Tryz.sizeOf25
  v75 := Tryz.zeroValue25
  t76 := Tryz.underlying111
  a76 := Tryz.isAgg111
  z76 := Tryz.sizeOf111
  v76 := Tryz.zeroValue111
  t127 := Tryz.underlying181
  a127 := Tryz.isAgg181
  z127 := Tryz.sizeOf181
  v127 := Tryz.zeroValue181
  t164 := Tryz.underlying202
  a164 := Tryz.isAgg202
  z164 := Tryz.sizeOf202
  v164 := Tryz.zeroValue202 }
theorem Tryz.Builder_Extra_156 : Builder.Extra Tryz.prog Tryz.lays156_ren := {
  sizeBuilder := by kernel_rfl
  liesBuilder := by kernel_rfl
  t5 := Tryz.underlying5
  a5 := Tryz.isAgg5
  z5 := Tryz.sizeOf5
  v5 := Tryz.zeroValue5
  infoByte := by kernel_rfl
  cellsByte := by kernel_rfl
  sizeByte := by kernel_rfl
  neB5 := by decide }
open Go.RowKit in
/-- No element: the empty string; the world is as it was. (Whatever the slice's address and capacity: a nil slice too.) (LAID: no walk: one application.) -/
theorem Tryz.strings_Join_none (a : Option Addr) (c : Nat) (sep : ByteArray) (w : World) :
    Calls Tryz.prog 75 #[.slice a 0 c, .string sep] w fun e w' => e = .returned (.string ⟨#[]⟩) ∧ w' = w := Any.strings_Join_none Tryz.lays156 Tryz.Builder_Extra_156 a c sep w
open Go.RowKit in
/-- strings.Join: "Join concatenates the elements of its first argument to create a single string. The separator string sep is placed between elements in the resulting string.": HOWEVER MANY ELEMENTS. Below the heap's end the world is as it was. (LAID: no walk: one application.) -/
theorem Tryz.strings_Join (bk o c : Nat) (xs : List ByteArray) (sep : ByteArray) (w : World) (hcells : ∀ (j : Nat) x, xs[j]? = some x → w.cell? ⟨bk, o + j, none⟩ = some (.string x)) (hbk : bk < w.heap.size) (hN : xs.length ≤ 140737488355328) (hcap : xs.length ≤ c) (hlen : (Lib.join (xs.map (·.data.toList)) sep.data.toList).length ≤ 140737488355328) :
    Calls Tryz.prog 75 #[.slice (some ⟨bk, o, none⟩) xs.length c, .string sep] w fun e w' => e = .returned (.string ⟨(Lib.join (xs.map (·.data.toList)) sep.data.toList).toArray⟩) ∧ Below w.heap.size w w' := Any.strings_Join Tryz.lays156 Tryz.Builder_Extra_156 bk o c xs sep w hcells hbk hN hcap hlen
def Tryz.lays121_ren : Go.Shelf.Ren := ⟨fun | 121 => 60 | 214 => 86 | n => n, fun | 4 => 4 | 9 => 9 | n => n, fun | n => n⟩
theorem Tryz.lays121 : Go.Proofs.Lays.n121 Tryz.prog Tryz.lays121_ren := {
  mixed := by kernel_rfl
  f121 := Tryz.func60.trans (congrArg some (by kernel_rfl))
  f214 := Tryz.func86.trans (congrArg some (by kernel_rfl))
  t4 := Tryz.underlying4
  a4 := Tryz.isAgg4
  z4 := Tryz.sizeOf4
  v4 := Tryz.zeroValue4
  t9 := Tryz.underlying9
  a9 := Tryz.isAgg9
  z9 := Tryz.sizeOf9
  v9 := Tryz.zeroValue9 }
open Go.RowKit in
/-- strconv.FormatBool: "FormatBool returns "true" or "false" according to the value of b.": IT RETURNS 'Lib.formatBool b'; the world is as it was. (LAID: no walk: one application.) -/
theorem Tryz.strconv_FormatBool (b : Bool) (w : World) :
    Calls Tryz.prog 60 #[.bool b] w fun e w' => e = .returned (.string ⟨(Lib.formatBool b).toArray⟩) ∧ w' = w := Any.strconv_FormatBool Tryz.lays121 b w
def Tryz.laysM171_ren : Go.Shelf.Ren := ⟨fun | 171 => 74 | 243 => 104 | 246 => 135 | 283 => 166 | 284 => 167 | 285 => 168 | 286 => 169 | 129 => 187 | 317 => 186 | 318 => 188 | 319 => 189 | 320 => 190 | 337 => 198 | 338 => 199 | n => n, fun | 3 => 3 | 9 => 9 | 2 => 2 | 4 => 4 | 171 => 196 | 0 => 0 | 53 => 197 | 37 => 100 | 5 => 5 | 173 => 200 | 212 => 225 | 51 => 221 | 20 => 20 | 213 => 226 | 46 => 195 | 232 => 234 | 233 => 235 | n => n, fun | 17 => 3 | 18 => 4 | 19 => 5 | n => n⟩
theorem Tryz.laysM171 : Go.Proofs.LaysM.n171 Tryz.prog Tryz.laysM171_ren := {
  mixed := by kernel_rfl
  f129 := Tryz.func187.trans (congrArg some (by kernel_rfl))
  f171 := Tryz.func74.trans (congrArg some (by kernel_rfl))
  f243 := Tryz.func104.trans (congrArg some (by kernel_rfl))
  f246 := Tryz.func135.trans (congrArg some (by kernel_rfl))
  f283 := Tryz.func166.trans (congrArg some (by kernel_rfl))
  f284 := Tryz.func167.trans (congrArg some (by kernel_rfl))
  f285 := Tryz.func168.trans (congrArg some (by kernel_rfl))
  f286 := Tryz.func169.trans (congrArg some (by kernel_rfl))
  f317 := Tryz.func186.trans (congrArg some (by kernel_rfl))
  f318 := Tryz.func188.trans (congrArg some (by kernel_rfl))
  f319 := Tryz.func189.trans (congrArg some (by kernel_rfl))
  f320 := Tryz.func190.trans (congrArg some (by kernel_rfl))
  f337 := Tryz.func198.trans (congrArg some (by kernel_rfl))
  f338 := Tryz.func199.trans (congrArg some (by kernel_rfl))
  t0 := Tryz.underlying0
  a0 := Tryz.isAgg0
  z0 := Tryz.sizeOf0
  v0 := Tryz.zeroValue0
  t2 := Tryz.underlying2
  a2 := Tryz.isAgg2
  z2 := Tryz.sizeOf2
  v2 := Tryz.zeroValue2
  t3 := Tryz.underlying3
  a3 := Tryz.isAgg3
  z3 := Tryz.sizeOf3
  v3 := Tryz.zeroValue3
  t4 := Tryz.underlying4
  a4 := Tryz.isAgg4
  z4 := Tryz.sizeOf4
  v4 := Tryz.zeroValue4
  t5 := Tryz.underlying5
  a5 := Tryz.isAgg5
  z5 := Tryz.sizeOf5
  v5 := Tryz.zeroValue5
  t9 := Tryz.underlying9
  a9 := Tryz.isAgg9
  z9 := Tryz.sizeOf9
  v9 := Tryz.zeroValue9
  t20 := Tryz.underlying20
  a20 := Tryz.isAgg20
  z20 := Tryz.sizeOf20
  v20 := Tryz.zeroValue20
  t37 := Tryz.underlying100
  a37 := Tryz.isAgg100
  z37 := Tryz.sizeOf100
  v37 := Tryz.zeroValue100
  t46 := Tryz.underlying195
  a46 := Tryz.isAgg195
  z46 := Tryz.sizeOf195
  v46 := Tryz.zeroValue195
  t51 := Tryz.underlying221
  a51 := Tryz.isAgg221
  z51 := Tryz.sizeOf221
  v51 := Tryz.zeroValue221
  t53 := Tryz.underlying197
  a53 := Tryz.isAgg197
  z53 := Tryz.sizeOf197
  v53 := Tryz.zeroValue197
  t171 := Tryz.underlying196
  a171 := Tryz.isAgg196
  z171 := Tryz.sizeOf196
  v171 := Tryz.zeroValue196
  t173 := Tryz.underlying200
  a173 := Tryz.isAgg200
  z173 := Tryz.sizeOf200
  v173 := Tryz.zeroValue200
  t212 := Tryz.underlying225
  a212 := Tryz.isAgg225
  z212 := Tryz.sizeOf225
  v212 := Tryz.zeroValue225
  t213 := Tryz.underlying226
  a213 := Tryz.isAgg226
  z213 := Tryz.sizeOf226
  t232 := Tryz.underlying234
  a232 := Tryz.isAgg234
  z232 := Tryz.sizeOf234
  v232 := Tryz.zeroValue234
  t233 := Tryz.underlying235
  a233 := Tryz.isAgg235
  z233 := Tryz.sizeOf235
  v233 := Tryz.zeroValue235
  g17 := by kernel_rfl
  g18 := by kernel_rfl
  g19 := by kernel_rfl
  i0 := by kernel_rfl
  i2 := by kernel_rfl
  i3 := by kernel_rfl
  i4 := by kernel_rfl
  i5 := by kernel_rfl
  i9 := by kernel_rfl
  i20 := by kernel_rfl
  i37 := by kernel_rfl
  i46 := by kernel_rfl
  i51 := by kernel_rfl
  i53 := by kernel_rfl
  i171 := by kernel_rfl
  i173 := by kernel_rfl
  i212 := by kernel_rfl
  i232 := by kernel_rfl
  i233 := by kernel_rfl
  m17 := by kernel_rfl
  m18 := by kernel_rfl
  m19 := by kernel_rfl }
open Go.RowKit Go.Sort Go.Lib in
/-- strconv.Itoa: "Itoa is equivalent to FormatInt(int64(i), 10).": i's DECIMAL NUMERAL ('Lib.itoa': a '-' where i is negative, then the digits), FOR EVERY int. The world behind the call: the world before it, new blocks behind the heap (the library's 'var a [24]byte'), draws. (LAID: no walk: one application.) -/
theorem Tryz.strconv_Itoa (n : Int) (h0 : -9223372036854775808 ≤ n) (h1 : n ≤ 9223372036854775807) (w : World) (htab : Lib.TabIs Tryz.prog w "internal/strconv.uint64pow10" .u64 Lib.pow10Tab) :
    Calls Tryz.prog 74 #[.int .i64 n] w fun e w' => e = .returned (.string ⟨(Lib.itoa n).toArray⟩) ∧ ∃ k os, w' = grow (w.drewN k) os := Any.strconv_Itoa Tryz.laysM171 n h0 h1 w htab
def Tryz.lays146_ren : Go.Shelf.Ren := ⟨fun | 146 => 49 | 221 => 73 | 268 => 101 | 138 => 102 | 143 => 103 | 195 => 131 | 197 => 132 | 218 => 133 | 219 => 134 | 260 => 161 | 217 => 162 | 225 => 163 | 224 => 164 | 267 => 165 | 266 => 184 | 314 => 185 | n => n, fun | 9 => 9 | 31 => 22 | 3 => 3 | 4 => 4 | 0 => 0 | 105 => 177 | 21 => 21 | 5 => 5 | 46 => 195 | 119 => 217 | 139 => 220 | 138 => 219 | 146 => 222 | 51 => 221 | n => n, fun | 1 => 0 | 3 => 1 | 4 => 2 | n => n⟩
theorem Tryz.lays146 : Go.Proofs.Lays.n146 Tryz.prog Tryz.lays146_ren := {
  mixed := by kernel_rfl
  f138 := Tryz.func102.trans (congrArg some (by kernel_rfl))
  f143 := Tryz.func103.trans (congrArg some (by kernel_rfl))
  f146 := Tryz.func49.trans (congrArg some (by kernel_rfl))
  f195 := Tryz.func131.trans (congrArg some (by kernel_rfl))
  f197 := Tryz.func132.trans (congrArg some (by kernel_rfl))
  f217 := Tryz.func162.trans (congrArg some (by kernel_rfl))
  f218 := Tryz.func133.trans (congrArg some (by kernel_rfl))
  f219 := Tryz.func134.trans (congrArg some (by kernel_rfl))
  f221 := Tryz.func73.trans (congrArg some (by kernel_rfl))
  f224 := Tryz.func164.trans (congrArg some (by kernel_rfl))
  f225 := Tryz.func163.trans (congrArg some (by kernel_rfl))
  f260 := Tryz.func161.trans (congrArg some (by kernel_rfl))
  f266 := Tryz.func184.trans (congrArg some (by kernel_rfl))
  f267 := Tryz.func165.trans (congrArg some (by kernel_rfl))
  f268 := Tryz.func101.trans (congrArg some (by kernel_rfl))
  f314 := Tryz.func185.trans (congrArg some (by kernel_rfl))
  t0 := Tryz.underlying0
  a0 := Tryz.isAgg0
  z0 := Tryz.sizeOf0
  v0 := Tryz.zeroValue0
  t3 := Tryz.underlying3
  a3 := Tryz.isAgg3
  z3 := Tryz.sizeOf3
  v3 := Tryz.zeroValue3
  t4 := Tryz.underlying4
  a4 := Tryz.isAgg4
  z4 := Tryz.sizeOf4
  v4 := Tryz.zeroValue4
  t5 := Tryz.underlying5
  a5 := Tryz.isAgg5
  z5 := Tryz.sizeOf5
  v5 := Tryz.zeroValue5
  t9 := Tryz.underlying9
  a9 := Tryz.isAgg9
  z9 := Tryz.sizeOf9
  v9 := Tryz.zeroValue9
  t21 := Tryz.underlying21
  a21 := Tryz.isAgg21
  z21 := Tryz.sizeOf21
  v21 := Tryz.zeroValue21
  t31 := Tryz.underlying22
  a31 := Tryz.isAgg22
  z31 := Tryz.sizeOf22
  v31 := Tryz.zeroValue22
  t46 := Tryz.underlying195
  a46 := Tryz.isAgg195
  z46 := Tryz.sizeOf195
  v46 := Tryz.zeroValue195
  t51 := Tryz.underlying221
  a51 := Tryz.isAgg221
  z51 := Tryz.sizeOf221
  v51 := Tryz.zeroValue221
  t105 := Tryz.underlying177
  a105 := Tryz.isAgg177
  z105 := Tryz.sizeOf177
  v105 := Tryz.zeroValue177
  t119 := Tryz.underlying217
  a119 := Tryz.isAgg217
  z119 := Tryz.sizeOf217
  t138 := Tryz.underlying219
  a138 := Tryz.isAgg219
  z138 := Tryz.sizeOf219
  v138 := Tryz.zeroValue219
  t139 := Tryz.underlying220
  a139 := Tryz.isAgg220
  z139 := Tryz.sizeOf220
  v139 := Tryz.zeroValue220
  t146 := Tryz.underlying222
  a146 := Tryz.isAgg222
  z146 := Tryz.sizeOf222
  v146 := Tryz.zeroValue222
  g1 := by kernel_rfl
  g3 := by kernel_rfl
  g4 := by kernel_rfl }
open Go.RowKit Go.Lib in
/-- strings.Split. (LAID: no walk: one application.) -/
theorem Tryz.strings_Split (s sep : ByteArray) (m : Int) (w : World) (hs : s.size < 4294967281) (hm : w.cell? ⟨0, 0, none⟩ = some (.int .i64 m)) (h1 : 1 ≤ sep.size) :
    Calls Tryz.prog 49 #[.string s, .string sep] w fun e w' =>
      e = .returned (.slice (some ⟨w.heap.size, 0, none⟩) (Lib.countB s sep + 1) (Lib.countB s sep + 1)) ∧ w' = w.alloc (.cells ((Lib.splitB sep 0 (Lib.countB s sep) s).map Value.string).toArray 9) := Any.strings_Split Tryz.lays146 (by kernel_rfl) s sep m w hs hm h1
end Go.Proofs
/- Lines, words and numbers: what the console and the document mean by them. -/
namespace Go.Proofs.YtadpibcgjgcjhabGreatDoor
open Go.Lib

/-- Words of a line: one blank between. -/
def glue (p : List UInt8) : List (List UInt8) → List (List UInt8)
  | [] => [p]
  | x :: r => (p ++ x) :: r
def wordsL : List UInt8 → List (List UInt8)
  | [] => [[]]
  | b :: l => if b = 32 then [] :: wordsL l else glue [b] (wordsL l)
theorem wordsL_ne (l : List UInt8) : wordsL l ≠ [] := by
  cases l with
  | nil => simp [wordsL]
  | cons b l =>
    unfold wordsL
    split
    · simp
    · cases wordsL l <;> simp [glue]
theorem glue_nil {l : List (List UInt8)} (h : l ≠ []) : glue [] l = l := by cases l <;> simp_all [glue]
theorem glue_glue {p q : List UInt8} {l : List (List UInt8)} : glue p (glue q l) = glue (p ++ q) l := by cases l <;> simp [glue]
theorem glue_length {p : List UInt8} {l : List (List UInt8)} (h : l ≠ []) : (glue p l).length = l.length := by cases l <;> simp_all [glue]
theorem wordsL_length (l : List UInt8) : (wordsL l).length = l.count 32 + 1 := by
  induction l with
  | nil => rfl
  | cons b l ih =>
    unfold wordsL
    split
    · next h => subst h; simp [ih]
    · next h => rw [glue_length (wordsL_ne l), ih, List.count_cons_of_ne (by simpa using fun e => h e)]
theorem index_cons (b : UInt8) (l : List UInt8) (h : b ≠ 32) : index (b :: l) [32] = if index l [32] == -1 then -1 else index l [32] + 1 := by
  have hp : ([32] : List UInt8).isPrefixOf (b :: l) = false := by simp [List.isPrefixOf, Ne.symm h]
  rw [index, hp]
  simp
theorem index_zero (l : List UInt8) : index (32 :: l) [32] = 0 := by rw [index]; simp [List.isPrefixOf]
theorem splitK_words : ∀ s : List UInt8, splitK [32] 0 (s.count 32) s = wordsL s
  | [] => rfl
  | b :: l => by
    have ih := splitK_words l
    by_cases h : b = 32
    · subst h
      rw [List.count_cons_self, splitK, index_zero, if_neg (by decide), wordsL, if_pos rfl, ← ih]
      rfl
    · rw [List.count_cons_of_ne (by simpa using h), wordsL, if_neg h, ← ih]
      cases hc : l.count 32 with
      | zero => rfl
      | succ k =>
        have hne : index l [32] ≠ -1 := fun e => by
          have := count_miss e
          rw [count_one, hc] at this
          omega
        have hge := index_ge l [32]
        obtain ⟨j, hj⟩ : ∃ j : Nat, index l [32] = j := ⟨(index l [32]).toNat, by omega⟩
        have e2 : index (b :: l) [32] = ((j + 1 : Nat) : Int) := by rw [index_cons b l h, if_neg (by simpa using hne), hj]; omega
        rw [splitK, e2, splitK, hj, if_neg (by simp; omega), if_neg (by simp), Int.toNat_natCast, Int.toNat_natCast]
        simp [glue]
theorem splitB_words (s : ByteArray) : (splitB ⟨#[32]⟩ 0 (countB s ⟨#[32]⟩) s).map (·.data.toList) = wordsL s.data.toList := by
  rw [splitB_data, show countB s ⟨#[32]⟩ = s.data.toList.count 32 from count_one 32 _]
  exact splitK_words _
/-- Numbers. -/
def digB (b : UInt8) : Bool := decide (48 ≤ b.toNat) && decide (b.toNat ≤ 57)
def valB (l : List UInt8) : Nat := l.foldl (fun v b => 10 * v + (b.toNat - 48)) 0
theorem valB_snoc (l : List UInt8) (b : UInt8) : valB (l ++ [b]) = 10 * valB l + (b.toNat - 48) := by simp [valB]
def goodW (s : List UInt8) : Bool := match s with
  | [] => false
  | b :: r => !(b == 48 && !(r == []))
def numW (s : List UInt8) : Option Int :=
  if s = [45, 49] then some (-1) else if s.length ≤ 5 ∧ goodW s = true ∧ s.all digB = true then some (valB s : Int) else none
theorem dec_unfold (u : Nat) : decDigits u = if u < 10 then [UInt8.ofNat (48 + u)] else decDigits (u / 10) ++ [UInt8.ofNat (48 + u % 10)] := by
  rw [decDigits]; split <;> rfl
theorem dec_ne (u : Nat) : decDigits u ≠ [] := by rw [dec_unfold]; split <;> simp
theorem dig_back {b : UInt8} (h : digB b = true) : UInt8.ofNat (48 + (b.toNat - 48)) = b := by
  simp [digB] at h
  rw [show 48 + (b.toNat - 48) = b.toNat by omega]
  simp
theorem dec_good (u : Nat) : goodW (decDigits u) = true := by
  induction u using Nat.strongRecOn with
  | ind u ih =>
    rw [dec_unfold]
    split
    · simp [goodW]
    · next h =>
      have := ih (u / 10) (by omega)
      have hne := dec_ne (u / 10)
      by_cases h1 : u / 10 < 10
      · rw [dec_unfold, if_pos h1]
        simp [goodW]
        intro e
        have := congrArg UInt8.toNat e
        simp at this
        omega
      · rw [dec_unfold, if_neg h1] at this ⊢
        have hne2 := dec_ne (u / 10 / 10)
        cases hd : decDigits (u / 10 / 10) with
        | nil => exact absurd hd hne2
        | cons b r =>
          rw [hd] at this
          simp [goodW] at this ⊢
          exact this
theorem val_pos {l : List UInt8} (hg : goodW l = true) (hd : l.all digB = true) (h2 : 2 ≤ l.length) : 1 ≤ valB l := by
  have H : ∀ (r : List UInt8) (v : Nat), v ≤ r.foldl (fun v b => 10 * v + (b.toNat - 48)) v := by
    intro r
    induction r with
    | nil => intro v; exact Nat.le_refl _
    | cons b r ih => intro v; exact Nat.le_trans (show v ≤ 10 * v + (b.toNat - 48) by omega) (ih _)
  cases l with
  | nil => simp at h2
  | cons b r =>
    simp [goodW] at hg
    have hb : b ≠ 48 := fun e => by
      rcases hg with hg | hg
      · exact hg e
      · subst hg
        simp at h2
    simp at hd
    have hb2 := hd.1
    simp [digB] at hb2
    have hb3 : b.toNat ≠ 48 := fun e => hb (by apply UInt8.toNat_inj.1; simpa using e)
    refine Nat.le_trans ?_ (H r _)
    show 1 ≤ 10 * 0 + (b.toNat - 48)
    omega
theorem good_pre {l : List UInt8} {b : UInt8} (h : goodW (l ++ [b]) = true) (hl : l ≠ []) : goodW l = true ∧ (l.length = 1 → l ≠ [48]) := by
  cases l with
  | nil => exact absurd rfl hl
  | cons c r =>
    simp [goodW] at h ⊢
    exact ⟨Or.inl h, fun _ e => absurd e h⟩
theorem dec_val : ∀ (n : Nat) (l : List UInt8), l.length = n → goodW l = true → l.all digB = true → decDigits (valB l) = l := by
  intro n
  induction n with
  | zero => intro l hl hg; cases l <;> simp_all [goodW]
  | succ n ih =>
    intro l hl hg hd
    obtain ⟨r, b, rfl⟩ : ∃ r b, l = r ++ [b] := ⟨l.dropLast, l.getLast (by intro e; subst e; simp at hl), (List.dropLast_concat_getLast _).symm⟩
    rw [valB_snoc]
    simp at hl
    rw [List.all_append] at hd
    simp only [Bool.and_eq_true] at hd
    have hb : digB b = true := by simpa using hd.2
    have hb' := hb
    simp [digB] at hb'
    by_cases hr : r = []
    · subst hr
      rw [dec_unfold, if_pos (by simp [valB]; omega)]
      simp [valB, dig_back hb]
    · obtain ⟨g1, g2⟩ := good_pre hg hr
      have e1 := ih r hl g1 hd.1
      have hp : 1 ≤ valB r := by
        by_cases h2 : 2 ≤ r.length
        · exact val_pos g1 hd.1 h2
        · obtain ⟨c, rfl⟩ : ∃ c, r = [c] := by
            cases r with
            | nil => exact absurd rfl hr
            | cons c t => cases t with
              | nil => exact ⟨c, rfl⟩
              | cons _ _ => simp at h2
          have hc := g2 rfl
          have hc1 : c ≠ 48 := fun e => hc (by rw [e])
          have hc2 : c.toNat ≠ 48 := fun e => hc1 (by apply UInt8.toNat_inj.1; simpa using e)
          have hd1 := hd.1
          simp [digB] at hd1
          simp [valB]
          omega
      rw [dec_unfold, if_neg (by omega), show (10 * valB r + (b.toNat - 48)) / 10 = valB r by omega, show (10 * valB r + (b.toNat - 48)) % 10 = b.toNat - 48 by omega, e1, dig_back hb]
theorem dec_iff {l : List UInt8} (hd : l.all digB = true) : (decDigits (valB l) == l) = goodW l := by
  cases hg : goodW l with
  | true => rw [dec_val _ l rfl hg hd]; simp
  | false =>
    have : ¬ decDigits (valB l) = l := fun e => by
      have := dec_good (valB l)
      rw [e, hg] at this
      cases this
    simpa using this
def kAdd : List UInt8 := [97, 100, 100]
def kScanall : List UInt8 := [115, 99, 97, 110, 97, 108, 108]
def kLeft : List UInt8 := [108, 101, 102, 116]
def kPromised : List UInt8 := [112, 114, 111, 109, 105, 115, 101, 100]
def kGuests : List UInt8 := [103, 117, 101, 115, 116, 115]
def kRemove : List UInt8 := [114, 101, 109, 111, 118, 101]
def kFrame : List UInt8 := [102, 114, 97, 109, 101]
def kPlug : List UInt8 := [112, 108, 117, 103]
def kUnplug : List UInt8 := [117, 110, 112, 108, 117, 103]
def kGive : List UInt8 := [103, 105, 118, 101]
def kBack : List UInt8 := [98, 97, 99, 107]
def kLoad : List UInt8 := [108, 111, 97, 100]
def kRoot : List UInt8 := [114, 111, 111, 116]
def kForget : List UInt8 := [102, 111, 114, 103, 101, 116]
def kDrop : List UInt8 := [100, 114, 111, 112]
def kScan : List UInt8 := [115, 99, 97, 110]
def kPage : List UInt8 := [112, 97, 103, 101]
def kStore : List UInt8 := [115, 116, 111, 114, 101]
/-- How many numbers a command has. -/
def manyL (w : List UInt8) : Option Nat :=
  if w = kAdd then some 0 else
  if w = kScanall then some 0 else
  if w = kLeft then some 0 else
  if w = kPromised then some 0 else
  if w = kGuests then some 0 else
  if w = kRemove then some 1 else
  if w = kFrame then some 1 else
  if w = kPlug then some 2 else
  if w = kUnplug then some 2 else
  if w = kGive then some 2 else
  if w = kBack then some 2 else
  if w = kLoad then some 2 else
  if w = kRoot then some 2 else
  if w = kForget then some 2 else
  if w = kDrop then some 2 else
  if w = kScan then some 2 else
  if w = kPage then some 2 else
  if w = kStore then some 3 else
  none
/-- A line that is one: its command and its numbers. -/
def readL (l : List UInt8) : Option (List UInt8 × List Int) :=
  if 200 < l.length then none else
  match wordsL l with
  | [] => none
  | w :: ws => if manyL w = some ws.length then (match ws.mapM numW with
    | some ns => some (w, ns)
    | none => none) else none
def decF : Nat → Nat → List UInt8
  | 0, _ => []
  | f + 1, u => if u < 10 then [UInt8.ofNat (48 + u)] else decF f (u / 10) ++ [UInt8.ofNat (48 + u % 10)]
theorem decF_eq : ∀ f u, u < f → decF f u = decDigits u
  | 0, _, h => absurd h (Nat.not_lt_zero _)
  | f + 1, u, h => by
    rw [decF, dec_unfold]
    split
    · rfl
    · rw [decF_eq f (u / 10) (by omega)]
def numT (n : Int) : List UInt8 := decF (n.toNat + 1) n.toNat
theorem numT_eq (n : Int) : numT n = decDigits n.toNat := decF_eq _ _ (Nat.lt_succ_self _)
def errT (e : Int) : List UInt8 := [101, 114, 114, 111, 114, 32] ++ numT e
def okT : List UInt8 := [111, 107]
def doneT (e : Int) : List UInt8 := if 0 < e then errT e else okT
def valT (n e : Int) : List UInt8 := if 0 < e then errT e else numT n
def boolT (b : Bool) (e : Int) : List UInt8 := if 0 < e then errT e else if b = true then [116, 114, 117, 101] else [102, 97, 108, 115, 101]
def listT (l : List Int) : List UInt8 := join (l.map numT) [32]
def guestsT (l : List Nat) : List UInt8 := if l = [] then [45] else listT (l.map fun (n : Nat) => (n : Int))
def frameT (o : Int × Int × Int) : List UInt8 := if 0 < o.2.2 then errT o.2.2 else listT [o.1, o.2.1]
end Go.Proofs.YtadpibcgjgcjhabGreatDoor
