/- The law's flat memory: Turn. -/
import Derived.Test.YtadpibcgjgcjhaaGreatPart23
import Derived.Test.YtadpibcgjgcjhaaGreatPart24
namespace Go.Proofs.YtadpibcgjgcjhaaGreat
open Go.ChangeShapes Go.WideShapes Go.ChangeAt Go.RowKit
set_option maxRecDepth 100000
attribute [local go_sem ↓] Go.wp_at_zero Go.wp_at_succ
variable {w w' : World} {v v' : Value} {es : List En} {bF : Nat} {f f' : Fl}

theorem flZero_eq : (rowOf fun _ => 0).toArray = #[.int .u8 0, .int .u8 0, .int .u8 0, .int .u8 0, .int .u8 0, .int .u8 0, .int .u8 0, .int .u8 0, .int .u8 0, .int .u8 0, .int .u8 0, .int .u8 0, .int .u8 0, .int .u8 0, .int .u8 0, .int .u8 0] := rfl
theorem flInfo : (Tryz.prog.info? 35).map (·.size) = some 16 := by kernel_rfl
theorem wpList_flZero {ops : Array Oper} {rest : List Oper} {op : Oper} {a : Act} {w : World} {Q : Exit → Act → World → Prop} (hgd : op.guard = none) (x y : Operand) (ho : op.op = .store 35 x y)
    (b o : Nat) (hx : a.eval x = .pointer (some ⟨b, o, none⟩)) (hy : a.eval y = .agg #[.int .u8 0, .int .u8 0, .int .u8 0, .int .u8 0, .int .u8 0, .int .u8 0, .int .u8 0, .int .u8 0, .int .u8 0, .int .u8 0, .int .u8 0, .int .u8 0, .int .u8 0, .int .u8 0, .int .u8 0, .int .u8 0])
    (ht : w.there b o 16) (h : wpList Tryz.prog ops Q rest (a.put op.dst undef) (w.setCells b o (rowOf fun _ => 0))) : wpList Tryz.prog ops Q (op :: rest) a w :=
  wpList_store_mid hgd 35 x y ho b o (rowOf fun _ => 0).toArray hx (by rw [flZero_eq]; exact hy) ht flInfo (all_oneCell_toArray (rowOf_one _)) h
theorem RFl.turn (r : RFl w bF v f) {k : Nat} (hk : k < 16) (tz : Int) : RFl ((w.setCell ⟨bF, k, none⟩ (.int .i64 tz)).setCells bF (16 + k * 16) (rowOf fun _ => 0)) bF v (fTurn f k tz) ∧ Upd (fun j => j = bF) w ((w.setCell ⟨bF, k, none⟩ (.int .i64 tz)).setCells bF (16 + k * 16) (rowOf fun _ => 0)) := by
  have u : Upd (fun j => j = bF) w ((w.setCell ⟨bF, k, none⟩ (.int .i64 tz)).setCells bF (16 + k * 16) (rowOf fun _ => 0)) := (Upd.one w bF k (.int .i64 tz)).trans (Upd.row _ bF (16 + k * 16) _) (fun _ _ e => e)
  have hs : ∀ j, j < (rowOf fun _ => 0).length → ((w.setCell ⟨bF, k, none⟩ (.int .i64 tz)).cell? ⟨bF, 16 + k * 16 + j, none⟩).isSome = true := fun j hj => by
    rw [rowOf_length] at hj
    rw [World.cell?_setCell_other _ _ _ _ (addr_ne (Or.inr (by omega))), r.b k j hk hj]; rfl
  have out : ∀ o x, (o < 16 + k * 16 ∨ 16 + k * 16 + 16 ≤ o) → o ≠ k → w.cell? ⟨bF, o, none⟩ = some x → ((w.setCell ⟨bF, k, none⟩ (.int .i64 tz)).setCells bF (16 + k * 16) (rowOf fun _ => 0)).cell? ⟨bF, o, none⟩ = some x := fun o x h1 h2 h3 => by
    rw [World.cell?_setCells_out bF _ _ _ _ (fun _ _ => by rw [rowOf_length]; exact h1), World.cell?_setCell_other _ _ _ _ (addr_ne (Or.inr (by omega))), h3]
  refine ⟨⟨fun i hi => ?_, fun i j hi hj => ?_, out _ _ (by omega) (by omega) r.rt, out _ _ (by omega) (by omega) r.cv, r.sl.upd u (fun j hj e => r.ne (by rw [← e]; exact hj)), r.ne, fun o => by rw [World.frozen?_setCells, World.frozen?_setCell]; exact r.z o⟩, u⟩
  · by_cases e : i = k
    · subst e
      rw [World.cell?_setCells_out bF _ _ _ _ (fun _ _ => Or.inl (by show i < _; omega)), World.cell?_setCell_same _ _ _ (r.st i hi)]
      show _ = some (Value.int .i64 (setAt f.st i tz i))
      rw [setAt_same]
    · rw [out _ _ (by omega) e (r.st i hi)]
      show _ = some (Value.int .i64 (setAt f.st k tz i))
      rw [setAt_other _ _ _ _ e]
  · by_cases e : i = k
    · subst e
      have hlt : j < (rowOf fun _ => 0).length := by rw [rowOf_length]; exact hj
      have := World.cell?_setCells_in bF (rowOf fun _ => 0) (16 + i * 16) _ hs j hlt
      rw [this, ← List.getElem?_eq_getElem hlt, rowOf_get _ j hj]
      show _ = some (Value.int .u8 (setAt f.b i (fun _ => 0) i j))
      rw [setAt_same]
    · rw [out _ _ (by omega) (by omega) (r.b i j hi hj)]
      show _ = some (Value.int .u8 (setAt f.b k (fun _ => 0) i j))
      rw [setAt_other _ _ _ _ e]
theorem fTurn_any (r : RFl w bF v f) {k : Nat} (hk : k < 16) (tz : Int) : Calls Tryz.prog 110 #[.pointer (some ⟨bF, 0, none⟩), .int .i64 (k : Int), .int .i64 tz] w fun e w' => e = .returned (.tuple #[]) ∧ RFl w' bF v (fTurn f k tz) ∧ Upd (fun j => j = bF) w w' := by
  have HT : Hid _ := r.turn hk tz
  have c := r.st k hk
  have z := r.z k
  have ht : (w.setCell ⟨bF, k, none⟩ (.int .i64 tz)).there bF (16 + k * 16) 16 := fun i hi => by
    rw [World.cell?_setCell_other _ _ _ _ (addr_ne (Or.inr (by omega))), World.frozen?_setCell, r.b k i hk hi]
    exact ⟨rfl, r.z _⟩
  have HTH : Hid _ := ht
  have k0 : (0 : Int) ≤ (k : Int) := by omega
  have k1 : (k : Int) < 16 := by omega
  clear r ht
  go_enter Tryz.func110, Tryz.ntmps110
  go_wp2_with (refine wpList_flZero (by rfl) _ _ (by rfl) bF (16 + k * 16) (by rfl) (by rfl) HTH.out ?_)
  go_end0
  exact ⟨rfl, HT.out⟩
end Go.Proofs.YtadpibcgjgcjhaaGreat
/- The law's flat: what an act does to what a guest may see. -/
namespace Go.Proofs.YtadpibcgjgcjhaaGreat
open Go.ChangeShapes Go.WideShapes Go.ChangeAt Go.RowKit
set_option maxRecDepth 100000
attribute [local go_sem ↓] Go.wp_at_zero Go.wp_at_succ
variable {w w' : World} {v v' : Value} {es : List En} {bF : Nat} {f f' : Fl}

theorem fAt_b (f : Fl) (a : Int) (wt : Bool) : (fAt f a wt).2.b = f.b := by
  unfold fAt fStep
  repeat' split
  all_goals rfl
theorem fStep_page {x : En} {fd wt : Bool} (hx : 0 ≤ x.dest ∧ x.dest < 16) : 0 ≤ (fStep f x fd wt).1.1 ∧ (fStep f x fd wt).1.1 < 16 ∧ 0 ≤ (fStep f x fd wt).1.2 := by
  have := pgCode_le (f.st x.dest.toNat)
  unfold fStep
  repeat' split
  all_goals simp only <;> omega
theorem fAt_page (ok : FlOk f) (a : Int) (wt : Bool) : 0 ≤ (fAt f a wt).1.1 ∧ (fAt f a wt).1.1 < 16 ∧ 0 ≤ (fAt f a wt).1.2 ∧ ((fAt f a wt).1.2 = 0 → 0 ≤ a ∧ a ≤ 255) := by
  by_cases h : a < 0 ∨ 255 < a
  · unfold fAt
    rw [if_pos h]
    simp only
    omega
  · have h1 : 0 ≤ (fAt f a wt).1.1 ∧ (fAt f a wt).1.1 < 16 ∧ 0 ≤ (fAt f a wt).1.2 := by
      unfold fAt
      rw [if_neg h]
      split
      · have := pgCode_le (f.st (a / 16).toNat)
        simp only
        omega
      · split
        · next hr hf =>
          rcases cand_end ok.di f.root (a / 16) with ⟨_, h2, _⟩ | ⟨h2, _⟩
          · exact fStep_page (ok.en _ (atE_mem h2))
          · omega
        · repeat' split
          · have := pgCode_le (f.st f.root.toNat)
            simp only
            omega
          · simp
          · exact fStep_page (by unfold gEn; simp only; omega)
    exact ⟨h1.1, h1.2.1, h1.2.2, fun _ => by omega⟩
theorem fat_any (r : RFl w bF v f) (ok : FlOk f) (a : Int) (wt : Bool) : Calls Tryz.prog 108 #[.pointer (some ⟨bF, 0, none⟩), .int .i64 a, .bool wt] w fun e w' => e = .returned (.tuple #[.int .i64 (fAt f a wt).1.1, .int .i64 (fAt f a wt).1.2]) ∧ FlPost w bF v (fAt f a wt).2 w' := by
  by_cases h : a < 0 ∨ 255 < a
  · have e : fAt f a wt = ((0, 1), f) := by unfold fAt; rw [if_pos h]
    rw [e]
    exact fat_off r a wt h
  · obtain ⟨k, rfl⟩ := Int.eq_ofNat_of_zero_le (show 0 ≤ a by omega)
    by_cases hr : f.root = -1
    · have e : fAt f (k : Int) wt = (((k : Int) / 16, pgCode (f.st (k / 16))), f) := by
        unfold fAt
        rw [if_neg h, if_pos hr, show ((k : Int) / 16).toNat = k / 16 by omega]
      rw [e]
      exact fat_plain r k (by omega) wt hr
    · exact fat_walk r ok k (by omega) wt hr
/-- A page turned. -/
theorem RFl.byte (r : RFl w bF v f) {k i : Nat} (hk : k < 16) (hi : i < 16) (z : Int) : RFl (w.setCell ⟨bF, 16 + k * 16 + i, none⟩ (.int .u8 z)) bF v { f with b := setAt f.b k (setAt (f.b k) i z) } := by
  have u := Upd.one w bF (16 + k * 16 + i) (.int .u8 z)
  have ho : ∀ o x, o ≠ 16 + k * 16 + i → w.cell? ⟨bF, o, none⟩ = some x → (w.setCell ⟨bF, 16 + k * 16 + i, none⟩ (.int .u8 z)).cell? ⟨bF, o, none⟩ = some x := fun o x h1 h2 => by rw [World.cell?_setCell_other _ _ _ _ (addr_ne (Or.inr (by omega))), h2]
  refine ⟨fun j hj => ho _ _ (by omega) (r.st j hj), fun j l hj hl => ?_, ho _ _ (by omega) r.rt, ho _ _ (by omega) r.cv, r.sl.upd u (fun j hj e => r.ne (by rw [← e]; exact hj)), r.ne, fun o => by rw [World.frozen?_setCell]; exact r.z o⟩
  show _ = some (Value.int .u8 (setAt f.b k (setAt (f.b k) i z) j l))
  by_cases e : j = k
  · subst e
    rw [setAt_same]
    by_cases e2 : l = i
    · subst e2
      rw [World.cell?_setCell_same _ _ _ (r.b j l hj hl), setAt_same]
    · rw [ho _ _ (by omega) (r.b j l hj hl), setAt_other _ _ _ _ e2]
  · rw [ho _ _ (by omega) (r.b j l hj hl), setAt_other _ _ _ _ e]
theorem RFl.setRoot (r : RFl w bF v f) (z : Int) : RFl (w.setCell ⟨bF, 272, none⟩ (.int .i64 z)) bF v { f with root := z } := by
  have u := Upd.one w bF 272 (.int .i64 z)
  have ho : ∀ o x, o ≠ 272 → w.cell? ⟨bF, o, none⟩ = some x → (w.setCell ⟨bF, 272, none⟩ (.int .i64 z)).cell? ⟨bF, o, none⟩ = some x := fun o x h1 h2 => by rw [World.cell?_setCell_other _ _ _ _ (addr_ne (Or.inr (by omega))), h2]
  exact ⟨fun j hj => ho _ _ (by omega) (r.st j hj), fun j l hj hl => ho _ _ (by omega) (r.b j l hj hl), World.cell?_setCell_same _ _ _ r.rt, ho _ _ (by omega) r.cv, r.sl.upd u (fun j hj e => r.ne (by rw [← e]; exact hj)), r.ne, fun o => by rw [World.frozen?_setCell]; exact r.z o⟩
theorem FlPost.ahead {w1 : World} (u : Upd (fun _ => False) w w1) (p : FlPost w1 bF v f w') : FlPost w bF v f w' := by
  obtain ⟨v2, r, hn⟩ := p.ex
  have := u.size
  refine ⟨⟨v2, r, fun k hk => (hn k hk).imp id (fun h => Nat.le_trans this h)⟩, Upd.trans ⟨u.os, u.tape, u.output, u.size, fun k hk _ => u.block k hk (fun f => f)⟩ p.up (fun _ _ e => e)⟩
/-- Something more is set in the block itself. -/
theorem FlPost.more {w2 : World} {f2 : Fl} {v2 : Value} (p : FlPost w bF v f w') (hn : ∀ k, FOwn bF v2 k → FOwn bF v k ∨ w.heap.size ≤ k) (r2 : RFl w2 bF v2 f2) (u : Upd (fun j => j = bF) w' w2) : FlPost w bF v f2 w2 :=
  ⟨⟨v2, r2, hn⟩, p.up.trans u (fun _ _ e => Or.inl e)⟩
theorem FlPost.own {w2 : World} {f2 : Fl} (r2 : RFl w2 bF v f2) (u : Upd (fun j => j = bF) w w2) : FlPost w bF v f2 w2 := ⟨⟨v, r2, fun _ h => Or.inl h⟩, ⟨u.os, u.tape, u.output, u.size, fun k hk hs => u.block k hk (fun e => hs (Or.inl e))⟩⟩
/-- The law's flat, plainly. -/
def flR (f : Fl) (x : Ac) (n e : Int) : (Int × Int) × Fl :=
  if (x.kind.toList == [108, 111, 97, 100]) = true then fLoad f x.a else
  if (x.kind.toList == [115, 116, 111, 114, 101]) = true then ((0, (fStore f x.a x.v).1), (fStore f x.a x.v).2) else
  if (x.kind.toList == [114, 111, 111, 116]) = true then ((0, (fRoot f x.a).1), (fRoot f x.a).2) else
  if (x.kind.toList == [102, 111, 114, 103, 101, 116]) = true then ((0, (fForget f x.a).1), (fForget f x.a).2) else
  if (x.kind.toList == [100, 114, 111, 112]) = true then ((0, (fDrop f x.a).1), (fDrop f x.a).2) else
  if (x.kind.toList == [112, 108, 117, 103]) = true then ((n, e), if e = 0 then fTurnTo f x.a.toNat 1 4 else f) else
  if (x.kind.toList == [117, 110, 112, 108, 117, 103]) = true then ((n, e), if e = 0 then fTurnTo f x.a.toNat 0 4 else f) else
  if (x.kind.toList == [103, 105, 118, 101]) = true then ((n, e), if e = 0 then fTurn f x.a.toNat 2 else f) else
  if (x.kind.toList == [98, 97, 99, 107]) = true then ((n, e), if e = 0 then fTurn f x.a.toNat 1 else f) else
  ((0, 0), f)
set_option maxHeartbeats 8000000 in
theorem flat_any (r : RFl w bF v f) (ok : FlOk f) (x : Ac) (n e : Int) (hb : e = 0 → (x.kind.toList == [112, 108, 117, 103]) = true ∨ (x.kind.toList == [117, 110, 112, 108, 117, 103]) = true → 0 ≤ x.a ∧ x.a < 4) (hg : e = 0 → (x.kind.toList == [103, 105, 118, 101]) = true ∨ (x.kind.toList == [98, 97, 99, 107]) = true → 0 ≤ x.a ∧ x.a < 16) :
    Calls Tryz.prog 33 #[.pointer (some ⟨bF, 0, none⟩), .agg #[.string x.kind, .int .i64 x.n, .int .i64 x.a, .int .i64 x.b, .int .u8 x.v, .bool x.on], .int .i64 n, .int .i64 e] w
      fun ex w' => ex = .returned (.tuple #[.int .i64 (flR f x n e).1.1, .int .i64 (flR f x n e).1.2]) ∧ FlPost w bF v (flR f x n e).2 w' := by
  have HOK : Hid (FlOk f) := ok
  have HHB : Hid _ := hb
  have HHG : Hid _ := hg
  clear hb hg
  go_enter Tryz.func33, Tryz.ntmps33
  go_upto_block 0 with fail
  have hB := BoxAt.new w x
  have u0 := (Upd.refl (fun _ => False) w).alloc (.cells #[.string x.kind, .int .i64 x.n, .int .i64 x.a, .int .i64 x.b, .int .u8 x.v, .bool x.on] 52)
  have HJ : Hid (RFl (w.alloc (.cells #[.string x.kind, .int .i64 x.n, .int .i64 x.a, .int .i64 x.b, .int .u8 x.v, .bool x.on] 52)) bF v f) := r.upd u0 (fun _ _ f => f)
  have HQ : Hid (∀ j, FOwn bF v j → j < w.heap.size) := fun j hj => r.lt hj
  have HU0 : Hid _ := u0
  clear r u0 ok
  revert hB HU0 HJ HQ
  generalize w.alloc (.cells #[.string x.kind, .int .i64 x.n, .int .i64 x.a, .int .i64 x.b, .int .u8 x.v, .bool x.on] 52) = W1
  generalize w.heap.size = q
  intro hB HJ HQ HU0
  by_cases k0 : (x.kind.toList == [108, 111, 97, 100]) = true
  · have HD : Hid (flR f x n e = fLoad f x.a) := show flR f x n e = _ by unfold flR; simp only [k0, if_true]
    have c2 := hB.c2
    have HC : Hid _ := fat_any HJ.out HOK.out x.a false
    have HPGE : Hid _ := fAt_page HOK.out x.a false
    have HAB : Hid _ := fAt_b f x.a false
    have HLD : Hid (fLoad f x.a = _) := rfl
    go_wp2_with fail
    refine Calls.mono HC.out ?_
    rintro ex w4 ⟨rfl, hp4⟩
    have HP4 : Hid (FlPost W1 bF v (fAt f x.a false).2 w4) := hp4
    have hpg := HPGE.out
    have hnq : ¬ FOwn bF v q := fun e => Nat.lt_irrefl _ (HQ.out q e)
    have d2 := hp4.up.cell c2 hnq
    obtain ⟨v4, hr4, hn4⟩ := hp4.ex
    have HR4 : Hid (RFl w4 bF v4 (fAt f x.a false).2) := hr4
    have HN4 : Hid _ := hn4
    obtain ⟨⟨⟨p, c⟩, f4⟩, hq⟩ : ∃ z, z = fAt f x.a false := ⟨_, rfl⟩
    have HFA : Hid (fAt f x.a false = ((p, c), f4)) := hq.symm
    rw [← hq] at HP4 HR4 hpg HAB ⊢
    simp only at hpg HP4 HR4 HAB ⊢
    clear hq hp4 hr4 hn4 HC HPGE hnq
    obtain ⟨p0, p1, p2, p3⟩ := hpg
    by_cases hc : 0 < c
    · have dc : decide (0 < c) = true := by simp; exact hc
      have dc2 : (c == 0) = false := by simp; omega
      go_wp2_with fail
      go_ret2
      rw [HD.out]
      have e1 : fLoad f x.a = ((0, c), f4) := by
        unfold fLoad; rw [HFA.out]; simp only; rw [if_pos (by omega)]
      rw [e1]
      exact ⟨rfl, FlPost.ahead HU0.out HP4.out⟩
    · obtain rfl : c = 0 := by omega
      obtain ⟨a0, a1⟩ := p3 rfl
      obtain ⟨j, rfl⟩ := Int.eq_ofNat_of_zero_le p0
      obtain ⟨m, hm⟩ := Int.eq_ofNat_of_zero_le a0
      obtain ⟨i, hi⟩ := Int.eq_ofNat_of_zero_le (show 0 ≤ (m : Int) % 16 by omega)
      have hj16 : j < 16 := by omega
      have hi16 : i < 16 := by omega
      have i0 : (0 : Int) ≤ (i : Int) := by omega
      have i1 : (i : Int) < 16 := by omega
      have i2 : (0 : Int) ≤ (j : Int) := by omega
      have i3 : (j : Int) < 16 := by omega
      have iw : IntKind.i64.wrap ((m : Int) % 16) = (i : Int) := by rw [hi, IntKind.wrap_i64]; omega
      rw [hm] at d2
      have HMM : Hid (x.a = (m : Int)) := hm
      clear hm
      have HMI : Hid ((m : Int) % 16 = (i : Int)) := hi
      have cb := HR4.out.b j i hj16 hi16
      have hbr := HOK.out.b j i hj16 hi16
      rw [← HAB.out] at hbr
      generalize hz : f4.b j i = z at *
      have HZ : Hid _ := hz
      clear hz
      go_wp2_with fail
      go_quiet (fail)
      go_wp2_with fail
      go_ret2
      rw [HD.out]
      have e1 : fLoad f x.a = ((z, 0), f4) := by
        unfold fLoad; rw [HFA.out]; simp only; rw [if_neg (by omega), HMM.out, HMI.out, Int.toNat_natCast, Int.toNat_natCast, HZ.out]
      rw [e1]
      refine ⟨rfl, FlPost.ahead HU0.out ?_⟩
      have u := (Upd.refl (fun _ => False) w4).drewN nq
      exact ⟨⟨v4, HR4.out.upd u (fun _ _ f => f), HN4.out⟩, HP4.out.up.trans u (fun _ _ f => f.elim)⟩
  · have k0' : (x.kind.toList == [108, 111, 97, 100]) = false := by simpa using k0
    clear k0
    by_cases k1 : (x.kind.toList == [115, 116, 111, 114, 101]) = true
    · have HD : Hid (flR f x n e = ((0, (fStore f x.a x.v).1), (fStore f x.a x.v).2)) := show flR f x n e = _ by unfold flR; simp only [k0', k1, Bool.false_eq_true, if_false, if_true]
      have c2 := hB.c2
      have HBX : Hid (BoxAt W1 q x) := hB
      have HC : Hid _ := fat_any HJ.out HOK.out x.a true
      have HPGE : Hid _ := fAt_page HOK.out x.a true
      have HAB : Hid _ := fAt_b f x.a true
      have HLD : Hid (((0, (fStore f x.a x.v).1), (fStore f x.a x.v).2) = _) := rfl
      go_wp2_with fail
      refine Calls.mono HC.out ?_
      rintro ex w4 ⟨rfl, hp4⟩
      have HP4 : Hid (FlPost W1 bF v (fAt f x.a true).2 w4) := hp4
      have hpg := HPGE.out
      have hnq : ¬ FOwn bF v q := fun e => Nat.lt_irrefl _ (HQ.out q e)
      have d2 := hp4.up.cell c2 hnq
      have d4 := hp4.up.cell HBX.out.c4 hnq
      obtain ⟨v4, hr4, hn4⟩ := hp4.ex
      have HR4 : Hid (RFl w4 bF v4 (fAt f x.a true).2) := hr4
      have HN4 : Hid _ := hn4
      obtain ⟨⟨⟨p, c⟩, f4⟩, hq⟩ : ∃ z, z = fAt f x.a true := ⟨_, rfl⟩
      have HFA : Hid (fAt f x.a true = ((p, c), f4)) := hq.symm
      rw [← hq] at HP4 HR4 hpg HAB ⊢
      simp only at hpg HP4 HR4 HAB ⊢
      clear hq hp4 hr4 hn4 HC HPGE hnq
      obtain ⟨p0, p1, p2, p3⟩ := hpg
      by_cases hc : 0 < c
      · have dc : decide (0 < c) = true := by simp; exact hc
        have dc2 : (c == 0) = false := by simp; omega
        go_wp2_with fail
        go_ret2
        rw [HD.out]
        have e1 : fStore f x.a x.v = (c, f4) := by
          unfold fStore; rw [HFA.out]; simp only; rw [if_pos (by omega)]
        rw [e1]
        exact ⟨rfl, FlPost.ahead HU0.out HP4.out⟩
      · obtain rfl : c = 0 := by omega
        obtain ⟨a0, a1⟩ := p3 rfl
        obtain ⟨j, rfl⟩ := Int.eq_ofNat_of_zero_le p0
        obtain ⟨m, hm⟩ := Int.eq_ofNat_of_zero_le a0
        obtain ⟨i, hi⟩ := Int.eq_ofNat_of_zero_le (show 0 ≤ (m : Int) % 16 by omega)
        have hj16 : j < 16 := by omega
        have hi16 : i < 16 := by omega
        have i0 : (0 : Int) ≤ (i : Int) := by omega
        have i1 : (i : Int) < 16 := by omega
        have i2 : (0 : Int) ≤ (j : Int) := by omega
        have i3 : (j : Int) < 16 := by omega
        have iw : IntKind.i64.wrap ((m : Int) % 16) = (i : Int) := by rw [hi, IntKind.wrap_i64]; omega
        rw [hm] at d2
        have HMM : Hid (x.a = (m : Int)) := hm
        clear hm
        have HMI : Hid ((m : Int) % 16 = (i : Int)) := hi
        have cb := HR4.out.b j i hj16 hi16
        have zb := HR4.out.z (16 + j * 16 + i)
        have hqb : ¬ q = bF := fun e => Nat.lt_irrefl _ (e ▸ HQ.out bF (Or.inl rfl))
        have sA : w4.cell? ⟨q, 2, none⟩ = some (.int .i64 (m : Int)) ∧ w4.cell? ⟨q, 4, none⟩ = some (.int .u8 x.v) := ⟨d2, d4⟩
        have sB : ∀ u, (w4.drew.setCell ⟨bF, 16 + j * 16 + i, none⟩ u).cell? ⟨q, 2, none⟩ = some (.int .i64 (m : Int)) ∧ (w4.drew.setCell ⟨bF, 16 + j * 16 + i, none⟩ u).cell? ⟨q, 4, none⟩ = some (.int .u8 x.v) := fun u => ⟨(Upd.one w4.drew bF _ u).cell d2 hqb, (Upd.one w4.drew bF _ u).cell d4 hqb⟩
        go_wp2_with fail
        go_region
        go_wp2_with fail
        go_ret2
        rw [HD.out]
        have e1 : fStore f x.a x.v = (0, { f4 with b := setAt f4.b j (setAt (f4.b j) i x.v) }) := by
          unfold fStore; rw [HFA.out]; simp only; rw [if_neg (by omega), HMM.out, HMI.out, Int.toNat_natCast, Int.toNat_natCast]
        rw [e1]
        refine ⟨rfl, FlPost.ahead HU0.out ?_⟩
        have u := (Upd.refl (fun j => j = bF) w4).drew.trans (Upd.one w4.drew bF (16 + j * 16 + i) (.int .u8 x.v)) (fun _ _ e => e)
        exact HP4.out.more HN4.out ((HR4.out.upd ((Upd.refl (fun _ => False) w4).drew) (fun _ _ f => f)).byte hj16 hi16 x.v) u
    · have k1' : (x.kind.toList == [115, 116, 111, 114, 101]) = false := by simpa using k1
      clear k1
      by_cases k2 : (x.kind.toList == [114, 111, 111, 116]) = true
      · have HD : Hid (flR f x n e = ((0, (fRoot f x.a).1), (fRoot f x.a).2)) := show flR f x n e = _ by unfold flR; simp only [k0', k1', k2, Bool.false_eq_true, if_false, if_true]
        have c2 := hB.c2
        have HRT : Hid _ := HJ.out.setRoot x.a
        have zr := HJ.out.z 272
        have crt := HJ.out.rt
        by_cases h1 : x.a < -1
        · have b1 : decide (x.a < -1) = true := by simp; exact h1
          go_wp2_with fail
          go_ret2
          rw [HD.out]
          have e1 : fRoot f x.a = (1, f) := by unfold fRoot; rw [if_pos (by omega)]
          rw [e1]
          exact ⟨rfl, FlPost.same (HJ.out) (Upd.refl _ _) |>.ahead HU0.out⟩
        · have b1 : decide (x.a < -1) = false := by simp; omega
          by_cases h2 : 15 < x.a
          · have b2 : decide (15 < x.a) = true := by simp; exact h2
            go_wp2_with fail
            go_ret2
            rw [HD.out]
            have e1 : fRoot f x.a = (1, f) := by unfold fRoot; rw [if_pos (by omega)]
            rw [e1]
            exact ⟨rfl, FlPost.same (HJ.out) (Upd.refl _ _) |>.ahead HU0.out⟩
          · have b2 : decide (15 < x.a) = false := by simp; omega
            go_wp2_with fail
            go_ret2
            rw [HD.out]
            have e1 : fRoot f x.a = (0, { f with root := x.a }) := by unfold fRoot; rw [if_neg (by omega)]
            rw [e1]
            exact ⟨rfl, (FlPost.own HRT.out (Upd.one W1 bF 272 (.int .i64 x.a))).ahead HU0.out⟩
      · have k2' : (x.kind.toList == [114, 111, 111, 116]) = false := by simpa using k2
        clear k2
        by_cases k3 : (x.kind.toList == [102, 111, 114, 103, 101, 116]) = true
        · have HD : Hid (flR f x n e = ((0, (fForget f x.a).1), (fForget f x.a).2)) := show flR f x n e = _ by unfold flR; simp only [k0', k1', k2', k3, Bool.false_eq_true, if_false, if_true]
          have c2 := hB.c2
          have crt := HJ.out.rt
          by_cases h1 : x.a < 0
          · have b1 : decide (x.a < 0) = true := by simp; exact h1
            go_wp2_with fail
            go_ret2
            rw [HD.out]
            have e1 : fForget f x.a = (1, f) := by unfold fForget; rw [if_pos (by omega)]
            rw [e1]
            exact ⟨rfl, FlPost.same (HJ.out) (Upd.refl _ _) |>.ahead HU0.out⟩
          · have b1 : decide (x.a < 0) = false := by simp; omega
            by_cases h2 : 255 < x.a
            · have b2 : decide (255 < x.a) = true := by simp; exact h2
              go_wp2_with fail
              go_ret2
              rw [HD.out]
              have e1 : fForget f x.a = (1, f) := by unfold fForget; rw [if_pos (by omega)]
              rw [e1]
              exact ⟨rfl, FlPost.same (HJ.out) (Upd.refl _ _) |>.ahead HU0.out⟩
            · have b2 : decide (255 < x.a) = false := by simp; omega
              have itd : x.a.tdiv 16 = x.a / 16 := Int.tdiv_eq_ediv_of_nonneg (by omega)
              have iw : IntKind.i64.wrap (x.a / 16) = x.a / 16 := by rw [IntKind.wrap_i64]; omega
              have ud := (Upd.refl (fun _ => False) W1).drew
              obtain ⟨m, hm⟩ := Int.eq_ofNat_of_zero_le (show 0 ≤ x.a by omega)
              have HC : Hid _ := fForget_any (HJ.out.upd ud (fun _ _ f => f)) HOK.out f.root ((m : Int) / 16)
              have iw2 : IntKind.i64.wrap ((m : Int) / 16) = (m : Int) / 16 := by rw [IntKind.wrap_i64]; omega
              rw [hm] at c2
              have HMM : Hid _ := hm
              clear hm b1 b2
              have b1 : decide ((m : Int) < 0) = false := by simp
              have b2 : decide (255 < (m : Int)) = false := by have := HMM.out; simp; omega
              have HG0 : Hid ((0 : Int) ≤ (m : Int) / 16) := show (0 : Int) ≤ _ by omega
              have hqb : ¬ FOwn bF v q := fun e => Nat.lt_irrefl _ (HQ.out q e)
              go_wp2_with fail
              go_region_with (go_at_call 109; refine Calls.mono HC.out ?_; rintro ex w4 ⟨rfl, hp4⟩)
              all_goals (
                have HP4 : Hid _ := hp4
                clear hp4 HC
                go_wp2_with fail
                go_ret2
                have hmx := HMM.out
                rw [HD.out, HMM.out]
                have e1 : fForget f (m : Int) = (0, { f with c := flt (gone f.root ((m : Int) / 16)) f.c }) := by unfold fForget; rw [if_neg (by omega), show gone f.root ((m : Int) / 16) = isAt f.root ((m : Int) / 16) from funext (gone_at HG0.out)]
                rw [e1]
                exact ⟨rfl, FlPost.ahead (HU0.out.trans (Upd.refl (fun _ => False) W1).drew (fun _ _ f => f)) HP4.out⟩)
        · have k3' : (x.kind.toList == [102, 111, 114, 103, 101, 116]) = false := by simpa using k3
          clear k3
          by_cases k4 : (x.kind.toList == [100, 114, 111, 112]) = true
          · have HD : Hid (flR f x n e = ((0, (fDrop f x.a).1), (fDrop f x.a).2)) := show flR f x n e = _ by unfold flR; simp only [k0', k1', k2', k3', k4, Bool.false_eq_true, if_false, if_true]
            have c2 := hB.c2
            by_cases h1 : x.a < 0
            · have b1 : decide (x.a < 0) = true := by simp; exact h1
              go_wp2_with fail
              go_ret2
              rw [HD.out]
              have e1 : fDrop f x.a = (1, f) := by unfold fDrop; rw [if_neg (by rw [onB_iff]; omega)]
              rw [e1]
              exact ⟨rfl, FlPost.same (HJ.out) (Upd.refl _ _) |>.ahead HU0.out⟩
            · have b1 : decide (x.a < 0) = false := by simp; omega
              by_cases h2 : 15 < x.a
              · have b2 : decide (15 < x.a) = true := by simp; exact h2
                go_wp2_with fail
                go_ret2
                rw [HD.out]
                have e1 : fDrop f x.a = (1, f) := by unfold fDrop; rw [if_neg (by rw [onB_iff]; omega)]
                rw [e1]
                exact ⟨rfl, FlPost.same (HJ.out) (Upd.refl _ _) |>.ahead HU0.out⟩
              · have b2 : decide (15 < x.a) = false := by simp; omega
                have HC : Hid _ := fForget_any HJ.out HOK.out x.a (-1)
                go_wp2_with fail
                refine Calls.mono HC.out ?_
                rintro ex w4 ⟨rfl, hp4⟩
                have HP4 : Hid _ := hp4
                clear hp4 HC
                go_wp2_with fail
                go_ret2
                rw [HD.out]
                have e1 : fDrop f x.a = (0, { f with c := flt (gone x.a (-1)) f.c }) := by unfold fDrop; rw [if_pos (by rw [onB_iff]; omega), show gone x.a (-1) = (fun y => y.root == x.a) from funext (gone_all x.a)]
                rw [e1]
                exact ⟨rfl, FlPost.ahead HU0.out HP4.out⟩
          · have k4' : (x.kind.toList == [100, 114, 111, 112]) = false := by simpa using k4
            clear k4
            by_cases k5 : (x.kind.toList == [112, 108, 117, 103]) = true
            · have HD : Hid (flR f x n e = ((n, e), if e = 0 then fTurnTo f x.a.toNat 1 4 else f)) := show flR f x n e = _ by unfold flR; simp only [k0', k1', k2', k3', k4', k5, Bool.false_eq_true, if_false, if_true]
              have c2 := hB.c2
              have HHK : Hid _ := k5
              have HBX : Hid (BoxAt W1 q x) := hB
              have c0 := hB.c0
              by_cases he : e = 0
              · obtain ⟨a0, a1⟩ := HHB.out he (Or.inl HHK.out)
                obtain ⟨b, hb⟩ := Int.eq_ofNat_of_zero_le a0
                subst he
                have HD2 : Hid (flR f x n 0 = ((n, 0), fTurnTo f b 1 4)) := show _ = _ by rw [HD.out, if_pos rfl, hb, Int.toNat_natCast]
                clear HD
                have hqb : ¬ q = bF := fun e => Nat.lt_irrefl _ (e ▸ HQ.out bF (Or.inl rfl))
                have HBB : Hid _ := hb
                have hb4 : b < 4 := by omega
                clear hb a0 a1 hB
                go_wp2_with fail
                go_loopg [14] 4 (fun g kv wr => ∃ j : Nat, j + g = 4 ∧ kv = .int .i64 j ∧ Hid (RFl wr bF v (fTurnTo f b 1 j)) ∧ Hid (Upd (fun k => k = bF) W1 wr))
                case atStart => exact ⟨0, by omega, rfl, HJ.out, Upd.refl _ _⟩
                case round =>
                  clear c0 c2
                  obtain ⟨j, hj, rfl, HRj, HUj⟩ := hrel
                  have HK : Hid _ := hj
                  clear hj
                  by_cases hlt : j < 4
                  · have hb2 := HBX.out.upd HUj.out hqb
                    have c0 := hb2.c0
                    have c2 := hb2.c2
                    rw [HBB.out] at c2
                    have HC : Hid _ := fTurn_any HRj.out (show 4 * b + j < 16 by omega) 1
                    rw [show ((4 * b + j : Nat) : Int) = 4 * (b : Int) + (j : Int) by omega] at HC
                    clear hb2
                    go_wp2_with fail
                    refine Calls.mono HC.out ?_
                    rintro ex w4 ⟨rfl, hr4, hu4⟩
                    have HR4 : Hid (RFl w4 bF v (fTurnTo f b 1 (j + 1))) := hr4
                    have HU4 : Hid _ := HUj.out.trans hu4 (fun _ _ e => e)
                    clear hr4 hu4 HC
                    go_wp2_with fail
                    go_roundg (4 - (j + 1))
                    case rel => exact ⟨j + 1, by omega, by go_num, HR4.out, HU4.out⟩
                    case measure => have := HK.out; omega
                  · obtain rfl : j = 4 := by have := HK.out; omega
                    go_wp2_with fail
                    go_ret2
                    rw [HD2.out]
                    exact ⟨rfl, (FlPost.own HRj.out HUj.out).ahead HU0.out⟩
              · have de : (e == 0) = false := by simp [he]
                have HD2 : Hid (flR f x n e = ((n, e), f)) := show _ = _ by rw [HD.out, if_neg he]
                clear HD
                go_wp2_with fail
                go_loopg [14] 4 (fun g kv wr => kv = .int .i64 0 ∧ wr = W1)
                case atStart => exact ⟨rfl, rfl⟩
                case round =>
                  obtain ⟨rfl, rfl⟩ := hrel
                  go_wp2_with fail
                  go_ret2
                  rw [HD2.out]
                  exact ⟨rfl, FlPost.same (HJ.out) (Upd.refl _ _) |>.ahead HU0.out⟩
            · have k5' : (x.kind.toList == [112, 108, 117, 103]) = false := by simpa using k5
              clear k5
              by_cases k6 : (x.kind.toList == [117, 110, 112, 108, 117, 103]) = true
              · have HD : Hid (flR f x n e = ((n, e), if e = 0 then fTurnTo f x.a.toNat 0 4 else f)) := show flR f x n e = _ by unfold flR; simp only [k0', k1', k2', k3', k4', k5', k6, Bool.false_eq_true, if_false, if_true]
                have c2 := hB.c2
                have HHK : Hid _ := k6
                have HBX : Hid (BoxAt W1 q x) := hB
                have c0 := hB.c0
                by_cases he : e = 0
                · obtain ⟨a0, a1⟩ := HHB.out he (Or.inr HHK.out)
                  obtain ⟨b, hb⟩ := Int.eq_ofNat_of_zero_le a0
                  subst he
                  have HD2 : Hid (flR f x n 0 = ((n, 0), fTurnTo f b 0 4)) := show _ = _ by rw [HD.out, if_pos rfl, hb, Int.toNat_natCast]
                  clear HD
                  have hqb : ¬ q = bF := fun e => Nat.lt_irrefl _ (e ▸ HQ.out bF (Or.inl rfl))
                  have HBB : Hid _ := hb
                  have hb4 : b < 4 := by omega
                  clear hb a0 a1 hB
                  go_wp2_with fail
                  go_loopg [14] 4 (fun g kv wr => ∃ j : Nat, j + g = 4 ∧ kv = .int .i64 j ∧ Hid (RFl wr bF v (fTurnTo f b 0 j)) ∧ Hid (Upd (fun k => k = bF) W1 wr))
                  case atStart => exact ⟨0, by omega, rfl, HJ.out, Upd.refl _ _⟩
                  case round =>
                    clear c0 c2
                    obtain ⟨j, hj, rfl, HRj, HUj⟩ := hrel
                    have HK : Hid _ := hj
                    clear hj
                    by_cases hlt : j < 4
                    · have hb2 := HBX.out.upd HUj.out hqb
                      have c0 := hb2.c0
                      have c2 := hb2.c2
                      rw [HBB.out] at c2
                      have HC : Hid _ := fTurn_any HRj.out (show 4 * b + j < 16 by omega) 0
                      rw [show ((4 * b + j : Nat) : Int) = 4 * (b : Int) + (j : Int) by omega] at HC
                      clear hb2
                      go_wp2_with fail
                      refine Calls.mono HC.out ?_
                      rintro ex w4 ⟨rfl, hr4, hu4⟩
                      have HR4 : Hid (RFl w4 bF v (fTurnTo f b 0 (j + 1))) := hr4
                      have HU4 : Hid _ := HUj.out.trans hu4 (fun _ _ e => e)
                      clear hr4 hu4 HC
                      go_wp2_with fail
                      go_roundg (4 - (j + 1))
                      case rel => exact ⟨j + 1, by omega, by go_num, HR4.out, HU4.out⟩
                      case measure => have := HK.out; omega
                    · obtain rfl : j = 4 := by have := HK.out; omega
                      go_wp2_with fail
                      go_ret2
                      rw [HD2.out]
                      exact ⟨rfl, (FlPost.own HRj.out HUj.out).ahead HU0.out⟩
                · have de : (e == 0) = false := by simp [he]
                  have HD2 : Hid (flR f x n e = ((n, e), f)) := show _ = _ by rw [HD.out, if_neg he]
                  clear HD
                  go_wp2_with fail
                  go_loopg [14] 4 (fun g kv wr => kv = .int .i64 0 ∧ wr = W1)
                  case atStart => exact ⟨rfl, rfl⟩
                  case round =>
                    obtain ⟨rfl, rfl⟩ := hrel
                    go_wp2_with fail
                    go_ret2
                    rw [HD2.out]
                    exact ⟨rfl, FlPost.same (HJ.out) (Upd.refl _ _) |>.ahead HU0.out⟩
              · have k6' : (x.kind.toList == [117, 110, 112, 108, 117, 103]) = false := by simpa using k6
                clear k6
                by_cases k7 : (x.kind.toList == [103, 105, 118, 101]) = true
                · have HD : Hid (flR f x n e = ((n, e), if e = 0 then fTurn f x.a.toNat 2 else f)) := show flR f x n e = _ by unfold flR; simp only [k0', k1', k2', k3', k4', k5', k6', k7, Bool.false_eq_true, if_false, if_true]
                  have c2 := hB.c2
                  have HHK : Hid _ := k7
                  by_cases he : e = 0
                  · obtain ⟨a0, a1⟩ := HHG.out he (Or.inl HHK.out)
                    obtain ⟨j, hj⟩ := Int.eq_ofNat_of_zero_le a0
                    have HC : Hid _ := fTurn_any HJ.out (show j < 16 by omega) 2
                    rw [← hj] at HC
                    subst he
                    have HD2 : Hid (flR f x n 0 = ((n, 0), fTurn f j 2)) := show _ = _ by rw [HD.out, if_pos rfl, show x.a.toNat = j by omega]
                    clear hj HD
                    go_wp2_with fail
                    refine Calls.mono HC.out ?_
                    rintro ex w4 ⟨rfl, hr4, hu4⟩
                    have HP4 : Hid _ := FlPost.own hr4 hu4
                    clear hr4 hu4 HC
                    go_wp2_with fail
                    go_ret2
                    rw [HD2.out]
                    exact ⟨rfl, FlPost.ahead HU0.out HP4.out⟩
                  · have de : (e == 0) = false := by simp [he]
                    have HD2 : Hid (flR f x n e = ((n, e), f)) := show _ = _ by rw [HD.out, if_neg he]
                    clear HD
                    go_wp2_with fail
                    go_ret2
                    rw [HD2.out]
                    exact ⟨rfl, FlPost.same (HJ.out) (Upd.refl _ _) |>.ahead HU0.out⟩
                · have k7' : (x.kind.toList == [103, 105, 118, 101]) = false := by simpa using k7
                  clear k7
                  by_cases k8 : (x.kind.toList == [98, 97, 99, 107]) = true
                  · have HD : Hid (flR f x n e = ((n, e), if e = 0 then fTurn f x.a.toNat 1 else f)) := show flR f x n e = _ by unfold flR; simp only [k0', k1', k2', k3', k4', k5', k6', k7', k8, Bool.false_eq_true, if_false, if_true]
                    have c2 := hB.c2
                    have HHK : Hid _ := k8
                    by_cases he : e = 0
                    · obtain ⟨a0, a1⟩ := HHG.out he (Or.inr HHK.out)
                      obtain ⟨j, hj⟩ := Int.eq_ofNat_of_zero_le a0
                      have HC : Hid _ := fTurn_any HJ.out (show j < 16 by omega) 1
                      rw [← hj] at HC
                      subst he
                      have HD2 : Hid (flR f x n 0 = ((n, 0), fTurn f j 1)) := show _ = _ by rw [HD.out, if_pos rfl, show x.a.toNat = j by omega]
                      clear hj HD
                      go_wp2_with fail
                      refine Calls.mono HC.out ?_
                      rintro ex w4 ⟨rfl, hr4, hu4⟩
                      have HP4 : Hid _ := FlPost.own hr4 hu4
                      clear hr4 hu4 HC
                      go_wp2_with fail
                      go_ret2
                      rw [HD2.out]
                      exact ⟨rfl, FlPost.ahead HU0.out HP4.out⟩
                    · have de : (e == 0) = false := by simp [he]
                      have HD2 : Hid (flR f x n e = ((n, e), f)) := show _ = _ by rw [HD.out, if_neg he]
                      clear HD
                      go_wp2_with fail
                      go_ret2
                      rw [HD2.out]
                      exact ⟨rfl, FlPost.same (HJ.out) (Upd.refl _ _) |>.ahead HU0.out⟩
                  · have k8' : (x.kind.toList == [98, 97, 99, 107]) = false := by simpa using k8
                    clear k8
                    have HD : Hid (flR f x n e = ((0, 0), f)) := show flR f x n e = _ by unfold flR; simp only [k0', k1', k2', k3', k4', k5', k6', k7', k8', Bool.false_eq_true, if_false]
                    go_wp2_with fail
                    go_ret2
                    rw [HD.out]
                    exact ⟨rfl, FlPost.same (HJ.out) (Upd.refl _ _) |>.ahead HU0.out⟩
end Go.Proofs.YtadpibcgjgcjhaaGreat
