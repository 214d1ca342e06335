/- The console's table of commands. -/
import Derived.Test.YtadpibcgjgcjhabGreatDoorCnR
import Derived.Maps.OwnSet
namespace Go.Proofs.YtadpibcgjgcjhabGreatDoor
open Go.ChangeShapes Go.WideShapes Go.ChangeAt Go.RowKit Go.WideMaps Go.Maps
set_option maxRecDepth 100000
attribute [local go_sem ↓] Go.wp_at_zero Go.wp_at_succ
variable {W w w1 w2 w' : World}

/-- A table that says of each word how many numbers it has. -/
def Ag (D : DataW Unit) (f : List UInt8 → Option Nat) : Prop := IsMap D ∧ ∀ c, Maps.has D (.string c) = (f c).isSome ∧ ∀ m, f c = some m → D.atKey (.string c) (.lit (.int .i64 0)) = .lit (.int .i64 (m : Int))
def ins (k : List UInt8) (m : Nat) (f : List UInt8 → Option Nat) : List UInt8 → Option Nat := fun c => if c = k then some m else f c
theorem Ag.put {D : DataW Unit} {f : List UInt8 → Option Nat} (h : Ag D f) (k : List UInt8) (m : Nat) : Ag (D.put (.string k) (.lit (.int .i64 (m : Int)))) (ins k m f) := by
  refine ⟨h.1.put _ _, fun c => ?_⟩
  unfold ins
  by_cases e : c = k
  · subst e
    rw [if_pos rfl]
    exact ⟨has_put_same (k := .string c) h.1 (show WideAt.IsKeyLit (.string c) from trivial) _, fun m' hm => by cases hm; exact atKey_put_same (k := .string c) h.1 (show WideAt.IsKeyLit (.string c) from trivial) _ _⟩
  · rw [if_neg e, has_put_other (by intro e'; cases e'; exact e rfl)]
    exact ⟨(h.2 c).1, fun m' hm => by rw [atKey_put_other (by intro e'; cases e'; exact e rfl)]; exact (h.2 c).2 m' hm⟩
/-- The table, in memory. -/
def MapAt (w : World) (b : Nat) (f : List UInt8 → Option Nat) : Prop := ∃ D nn, w.ownsMap Tryz.prog 9 (plainElem Tryz.prog 3) b nn D ∧ nn ≤ 100 ∧ Ag D f
theorem MapAt.upd {S : Nat → Prop} {b : Nat} {f : List UInt8 → Option Nat} (h : MapAt w b f) (u : Upd S w w') (hb : ¬ S b) : MapAt w' b f := by
  obtain ⟨D, nn, ⟨es, clock, hh, r⟩, hn, ha⟩ := h
  have hl : b < w.heap.size := (Array.getElem?_eq_some_iff.1 hh).1
  exact ⟨D, nn, ⟨es, clock, by rw [u.block b hl hb]; exact hh, r⟩, hn, ha⟩
theorem MapAt.lt {b : Nat} {f : List UInt8 → Option Nat} (h : MapAt w b f) : b < w.heap.size := by
  obtain ⟨D, nn, hh, _⟩ := h
  exact hh.lt
theorem keyed : Keyed Tryz.prog 9 := string_keyed Tryz.underlying9
/-- What is laid in so far. -/
structure MapTo (w w1 : World) (b nn : Nat) (f : List UInt8 → Option Nat) : Prop where
  own : ∃ D, w1.ownsMap Tryz.prog 9 (plainElem Tryz.prog 3) b nn D ∧ Ag D f
  up : Upd (fun _ => False) w w1
  new : w.heap.size ≤ b
theorem MapTo.start (w : World) : MapTo w (w.alloc (.map #[] 0)) w.heap.size 0 (fun _ => none) :=
  ⟨⟨.map [], World.ownsMap_made _ _ _ _, ⟨isMap_empty, fun c => ⟨rfl, fun m hm => by cases hm⟩⟩⟩, (Upd.refl _ _).alloc _, Nat.le_refl _⟩
theorem int_wf (m : Nat) (h : m ≤ 100) : (Lit.int .i64 (m : Int)).wf = true := by
  have : m ≤ 100 := h
  simp [Lit.wf]
  have h1 : IntKind.i64.min = -9223372036854775808 := by decide
  rw [h1]
  omega
theorem MapTo.step {b nn : Nat} {f : List UInt8 → Option Nat} (h : MapTo w w1 b nn f) (hn : nn ≤ 90) (k : List UInt8) (hk : k.length ≤ 100) (m : Nat) (hm : m ≤ 100) : ∃ w2, (Instr.mapUpdate 38 (.map (some b)) (.string (TX k)) (.int .i64 (m : Int))).run Tryz.prog w1 = .ok () w2 ∧ MapTo w w2 b (nn + 1) (ins k m f) := by
  obtain ⟨D, ho, ha⟩ := h.own
  have hkey : keyOf Tryz.prog 9 (.string (TX k)) = some (.string k) := keyOf_string_mk Tryz.underlying9 (by rw [TX_size]; unfold maxLen; omega)
  obtain ⟨w2, hr, ho2, hg⟩ := ho.update keyed Tryz.underlying38 (by unfold maxLen; omega) hkey (plainElem_int Tryz.underlying3 (int_wf m hm))
  refine ⟨w2, hr, ⟨_, ho2, ha.put k m⟩, h.up.trans (⟨hg.os, hg.tape, hg.output, hg.size, fun i hi hn => hg.block i hi (fun e => hn (by cases e; rfl))⟩ : Upd (fun i => i = b) w1 w2) (fun i hi e => by have := h.new; omega), h.new⟩
def allCmds : List UInt8 → Option Nat := ins kStore 3 (ins kPage 2 (ins kScan 2 (ins kDrop 2 (ins kForget 2 (ins kRoot 2 (ins kLoad 2 (ins kBack 2 (ins kGive 2 (ins kUnplug 2 (ins kPlug 2 (ins kFrame 1 (ins kRemove 1 (ins kGuests 0 (ins kPromised 0 (ins kLeft 0 (ins kScanall 0 (ins kAdd 0 (fun _ => none))))))))))))))))))
theorem all_many : allCmds = manyL := by
  funext c
  unfold manyL
  by_cases e0 : c = kAdd
  · rw [if_pos e0, e0]; decide
  rw [if_neg e0]
  by_cases e1 : c = kScanall
  · rw [if_pos e1, e1]; decide
  rw [if_neg e1]
  by_cases e2 : c = kLeft
  · rw [if_pos e2, e2]; decide
  rw [if_neg e2]
  by_cases e3 : c = kPromised
  · rw [if_pos e3, e3]; decide
  rw [if_neg e3]
  by_cases e4 : c = kGuests
  · rw [if_pos e4, e4]; decide
  rw [if_neg e4]
  by_cases e5 : c = kRemove
  · rw [if_pos e5, e5]; decide
  rw [if_neg e5]
  by_cases e6 : c = kFrame
  · rw [if_pos e6, e6]; decide
  rw [if_neg e6]
  by_cases e7 : c = kPlug
  · rw [if_pos e7, e7]; decide
  rw [if_neg e7]
  by_cases e8 : c = kUnplug
  · rw [if_pos e8, e8]; decide
  rw [if_neg e8]
  by_cases e9 : c = kGive
  · rw [if_pos e9, e9]; decide
  rw [if_neg e9]
  by_cases e10 : c = kBack
  · rw [if_pos e10, e10]; decide
  rw [if_neg e10]
  by_cases e11 : c = kLoad
  · rw [if_pos e11, e11]; decide
  rw [if_neg e11]
  by_cases e12 : c = kRoot
  · rw [if_pos e12, e12]; decide
  rw [if_neg e12]
  by_cases e13 : c = kForget
  · rw [if_pos e13, e13]; decide
  rw [if_neg e13]
  by_cases e14 : c = kDrop
  · rw [if_pos e14, e14]; decide
  rw [if_neg e14]
  by_cases e15 : c = kScan
  · rw [if_pos e15, e15]; decide
  rw [if_neg e15]
  by_cases e16 : c = kPage
  · rw [if_pos e16, e16]; decide
  rw [if_neg e16]
  by_cases e17 : c = kStore
  · rw [if_pos e17, e17]; decide
  rw [if_neg e17]
  unfold allCmds ins
  rw [if_neg e17, if_neg e16, if_neg e15, if_neg e14, if_neg e13, if_neg e12, if_neg e11, if_neg e10, if_neg e9, if_neg e8, if_neg e7, if_neg e6, if_neg e5, if_neg e4, if_neg e3, if_neg e2, if_neg e1, if_neg e0]
theorem commands_any (w : World) : Calls Tryz.prog 11 #[] w fun e w' => e = .returned (.map (some w.heap.size)) ∧ MapAt w' w.heap.size manyL ∧ Upd (fun _ => False) w w' := by
  have hmm := @run_makeMap Tryz.prog
  have m0 := MapTo.start w
  obtain ⟨w1, r1, m1⟩ := m0.step (by omega) kAdd (by decide) 0 (by omega)
  obtain ⟨w2, r2, m2⟩ := m1.step (by omega) kScanall (by decide) 0 (by omega)
  obtain ⟨w3, r3, m3⟩ := m2.step (by omega) kLeft (by decide) 0 (by omega)
  obtain ⟨w4, r4, m4⟩ := m3.step (by omega) kPromised (by decide) 0 (by omega)
  obtain ⟨w5, r5, m5⟩ := m4.step (by omega) kGuests (by decide) 0 (by omega)
  obtain ⟨w6, r6, m6⟩ := m5.step (by omega) kRemove (by decide) 1 (by omega)
  obtain ⟨w7, r7, m7⟩ := m6.step (by omega) kFrame (by decide) 1 (by omega)
  obtain ⟨w8, r8, m8⟩ := m7.step (by omega) kPlug (by decide) 2 (by omega)
  obtain ⟨w9, r9, m9⟩ := m8.step (by omega) kUnplug (by decide) 2 (by omega)
  obtain ⟨w10, r10, m10⟩ := m9.step (by omega) kGive (by decide) 2 (by omega)
  obtain ⟨w11, r11, m11⟩ := m10.step (by omega) kBack (by decide) 2 (by omega)
  obtain ⟨w12, r12, m12⟩ := m11.step (by omega) kLoad (by decide) 2 (by omega)
  obtain ⟨w13, r13, m13⟩ := m12.step (by omega) kRoot (by decide) 2 (by omega)
  obtain ⟨w14, r14, m14⟩ := m13.step (by omega) kForget (by decide) 2 (by omega)
  obtain ⟨w15, r15, m15⟩ := m14.step (by omega) kDrop (by decide) 2 (by omega)
  obtain ⟨w16, r16, m16⟩ := m15.step (by omega) kScan (by decide) 2 (by omega)
  obtain ⟨w17, r17, m17⟩ := m16.step (by omega) kPage (by decide) 2 (by omega)
  obtain ⟨w18, r18, m18⟩ := m17.step (by omega) kStore (by decide) 3 (by omega)
  have HM : Hid _ := m18
  clear m0 m1 m2 m3 m4 m5 m6 m7 m8 m9 m10 m11 m12 m13 m14 m15 m16 m17 m18
  have r1 : (Instr.mapUpdate 38 (.map (some w.heap.size)) (.string ⟨#[97, 100, 100]⟩) (.int .i64 0)).run Tryz.prog _ = .ok () w1 := r1
  have r2 : (Instr.mapUpdate 38 (.map (some w.heap.size)) (.string ⟨#[115, 99, 97, 110, 97, 108, 108]⟩) (.int .i64 0)).run Tryz.prog _ = .ok () w2 := r2
  have r3 : (Instr.mapUpdate 38 (.map (some w.heap.size)) (.string ⟨#[108, 101, 102, 116]⟩) (.int .i64 0)).run Tryz.prog _ = .ok () w3 := r3
  have r4 : (Instr.mapUpdate 38 (.map (some w.heap.size)) (.string ⟨#[112, 114, 111, 109, 105, 115, 101, 100]⟩) (.int .i64 0)).run Tryz.prog _ = .ok () w4 := r4
  have r5 : (Instr.mapUpdate 38 (.map (some w.heap.size)) (.string ⟨#[103, 117, 101, 115, 116, 115]⟩) (.int .i64 0)).run Tryz.prog _ = .ok () w5 := r5
  have r6 : (Instr.mapUpdate 38 (.map (some w.heap.size)) (.string ⟨#[114, 101, 109, 111, 118, 101]⟩) (.int .i64 1)).run Tryz.prog _ = .ok () w6 := r6
  have r7 : (Instr.mapUpdate 38 (.map (some w.heap.size)) (.string ⟨#[102, 114, 97, 109, 101]⟩) (.int .i64 1)).run Tryz.prog _ = .ok () w7 := r7
  have r8 : (Instr.mapUpdate 38 (.map (some w.heap.size)) (.string ⟨#[112, 108, 117, 103]⟩) (.int .i64 2)).run Tryz.prog _ = .ok () w8 := r8
  have r9 : (Instr.mapUpdate 38 (.map (some w.heap.size)) (.string ⟨#[117, 110, 112, 108, 117, 103]⟩) (.int .i64 2)).run Tryz.prog _ = .ok () w9 := r9
  have r10 : (Instr.mapUpdate 38 (.map (some w.heap.size)) (.string ⟨#[103, 105, 118, 101]⟩) (.int .i64 2)).run Tryz.prog _ = .ok () w10 := r10
  have r11 : (Instr.mapUpdate 38 (.map (some w.heap.size)) (.string ⟨#[98, 97, 99, 107]⟩) (.int .i64 2)).run Tryz.prog _ = .ok () w11 := r11
  have r12 : (Instr.mapUpdate 38 (.map (some w.heap.size)) (.string ⟨#[108, 111, 97, 100]⟩) (.int .i64 2)).run Tryz.prog _ = .ok () w12 := r12
  have r13 : (Instr.mapUpdate 38 (.map (some w.heap.size)) (.string ⟨#[114, 111, 111, 116]⟩) (.int .i64 2)).run Tryz.prog _ = .ok () w13 := r13
  have r14 : (Instr.mapUpdate 38 (.map (some w.heap.size)) (.string ⟨#[102, 111, 114, 103, 101, 116]⟩) (.int .i64 2)).run Tryz.prog _ = .ok () w14 := r14
  have r15 : (Instr.mapUpdate 38 (.map (some w.heap.size)) (.string ⟨#[100, 114, 111, 112]⟩) (.int .i64 2)).run Tryz.prog _ = .ok () w15 := r15
  have r16 : (Instr.mapUpdate 38 (.map (some w.heap.size)) (.string ⟨#[115, 99, 97, 110]⟩) (.int .i64 2)).run Tryz.prog _ = .ok () w16 := r16
  have r17 : (Instr.mapUpdate 38 (.map (some w.heap.size)) (.string ⟨#[112, 97, 103, 101]⟩) (.int .i64 2)).run Tryz.prog _ = .ok () w17 := r17
  have r18 : (Instr.mapUpdate 38 (.map (some w.heap.size)) (.string ⟨#[115, 116, 111, 114, 101]⟩) (.int .i64 3)).run Tryz.prog _ = .ok () w18 := r18
  go_enter Tryz.func11, Tryz.ntmps11
  go_wp2_with fail
  go_ret
  obtain ⟨D, ho, ha⟩ := HM.out.own
  have ha2 : Ag D allCmds := ha
  rw [all_many] at ha2
  exact ⟨rfl, ⟨D, _, ho, by decide, ha2⟩, HM.out.up⟩
end Go.Proofs.YtadpibcgjgcjhabGreatDoor
