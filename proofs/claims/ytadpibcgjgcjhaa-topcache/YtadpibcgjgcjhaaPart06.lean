/- Package cache: Point. -/
import Derived.Test.YtadpibcgjgcjhaaPart05
import Derived.Test.YtadpibcgjgcjhaaPart03
import Derived.RangeFuncNested
import Derived.RangeFuncBound
import Derived.RangeFuncCalls
import Derived.RangeFuncLeaves
import Derived.Shelf.RegionOpen
import Derived.OwnWalkIn
import Derived.TacticsInMore
import Derived.LoopNIn
import Derived.LoopIn
import Derived.Deep.Slices
import Derived.ShutString
import Derived.ChangeOld
import Derived.Below
namespace Go.Proofs.Ytadpibcgjgcjhaa
open Go.ChangeShapes Go.WideShapes Go.ChangeAt Go.RowKit
set_option maxRecDepth 100000
attribute [local go_sem ↓] Go.wp_at_zero Go.wp_at_succ

def lfCells (l : Lf) : List Value := [.bool l.there, .bool l.wr, .int .i64 l.fr]
theorem CaAt.setLf {w : World} {b : Nat} {cur : Nat → En} {n : Nat} (h : CaAt w b cur n) {i : Nat} (hi : i < 4) (l : Lf) :
    CaAt (((w.setCell ⟨b, i * 7 + 4, none⟩ (.bool l.there)).setCell ⟨b, i * 7 + 4 + 1, none⟩ (.bool l.wr)).setCell ⟨b, i * 7 + 4 + 2, none⟩ (.int .i64 l.fr)) b (setAt cur i { cur i with lf := l }) n := by
  have hw : (((w.setCell ⟨b, i * 7 + 4, none⟩ (.bool l.there)).setCell ⟨b, i * 7 + 4 + 1, none⟩ (.bool l.wr)).setCell ⟨b, i * 7 + 4 + 2, none⟩ (.int .i64 l.fr)) = w.setCells b (i * 7 + 4) (lfCells l) := rfl
  rw [hw]
  have h3 : (lfCells l).length = 3 := rfl
  refine ⟨fun k j hk hj => ?_, ?_, fun o => by rw [World.frozen?_setCells]; exact h.fz o, h.le⟩
  · by_cases e : k = i
    · subst e
      rw [setAt_same]
      by_cases hj4 : j < 4
      · rw [World.cell?_setCells_out _ _ _ _ _ (fun _ _ => by simp only [h3]; omega), h.cells k j hk hj]
        rcases j with _ | _ | _ | _ | j
        all_goals first | rfl | omega
      · obtain ⟨v, hv⟩ : ∃ v, (lfCells l)[j - 4]? = some v := ⟨_, List.getElem?_eq_getElem (show j - 4 < (lfCells l).length by omega)⟩
        have := World.rangeAt_setCells_same w b (k * 7 + 4) (lfCells l) (fun o ho => h.there _ (by omega)) (j - 4) v hv
        rw [show k * 7 + 4 + (j - 4) = k * 7 + j by omega] at this
        rw [this, ← hv]
        obtain ⟨t, rfl⟩ : ∃ t, j = t + 4 := ⟨j - 4, by omega⟩
        rw [Nat.add_sub_cancel]
        rcases t with _ | _ | _ | t
        all_goals first | rfl | omega
    · rw [World.cell?_setCells_out _ _ _ _ _ (fun _ _ => by simp only [h3]; omega), h.cells k j hk hj, setAt_other _ _ _ _ e]
  · rw [World.cell?_setCells_out _ _ _ _ _ (fun _ _ => by simp only [h3]; omega)]; exact h.cnt
theorem Upd.setLf (w : World) (b i : Nat) (l : Lf) : Upd (fun k => k = b) w (((w.setCell ⟨b, i * 7 + 4, none⟩ (.bool l.there)).setCell ⟨b, i * 7 + 4 + 1, none⟩ (.bool l.wr)).setCell ⟨b, i * 7 + 4 + 2, none⟩ (.int .i64 l.fr)) := Upd.row w b (i * 7 + 4) (lfCells l)
theorem pntTo_get (d : Int) (l : Lf) (es : List En) : ∀ k, ∀ t, t < k → atE (pntTo d l es k) t = pnt d l (atE es t)
  | 0, _, h => absurd h (by omega)
  | k + 1, t, h => by
    have hl := pntTo_length d l es k
    unfold pntTo
    by_cases e : t = k
    · subst e
      simp [atE, List.getD_eq_getElem?_getD, hl]
    · have := pntTo_get d l es k t (by omega)
      rw [← this]
      simp [atE, List.getD_eq_getElem?_getD, List.getElem?_append_left (show t < (pntTo d l es k).length by omega)]
theorem kPoint_any (w : World) (b : Nat) (es : List En) (d : Int) (l : Lf) (h : CaL w b es) :
    Calls Try.prog 54 #[.pointer (some ⟨b, 0, none⟩), .int .i64 d, .agg #[.bool l.there, .bool l.wr, .int .i64 l.fr]] w fun e w' => e = .returned (.int .i64 (pntN d es es.length)) ∧ CaL w' b (pntTo d l es es.length) ∧ Upd (fun k => k = b) w w' := by
  obtain ⟨cur, h, hes⟩ := h
  have hle := h.le
  have hlt := h.lt
  have u0 := (Upd.refl (fun _ => False) w).alloc (.cells #[.bool l.there, .bool l.wr, .int .i64 l.fr] 69)
  have p0 : (w.alloc (.cells #[.bool l.there, .bool l.wr, .int .i64 l.fr] 69)).cell? ⟨w.heap.size, 0, none⟩ = some (.bool l.there) := by rw [World.cell?_alloc_new]; rfl
  have p1 : (w.alloc (.cells #[.bool l.there, .bool l.wr, .int .i64 l.fr] 69)).cell? ⟨w.heap.size, 1, none⟩ = some (.bool l.wr) := by rw [World.cell?_alloc_new]; rfl
  have p2 : (w.alloc (.cells #[.bool l.there, .bool l.wr, .int .i64 l.fr] 69)).cell? ⟨w.heap.size, 2, none⟩ = some (.int .i64 l.fr) := by rw [World.cell?_alloc_new]; rfl
  have HA0 : Hid _ := h.upd u0 (fun f => f)
  have HE : Hid _ := hes
  have U0 : Hid _ := u0
  have P0 : Hid _ := p0
  have P1 : Hid _ := p1
  have P2 : Hid _ := p2
  clear h hes u0 p0 p1 p2
  go_enter Try.func54, Try.ntmps54
  go_wp2_with fail
  refine (kLive_any _ b cur es.length HA0.out).mono ?_
  rintro e w1 ⟨rfl, m, rfl⟩
  have u1 := (Upd.refl (fun _ => False) (w.alloc (.cells #[.bool l.there, .bool l.wr, .int .i64 l.fr] 69))).drewN m
  have p0 := u1.cell P0.out (fun f => f)
  have p1 := u1.cell P1.out (fun f => f)
  have p2 := u1.cell P2.out (fun f => f)
  have HA1 : Hid _ := HA0.out.upd u1 (fun f => f)
  have U1 : Hid _ := U0.out.trans u1 (fun _ _ f => f)
  clear u1 U0 HA0 P0 P1 P2
  revert p0 p1 p2 HA1 U1
  generalize (w.alloc (.cells #[.bool l.there, .bool l.wr, .int .i64 l.fr] 69)).drewN m = w1
  generalize hB : w.heap.size = B
  have HB : Hid _ := hB
  intro p0 p1 p2 HA1 U1
  have hbB : b ≠ B := by omega
  clear hB hlt
  go_wp2_with fail
  go_loopg [7, 14] es.length (fun gg s7 s14 wi => ∃ (k : Nat) (c : Nat → En), k + gg = es.length ∧ s14 = .int .i64 k ∧ s7 = .int .i64 (pntN d es k) ∧ Hid (CaAt wi b c es.length) ∧ Hid (∀ t, t < k → c t = pnt d l (atE es t)) ∧ Hid (∀ t, k ≤ t → t < es.length → c t = atE es t) ∧ Hid (Upd (fun k => k = b) w1 wi))
  case atStart => exact ⟨0, cur, by omega, rfl, rfl, HA1.out, fun t ht => absurd ht (by omega), fun t _ ht => HE.out t ht, Upd.refl _ _⟩
  case round =>
    obtain ⟨k, c, hk, rfl, rfl, HA, HT1, HT2, HU⟩ := hrel
    have HK : Hid _ := hk
    by_cases hlt : k < es.length
    · clear hk
      have hA := HA.out
      have ek := HT2.out k (Nat.le_refl _) hlt
      have fz := hA.fz
      have c2 : wr.cell? ⟨b, k * 7 + 2, none⟩ = some (.int .i64 (atE es k).dest) := by have := hA.cells k 2 (by omega) (by omega); rw [ek] at this; exact this
      have c4 : wr.cell? ⟨b, k * 7 + 4, none⟩ = some (.bool (atE es k).lf.there) := by have := hA.cells k 4 (by omega) (by omega); rw [ek] at this; exact this
      have c5 : wr.cell? ⟨b, k * 7 + 4 + 1, none⟩ = some (.bool (atE es k).lf.wr) := by have := hA.cells k 5 (by omega) (by omega); rw [ek] at this; exact this
      have c6 : wr.cell? ⟨b, k * 7 + 4 + 2, none⟩ = some (.int .i64 (atE es k).lf.fr) := by have := hA.cells k 6 (by omega) (by omega); rw [ek] at this; exact this
      have q0 := HU.out.cell p0 (by simp only; omega)
      have q1 := HU.out.cell p1 (by simp only; omega)
      have q2 := HU.out.cell p2 (by simp only; omega)
      have hN : pntN d es (k + 1) = pntN d es k + if (atE es k).dest == d then 1 else 0 := rfl
      have hle2 := pntN_le d es k
      have HN : Hid _ := hN
      have HEK : Hid _ := ek
      clear hN hA ek p0 p1 p2
      generalize hx : atE es k = x at *
      have HX : Hid _ := hx
      clear hx
      have k0 : (0 : Int) ≤ (k : Int) := by omega
      have k1 : (k : Int) < es.length := by omega
      cases hd : (x.dest == d) with
      | true =>
        rw [hd] at HN
        generalize pntN d es k = v at *
        go_wp2_with fail
        go_roundg (es.length - (k + 1))
        case rel =>
          refine ⟨k + 1, setAt c k { c k with lf := l }, by have := HK.out; omega, by go_num, ?_, HA.out.setLf (by omega) l, (show Hid _ from fun t ht => ?_), (show Hid _ from fun t h1 h2 => ?_), HU.out.trans (Upd.setLf wr b k l) (fun _ _ e => e)⟩
          · rw [HN.out]; simp only [if_true]; first | rfl | go_num | (simp; go_num)
          · by_cases e : t = k
            · subst e
              rw [setAt_same, HEK.out, HX.out]
              simp [pnt, hd]
            · rw [setAt_other _ _ _ _ e]; exact HT1.out t (by omega)
          · rw [setAt_other _ _ _ _ (by omega)]; exact HT2.out t (by omega) h2
        case measure => have := HK.out; omega
      | false =>
        rw [hd] at HN
        generalize pntN d es k = v at *
        go_wp2_with fail
        go_roundg (es.length - (k + 1))
        case rel =>
          refine ⟨k + 1, c, by have := HK.out; omega, by go_num, ?_, HA.out, (show Hid _ from fun t ht => ?_), (show Hid _ from fun t h1 h2 => HT2.out t (by omega) h2), HU.out⟩
          · rw [HN.out]; simp
          · by_cases e : t = k
            · subst e
              rw [HEK.out, HX.out]
              simp [pnt, hd]
            · exact HT1.out t (by omega)
        case measure => have := HK.out; omega
    · have ek : k = es.length := by omega
      subst ek
      clear hk p0 p1 p2
      go_wp2_with fail
      go_ret
      refine ⟨rfl, ?_, (U1.out.free (S := fun k => k = b)).trans HU.out (fun _ _ e => e)⟩
      exact CaL.of HA.out (pntTo_length d l es es.length).symm (fun t ht => by rw [pntTo_length] at ht; rw [pntTo_get d l es es.length t ht]; exact HT1.out t ht)
end Go.Proofs.Ytadpibcgjgcjhaa
/- A function in which loops over iterators have run out: their marks, and how it is left. -/
namespace Go.Proofs.Ytadpibcgjgcjhaa
open Go.ChangeShapes Go.WideShapes Go.ChangeAt Go.RowKit

/-- The blocks that loops over iterators have laid, all taken up. -/
def Marks (base : Nat) (w : World) (ds : List Nat) : Prop := ds.Nodup ∧ ∀ D ∈ ds, base ≤ D ∧ D < w.heap.size ∧ w.heap[D]? = some (.deferred (some []))
def marks (ds : List Nat) : List Deferred := ds.map fun D => { target := .collected D, args := #[] }
theorem Marks.nil (base : Nat) (w : World) : Marks base w [] := ⟨List.nodup_nil, fun _ h => by simp at h⟩
theorem Marks.upd {S : Nat → Prop} {base : Nat} {w w' : World} {ds : List Nat} (h : Marks base w ds) (u : Upd S w w') (hS : ∀ D ∈ ds, ¬ S D) : Marks base w' ds :=
  ⟨h.1, fun D hD => by obtain ⟨a, b, c⟩ := h.2 D hD; exact ⟨a, Nat.lt_of_lt_of_le b u.size, by rw [u.block D b (hS D hD)]; exact c⟩⟩
theorem Marks.cons {base : Nat} {w : World} {ds : List Nat} {D : Nat} (h : Marks base w ds) (hb : base ≤ D) (hD : w.heap[D]? = some (.deferred (some []))) (hn : D ∉ ds) : Marks base w (D :: ds) :=
  ⟨List.nodup_cons.2 ⟨hn, h.1⟩, fun E hE => by
    rcases List.mem_cons.1 hE with rfl | hE
    · exact ⟨hb, by rcases Nat.lt_or_ge E w.heap.size with g | g; (· exact g); (· rw [Array.getElem?_eq_none g] at hD; cases hD), hD⟩
    · exact h.2 E hE⟩
/-- What the marks' taking leaves: all other blocks as they lay. -/
structure Took (ds : List Nat) (w w' : World) : Prop where
  os : w'.os = w.os
  tape : w'.tape = w.tape
  output : w'.output = w.output
  size : w'.heap.size = w.heap.size
  block : ∀ k, k ∉ ds → w'.heap[k]? = w.heap[k]?
theorem Took.upd {base : Nat} {ds : List Nat} {w w' : World} (h : Took ds w w') (hb : ∀ D ∈ ds, base ≤ D) : Upd (fun k => base ≤ k ∧ k ∈ ds) w w' :=
  ⟨h.os, h.tape, h.output, Nat.le_of_eq h.size.symm, fun k _ hn => h.block k (fun hk => hn ⟨hb k hk, hk⟩)⟩
theorem leaves_marks {F : Fence} {n : Nat} {P : Program} {fn : Func} {tmps : Array Value} {R : Ending → World → Prop} {base : Nat} : ∀ (ds : List Nat) (w : World), Marks base w ds →
    (∀ w', Took ds w w' → LeavesIn F n P fn tmps R [] .returning w') → LeavesInM F n P fn tmps R (marks ds) .returning w
  | [], w, _, h => h w ⟨rfl, rfl, rfl, rfl, fun _ _ => rfl⟩
  | D :: ds, w, hm, h => by
    have hD := hm.2 D (by simp)
    have hnd := List.nodup_cons.1 hm.1
    refine ⟨by simp, .inl ⟨D, w.putObj D (.deferred none), rfl, run_takeDeferred hD.2.2, ?_⟩⟩
    refine leaves_marks (base := base) ds (w.putObj D (.deferred none)) ⟨hnd.2, fun E hE => ?_⟩ (fun w' ht => h w' ?_)
    · have hE' := hm.2 E (by simp [hE])
      refine ⟨hE'.1, by simpa [World.putObj] using hE'.2.1, ?_⟩
      rw [World.putObj_heap_other (fun e => hnd.1 (by rw [← e]; exact hE))]
      exact hE'.2.2
    · refine ⟨ht.os, ht.tape, ht.output, by rw [ht.size]; simp [World.putObj], fun k hk => ?_⟩
      rw [ht.block k (fun g => hk (by simp [g])), World.putObj_heap_other (fun e => hk (by simp [e]))]
end Go.Proofs.Ytadpibcgjgcjhaa
/- Package cache: All, and what it goes over. -/
namespace Go.Proofs.Ytadpibcgjgcjhaa
open Go.ChangeShapes Go.WideShapes Go.ChangeAt Go.RowKit Go.Shelf
set_option maxRecDepth 100000
attribute [local go_sem] Oper.semAt_some

/-- What a round that goes on keeps: the copy, and where it stands. -/
def KpT (b B : Nat) (W W' : World) : Prop := W'.heap[b]? = W.heap[b]? ∧ W'.heap[B]? = W.heap[B]?
theorem KpT.trans {b B : Nat} {A C D : World} (h : KpT b B A C) (k : KpT b B C D) : KpT b B A D := ⟨k.1.trans h.1, k.2.trans h.2⟩
theorem KpT.upd {b B : Nat} {S : Nat → Prop} {A C : World} (u : Upd S A C) (hb : b < A.heap.size) (hB : B < A.heap.size) (h1 : ¬ S b) (h2 : ¬ S B) : KpT b B A C := ⟨u.block b hb h1, u.block B hB h2⟩
theorem KpT.put {b B : Nat} {w : World} (hb : b < w.heap.size) (hB : B < w.heap.size) (W : World) (l : Nat) (o o' : Obj) (hl : w.heap.size ≤ l) (_ : W.heap[l]? = some o) (_ : o.isCells = false) (_ : o.isWalk = false) : KpT b B W (W.putObj l o') :=
  ⟨World.putObj_heap_other (by omega), World.putObj_heap_other (by omega)⟩
theorem CaL.kp {b B : Nat} {W W' : World} {es : List En} (h : CaL W b es) (k : KpT b B W W') : CaL W' b es := by
  obtain ⟨c, h1, h2⟩ := h
  exact ⟨c, ⟨fun i j hi hj => by rw [World.cell?_of_block (w := W) (w' := W') k.1]; exact h1.cells i j hi hj, by rw [World.cell?_of_block (w := W) (w' := W') k.1]; exact h1.cnt, fun o => by rw [World.frozen?_of_block (w := W) (w' := W') k.1]; exact h1.fz o, h1.le⟩, h2⟩
def enArgs (es : List En) (i : Nat) : Array Value := #[.int .i64 i, .agg #[.int .i64 (atE es i).root, .int .i64 (atE es i).page, .int .i64 (atE es i).dest, .bool (atE es i).may, .bool (atE es i).lf.there, .bool (atE es i).lf.wr, .int .i64 (atE es i).lf.fr]]
theorem kAll_any (w : World) (b : Nat) (es : List En) (h : CaL w b es) :
    Calls Try.prog 55 #[.pointer (some ⟨b, 0, none⟩)] w fun e w' => ∃ B b', e = .returned (.func (.func 91) #[] #[.pointer (some ⟨B, 0, none⟩)]) ∧ w.heap.size ≤ B ∧ w.heap.size ≤ b' ∧ w'.cell? ⟨B, 0, none⟩ = some (.pointer (some ⟨b', 0, none⟩)) ∧ CaL w' b' es ∧ Upd (fun _ => False) w w' := by
  have HH : Hid (CaL w b es) := h
  clear h
  go_enter Try.func55, Try.ntmps55
  go_wp2_with fail
  refine (kCopy_any w b es HH.out).mono ?_
  rintro e w1 ⟨b', rfl, hb, hc, hu⟩
  have HC : Hid (CaL w1 b' es) := hc
  have HU : Hid _ := hu
  clear hc hu
  go_wp2_with fail
  go_ret
  have hz := HU.out.size
  exact ⟨_, b', rfl, by omega, hb, by rw [World.cell?_alloc_new]; rfl, HC.out.upd ((Upd.refl (fun _ => False) _).alloc _) (fun f => f), HU.out.alloc _⟩
theorem upd_of_below {w W : World} (h : Below w.heap.size w W) : Upd (fun _ => False) w W := ⟨h.os, h.tape, h.output, h.size, fun k hk _ => h.block k hk⟩
theorem grown_of_upd {w W : World} (h : Upd (fun _ => False) w W) : w.grownBy W none := ⟨h.os, h.tape, h.output, h.size, fun k hk _ => h.block k hk (fun f => f)⟩
theorem kAll_stops (n : Nat) (w : World) (B b' : Nat) (es : List En) (hB : w.cell? ⟨B, 0, none⟩ = some (.pointer (some ⟨b', 0, none⟩))) (hC : CaL w b' es) :
    SeqStopsK Fence.wide n Try.prog 91 #[.pointer (some ⟨B, 0, none⟩)] (enArgs es) (KpT b' B) (fun ys => ys = List.range es.length) (fun pre => ∃ k, k ≤ es.length ∧ pre = List.range k) es.length w := fun l J Jx W hW hJ hJx hY h0 => by
  have hu := upd_of_below hW
  have hB' := hu.cell hB (fun f => f)
  have HC0 : Hid (CaL W b' es) := hC.upd hu (fun f => f)
  have hle := hC.le
  have hlive : Calls Try.prog 87 #[.pointer (some ⟨b', 0, none⟩)] W fun e w' => e = .returned (.slice (some ⟨b', 0, none⟩) es.length 4) ∧ ∃ m, w' = W.drewN m := by
    obtain ⟨c, h1, h2⟩ := HC0.out
    exact kLive_any W b' c es.length h1
  have HL : Hid _ := hlive
  have HY : Hid _ := hY
  have HJ : Hid _ := hJ
  have hltB : B < W.heap.size := World.block_lt_of_cell? W _ hB'
  have hltb : b' < W.heap.size := HC0.out.lt
  clear hC hB hW hlive hu hY hJ
  have f84 : Fence.wide.fn 87 := trivial
  refine callsIn_of_wp Try.func91 rfl trivial ?_ rfl
  simp only [Try.ntmps91, List.size_toArray, List.length_cons, List.length_nil, Nat.reduceAdd, Nat.reduceSub, Array.replicate_succ, Array.replicate_zero, List.push_toArray, List.append_toArray, List.nil_append, List.cons_append]
  gi_wp2_with fail
  refine ⟨fun h => (by cases h), ?_⟩
  refine CallsIn.mono (callsIn_wide.2 HL.out) ?_
  rintro e w1 ⟨rfl, m, rfl⟩
  have hu1 := (Upd.refl (fun _ => False) W).drewN m
  have hj0 := HJ.out [] W (W.drewN m) none h0 (grown_of_upd hu1) (fun r e => by cases e)
  have HC1 : Hid (CaL (W.drewN m) b' es) := HC0.out.upd hu1 (fun f => f)
  have HK1 : Hid (KpT b' B W (W.drewN m)) := KpT.upd hu1 hltb hltB (fun f => f) (fun f => f)
  have HZ1 : Hid ((W.drewN m).heap.size = W.heap.size) := rfl
  clear hu1 h0 HL hB' HC0
  revert hj0 HC1 HK1 HZ1
  generalize W.drewN m = w1
  intro hj0 HC1 HK1 HZ1
  gi_wp2_with fail
  gi_loopw [8] (fun i wr => ∃ k : Nat, k ≤ es.length ∧ i = .int .i64 k ∧ Hid (J (List.range k) wr) ∧ Hid (CaL wr b' es))
    (fun i _ => es.length - (intOf i).toNat)
  case atStart => exact ⟨0, Nat.zero_le _, rfl, hj0, HC1.out⟩
  case round =>
    obtain ⟨k, hk, rfl, HJs, HCs⟩ := hrel
    by_cases hlt : k < es.length
    · obtain ⟨c, hA, ec⟩ := HCs.out
      have ek := ec k hlt
      have c0 : wr.cell? ⟨b', k * 7, none⟩ = some (.int .i64 (atE es k).root) := by have := hA.cells k 0 (by omega) (by omega); rw [ek] at this; exact this
      have c1 : wr.cell? ⟨b', k * 7 + 1, none⟩ = some (.int .i64 (atE es k).page) := by have := hA.cells k 1 (by omega) (by omega); rw [ek] at this; exact this
      have c2 : wr.cell? ⟨b', k * 7 + 2, none⟩ = some (.int .i64 (atE es k).dest) := by have := hA.cells k 2 (by omega) (by omega); rw [ek] at this; exact this
      have c3 : wr.cell? ⟨b', k * 7 + 3, none⟩ = some (.bool (atE es k).may) := by have := hA.cells k 3 (by omega) (by omega); rw [ek] at this; exact this
      have c4 : wr.cell? ⟨b', k * 7 + 4, none⟩ = some (.bool (atE es k).lf.there) := by have := hA.cells k 4 (by omega) (by omega); rw [ek] at this; exact this
      have c5 : wr.cell? ⟨b', k * 7 + 5, none⟩ = some (.bool (atE es k).lf.wr) := by have := hA.cells k 5 (by omega) (by omega); rw [ek] at this; exact this
      have c6 : wr.cell? ⟨b', k * 7 + 6, none⟩ = some (.int .i64 (atE es k).lf.fr) := by have := hA.cells k 6 (by omega) (by omega); rw [ek] at this; exact this
      have k0 : (0 : Int) ≤ (k : Int) := by omega
      have k1 : (k : Int) < es.length := by omega
      have hy := HY.out (List.range k) k
      unfold enArgs at hy
      generalize atE es k = x at c0 c1 c2 c3 c4 c5 c6 hy
      clear hA ec ek
      have hu2 := (Upd.refl (fun _ => False) wr).alloc (.cells #[.int .i64 x.root, .int .i64 x.page, .int .i64 x.dest, .bool x.may, .bool x.lf.there, .bool x.lf.wr, .int .i64 x.lf.fr] 85)
      have hj2 := HJ.out (List.range k) wr _ none HJs.out (grown_of_upd hu2) (fun r e => by cases e)
      obtain ⟨fn, tmps, assign, body, hyy, hR⟩ := hy _ hj2 (by rw [List.length_range]; exact hlt)
      have hHR : Hid _ := hR
      have HC2 : Hid (CaL (wr.alloc (.cells #[.int .i64 x.root, .int .i64 x.page, .int .i64 x.dest, .bool x.may, .bool x.lf.there, .bool x.lf.wr, .int .i64 x.lf.fr] 85)) b' es) := HCs.out.upd hu2 (fun f => f)
      clear hR hj2 hy hu2
      gi_wp2_with fail
      refine ⟨fun h => (by cases h), ?_⟩
      refine RoundIn.mono hHR.out ?_
      rintro e w3 (⟨rfl, hJ3, hk3⟩ | ⟨rfl, hJx3⟩)
      · have HJ3 : Hid _ := hJ3
        have HC3 : Hid (CaL w3 b' es) := HC2.out.kp hk3
        clear hJ3 hk3 HC2 hHR
        gi_wp2_with fail
        go_roundw
        case rel => exact ⟨k + 1, by omega, by go_num, by rw [List.range_succ]; exact HJ3.out, HC3.out⟩
        case measure => simp [intOf]; omega
      · have HJ3 : Hid _ := hJx3
        clear hJx3 HC2 hHR
        gi_wp2_with fail
        refine bodyPost_ret (results_none rfl _ _ _) rfl ?_
        exact ⟨⟨_, rfl⟩, .inr ⟨_, ⟨k + 1, by omega, List.range_succ.symm⟩, HJ3.out⟩⟩
    · obtain rfl : k = es.length := by omega
      gi_wp2_with fail
      go_end0
      exact ⟨⟨_, rfl⟩, .inl ⟨_, rfl, HJs.out⟩⟩
end Go.Proofs.Ytadpibcgjgcjhaa
/- Entries, plainly: no two have the same root and page; the program's ways and the document's are one. -/
namespace Go.Proofs.Ytadpibcgjgcjhaa

def KeyNe (a b : En) : Prop := ¬ (a.root = b.root ∧ a.page = b.page)
def Dist (es : List En) : Prop := es.Pairwise KeyNe
theorem isAt_iff (r p : Int) (e : En) : isAt r p e = true ↔ e.root = r ∧ e.page = p := by simp [isAt]
theorem isAt_false (r p : Int) (e : En) : isAt r p e = false ↔ ¬ (e.root = r ∧ e.page = p) := by
  rw [← isAt_iff, Bool.not_eq_true]
theorem atE_mem {es : List En} {i : Nat} (h : i < es.length) : atE es i ∈ es := by
  simp [atE, List.getD_eq_getElem?_getD, h]
theorem atE_get {es : List En} {i : Nat} (h : i < es.length) : atE es i = es[i] := by
  simp [atE, List.getD_eq_getElem?_getD, h]
theorem mem_flt {p : En → Bool} {es : List En} {x : En} : x ∈ flt p es ↔ x ∈ es ∧ p x = false := by
  simp [flt]
theorem dist_nil : Dist [] := List.Pairwise.nil
theorem dist_flt {es : List En} (h : Dist es) (p : En → Bool) : Dist (flt p es) := List.Pairwise.filter _ h
theorem cut1_sub (l : List En) : List.Sublist (cut1 l) l := by
  unfold cut1
  split
  · exact List.filter_sublist
  · exact List.Sublist.refl _
theorem putK_le (es : List En) (x : En) (h : es.length ≤ 4) : (putK es x).length ≤ 4 := by
  have h1 := flt_length (isAt x.root x.page) es
  have h2 := cut1_length (flt (isAt x.root x.page) es) (by omega)
  unfold putK
  simp; omega
theorem dist_putK {es : List En} (h : Dist es) (x : En) : Dist (putK es x) := by
  unfold Dist putK
  rw [List.pairwise_append]
  refine ⟨List.Pairwise.sublist (cut1_sub _) (dist_flt h _), List.pairwise_singleton _ _, fun a ha b hb => ?_⟩
  rw [List.mem_singleton] at hb
  subst hb
  have := (mem_flt.1 ((cut1_sub _).subset ha)).2
  exact (isAt_false _ _ _).1 this
theorem idx_self {es : List En} (h : Dist es) {i : Nat} (hi : i < es.length) : idxP (isAt (atE es i).root (atE es i).page) es = i := by
  refine idxP_some hi ((isAt_iff _ _ _).2 ⟨rfl, rfl⟩) (fun j hj => (isAt_false _ _ _).2 ?_)
  have := List.pairwise_iff_getElem.1 h j i (by omega) hi hj
  rw [atE_get hi, atE_get (show j < es.length by omega)]
  exact this
theorem atE_last (l : List En) (x : En) : atE (l ++ [x]) l.length = x := by simp [atE, List.getD_eq_getElem?_getD]
theorem idx_put {es : List En} (h : Dist es) (x : En) : idxP (isAt x.root x.page) (putK es x) = (cut1 (flt (isAt x.root x.page) es)).length ∧ (cut1 (flt (isAt x.root x.page) es)).length < (putK es x).length ∧ atE (putK es x) (cut1 (flt (isAt x.root x.page) es)).length = x := by
  have h1 := dist_putK h x
  have hlt : (cut1 (flt (isAt x.root x.page) es)).length < (putK es x).length := by unfold putK; simp
  have ex : atE (putK es x) (cut1 (flt (isAt x.root x.page) es)).length = x := atE_last _ _
  have := idx_self h1 hlt
  rw [ex] at this
  exact ⟨this, hlt, ex⟩
theorem idx_drop (es : List En) (r p : Int) : idxP (isAt r p) (flt (isAt r p) es) = -1 :=
  idxP_none (fun _ hi => (mem_flt.1 (atE_mem hi)).2)
theorem forget_root {es : List En} {r : Int} {i : Nat} (h : i < (flt (fun x => x.root == r) es).length) : ((atE (flt (fun x => x.root == r) es) i).root == r) = false := (mem_flt.1 (atE_mem h)).2
theorem fndI_idx (es : List En) (r p : Int) : fndI es r p = idxP (isAt r p) es := rfl
/-- Of the first k, by a test of the place that is a test of the entry. -/
theorem keepTo_flt (P : Nat → Bool) (p : En → Bool) (es : List En) (h : ∀ i, i < es.length → P i = !p (atE es i)) : ∀ k, k ≤ es.length → keepTo P es k = fltTo p es k
  | 0, _ => by simp [keepTo, fltTo]
  | k + 1, hk => by
    rw [fltTo_succ p es k (by omega)]
    unfold keepTo
    rw [keepTo_flt P p es h k (by omega), h k (by omega)]
    cases p (atE es k) <;> simp
theorem keep_drop {es : List En} (h : Dist es) (r p : Int) : keepTo (fun i => (i : Int) != fndI es r p) es es.length = flt (isAt r p) es := by
  rw [← fltTo_all, keepTo_flt _ (isAt r p) es (fun i hi => ?_) es.length (Nat.le_refl _)]
  rw [fndI_idx]
  rcases idxP_cases (isAt r p) es with ⟨k, hk, ek, hp, hb⟩ | ⟨ek, hb⟩
  · rw [ek]
    by_cases e : i = k
    · subst e; rw [hp]; simp
    · have hq : isAt r p (atE es i) = false := by
        refine (isAt_false _ _ _).2 (fun hh => ?_)
        have hpk := (isAt_iff _ _ _).1 hp
        rcases Nat.lt_or_ge i k with hlt | hge
        · have := List.pairwise_iff_getElem.1 h i k hi hk hlt
          rw [← atE_get hi, ← atE_get hk] at this
          exact this ⟨hh.1.trans hpk.1.symm, hh.2.trans hpk.2.symm⟩
        · have := List.pairwise_iff_getElem.1 h k i hk hi (by omega)
          rw [← atE_get hi, ← atE_get hk] at this
          exact this ⟨hpk.1.trans hh.1.symm, hpk.2.trans hh.2.symm⟩
      rw [hq]
      simp; omega
  · rw [ek, hb i hi]
    simp
theorem keep_forget (es : List En) (r : Int) : keepTo (fun i => (atE es i).root != r) es es.length = flt (fun x => x.root == r) es := by
  rw [← fltTo_all, keepTo_flt (fun i => (atE es i).root != r) (fun x => x.root == r) es (fun i hi => rfl) es.length (Nat.le_refl _)]
theorem drop_said (es : List En) (r p : Int) : decide ((0 : Int) < ((es.length - (flt (isAt r p) es).length : Nat) : Int)) = decide (0 ≤ fndI es r p) := by
  rw [fndI_idx]
  have hfl := flt_length (isAt r p) es
  rcases idxP_cases (isAt r p) es with ⟨k, hk, ek, hp, hb⟩ | ⟨ek, hb⟩
  · rw [ek]
    have : (flt (isAt r p) es).length < es.length := by
      unfold flt
      rcases Nat.lt_or_ge (es.filter fun e => !isAt r p e).length es.length with g | g
      · exact g
      · exfalso
        have e1 := List.Sublist.eq_of_length_le (List.filter_sublist (p := fun e => !isAt r p e) (l := es)) g
        have := (List.filter_eq_self.1 e1) (atE es k) (atE_mem hk)
        rw [hp] at this
        simp at this
    simp; omega
  · rw [ek]
    have : flt (isAt r p) es = es := by
      unfold flt
      rw [List.filter_eq_self]
      intro x hx
      obtain ⟨i, hi, rfl⟩ := List.getElem_of_mem hx
      have := hb i hi
      rw [atE_get hi] at this
      rw [this]; rfl
    rw [this]
    simp
theorem cut1_tail {l : List En} (h : Dist l) (h4 : l.length = 4) (x : En) : keepTo (fun i => (i : Int) != 0) (l ++ [x]) (l ++ [x]).length = cut1 l ++ [x] := by
  rcases l with _ | ⟨a, l⟩
  · simp at h4
  · have h2 : cut1 (a :: l) = l := by
      unfold cut1
      rw [if_pos h4]
      have ha : atE (a :: l) 0 = a := rfl
      rw [ha]
      unfold flt
      rw [List.filter_cons_of_neg (by rw [(isAt_iff a.root a.page a).2 ⟨rfl, rfl⟩]; simp), List.filter_eq_self]
      intro y hy
      have := (List.pairwise_cons.1 h).1 y hy
      rw [(isAt_false _ _ _).2 (fun e => this ⟨e.1.symm, e.2.symm⟩)]; rfl
    rw [h2]
    have aux : ∀ (m : List En) (k : Nat), k ≤ m.length → keepTo (fun i => (i : Int) != 0) (a :: m) (k + 1) = m.take k := by
      intro m k
      induction k with
      | zero => intro _; simp [keepTo]
      | succ k ih =>
        intro hk
        unfold keepTo
        rw [ih (by omega), List.take_add_one, List.getElem?_eq_getElem (by omega)]
        have : (((k + 1 : Nat) : Int) != 0) = true := by simp; omega
        rw [this]
        have e2 : atE (a :: m) (k + 1) = m[k] := by simp [atE, List.getD_eq_getElem?_getD, List.getElem?_eq_getElem (show k < m.length by omega)]
        simp [e2]
    have := aux (l ++ [x]) (l ++ [x]).length (Nat.le_refl _)
    rw [List.take_length] at this
    exact this
theorem put_same {es : List En} (h : Dist es) (h4 : es.length ≤ 4) (x : En) : putC es x = putK es x := by
  unfold putC putK
  simp only
  rw [keep_drop h]
  have hd := dist_flt h (isAt x.root x.page)
  have hl := flt_length (isAt x.root x.page) es
  generalize flt (isAt x.root x.page) es = l at *
  by_cases e : l.length = 4
  · rw [if_pos (by simp; omega)]
    exact cut1_tail hd e x
  · rw [if_neg (by simp; omega)]
    unfold cut1
    rw [if_neg e]
theorem pnt_key (d : Int) (l : Lf) (e : En) : (pnt d l e).root = e.root ∧ (pnt d l e).page = e.page := by unfold pnt; split <;> exact ⟨rfl, rfl⟩
theorem pntTo_map (d : Int) (l : Lf) (es : List En) : ∀ k, k ≤ es.length → pntTo d l es k = (es.take k).map (pnt d l)
  | 0, _ => by simp [pntTo]
  | k + 1, h => by
    unfold pntTo
    rw [pntTo_map d l es k (by omega), take_succ_atE es k (by omega)]
    simp
theorem dist_point {es : List En} (h : Dist es) (d : Int) (l : Lf) : Dist (pntTo d l es es.length) := by
  rw [pntTo_map d l es es.length (Nat.le_refl _), List.take_length]
  unfold Dist
  rw [List.pairwise_map]
  refine List.Pairwise.imp (fun {a b} hab => ?_) h
  unfold KeyNe
  rw [(pnt_key d l a).1, (pnt_key d l a).2, (pnt_key d l b).1, (pnt_key d l b).2]
  exact hab
end Go.Proofs.Ytadpibcgjgcjhaa
/- How a list of acts that came in lies in memory: what each statement over acts is told of its argument. -/
namespace Go.Proofs.Ytadpibcgjgcjhaa
open Go.ChangeShapes Go.WideShapes Go.ChangeAt Go.RowKit Go.Deep
set_option maxRecDepth 100000

theorem cells38 : Try.prog.cellsOf 38 = 6 := by kernel_rfl
theorem cells3 : Try.prog.cellsOf 3 = 1 := by kernel_rfl
theorem cells4 : Try.prog.cellsOf 4 = 1 := by kernel_rfl
theorem cells5 : Try.prog.cellsOf 5 = 1 := by kernel_rfl
theorem cells9 : Try.prog.cellsOf 9 = 1 := by kernel_rfl

theorem act_of {H : Type} {enc : TypeId × Value → H} {W : World} {base n : Nat} {sp : Nat → Bool} {held : Bool} {cs : List Value} {y : DataW H × List MemPlace}
    (h : DataW.trod enc Try.prog W base sp held n 38 cs = some y) :
    ∃ x : Ac, cs = [.string x.kind, .int .i64 x.n, .int .i64 x.a, .int .i64 x.b, .int .u8 x.v, .bool x.on] ∧ (Lit.int .u8 x.v).wf = true := by
  obtain ⟨xs, m, _, _, hl, hlen, hf⟩ := DataW.trod_struct Try.underlying38 h
  rw [cells38] at hl
  have hx : xs.length = 6 := hlen
  match cs, hl, xs, hx with
  | [c0, c1, c2, c3, c4, c5], _, [y0, y1, y2, y3, y4, y5], _ =>
    have g0 := hf 0 _ rfl
    have g1 := hf 1 _ rfl
    have g2 := hf 2 _ rfl
    have g3 := hf 3 _ rfl
    have g4 := hf 4 _ rfl
    have g5 := hf 5 _ rfl
    simp [cells3, cells4, cells5, cells9] at g0 g1 g2 g3 g4 g5
    obtain ⟨s, e0, _, _⟩ := DataW.trod_string Try.underlying9 g0
    obtain ⟨i1, e1, _, _⟩ := DataW.trod_int Try.underlying3 g1
    obtain ⟨i2, e2, _, _⟩ := DataW.trod_int Try.underlying3 g2
    obtain ⟨i3, e3, _, _⟩ := DataW.trod_int Try.underlying3 g3
    obtain ⟨i4, e4, _, w4⟩ := DataW.trod_int Try.underlying5 g4
    obtain ⟨b5, e5, _⟩ := DataW.trod_bool Try.underlying4 g5
    simp at e0 e1 e2 e3 e4 e5
    subst e0 e1 e2 e3 e4 e5
    exact ⟨⟨s, i1, i2, i3, i4, b5⟩, rfl, w4⟩

theorem acts_of {H : Type} {enc : TypeId × Value → H} {W : World} {a : Option Addr} {len cap : Nat} {d : DataW H} {ps : List MemPlace}
    (h : DataW.Trod enc Try.prog W 0 (fun _ => true) true 22 (.slice a len cap) d ps) : ∃ acts, ActsAt W a len acts ∧ (∀ k, k < len → (Lit.int .u8 (acts k).v).wf = true) ∧ len ≤ maxLen := by
  obtain ⟨fuel, hf⟩ := h
  rcases open_slice Try.underlying22 hf with ⟨hcs, _⟩ | ⟨x, l, c, m, n, D, Pl, hcs, _, hl, hm, hmm, _, hx⟩
  · simp [Value.cells] at hcs
    obtain ⟨rfl, rfl, rfl⟩ := hcs
    exact ⟨fun _ => ⟨⟨#[]⟩, 0, 0, 0, 0, false⟩, fun k hk => absurd hk (by omega), fun k hk => absurd hk (by omega), by omega⟩
  · simp [Value.cells] at hcs
    obtain ⟨rfl, rfl, rfl⟩ := hcs
    simp at hmm
    subst hmm
    rw [cells38] at hx
    obtain ⟨b, off, spot⟩ := x
    have hspot : 0 < len → spot = none := by
      intro h
      obtain ⟨cs', h1, h2⟩ := hx 0 (by omega)
      obtain ⟨y, rfl, hw⟩ := act_of h2
      obtain ⟨_, _, h3⟩ := World.cells?_some h1
      have h30 := h3 0 (by omega)
      simpa [Addr.add] using World.cell?_spot h30
    have each : ∀ i, i < len → ∃ y : Ac, ActAt W b (off + i * 6) y ∧ (Lit.int .u8 y.v).wf = true ∧ spot = none := by
      intro i hi
      obtain ⟨cs', h1, h2⟩ := hx i (by omega)
      obtain ⟨y, rfl, hw⟩ := act_of h2
      obtain ⟨_, _, h3⟩ := World.cells?_some h1
      obtain rfl := hspot (by omega)
      have e : ∀ j, (((⟨b, off, none⟩ : Addr).add (i * 6)).add j) = ⟨b, off + i * 6 + j, none⟩ := fun j => by rw [Addr.add_mid, Addr.add_mid]
      simp only [e] at h3
      exact ⟨y, ⟨by simpa using h3 0 (by omega), by simpa using h3 1 (by omega), by simpa using h3 2 (by omega), by simpa using h3 3 (by omega), by simpa using h3 4 (by omega), by simpa using h3 5 (by omega)⟩, hw, rfl⟩
    let acts : Nat → Ac := fun i => if h : i < len then (each i h).choose else ⟨⟨#[]⟩, 0, 0, 0, 0, false⟩
    have ha : ∀ i (h : i < len), acts i = (each i h).choose := fun i h => by simp [acts, h]
    refine ⟨acts, fun i hi => ?_, fun i hi => ?_, by omega⟩
    · obtain ⟨g1, g2, g3⟩ := (each i hi).choose_spec
      subst g3
      exact ⟨b, off, rfl, by rw [ha i hi]; exact g1⟩
    · rw [ha i hi]; exact (each i hi).choose_spec.2.1
end Go.Proofs.Ytadpibcgjgcjhaa
/- A loop over a cache's entries: the law of a range over a function, for what All answers; frames by a function. -/
namespace Go.Proofs.Ytadpibcgjgcjhaa
open Go.ChangeShapes Go.WideShapes Go.ChangeAt Go.RowKit Go.Shelf
set_option maxRecDepth 100000

/-- The loop over the function that stands in that slot. -/
def rfAt (n : Nat) : Code → Option Code
  | .rangeFunc (.tmp m) ps a b => if m = n then some (.rangeFunc (.tmp m) ps a b) else none
  | .block _ c => rfAt n c
  | .seq a b => match rfAt n a with
    | some c => some c
    | none => rfAt n b
  | .cond _ a b => match rfAt n a with
    | some c => some c
    | none => rfAt n b
  | .loop c => rfAt n c
  | _ => none
/-- The block of that number. -/
def blkAt (n : Nat) : Code → Option Code
  | .block i c => if i = n then some (.block i c) else blkAt n c
  | .seq a b => match blkAt n a with
    | some c => some c
    | none => blkAt n b
  | .cond _ a b => match blkAt n a with
    | some c => some c
    | none => blkAt n b
  | .loop c => blkAt n c
  | _ => none
/-- The first loop's body. -/
def loopIn : Code → Option Code
  | .loop c => some c
  | .seq a b => match loopIn a with
    | some c => some c
    | none => loopIn b
  | .block _ c => loopIn c
  | .cond _ a b => match loopIn a with
    | some c => some c
    | none => loopIn b
  | _ => none
theorem own_upd {β : Type} (S : Nat → Prop) (w : World) : OwnFrom w.heap.size (fun (_ : β) W => Upd S w W) := fun _ A B row hs hg hr =>
  ⟨hg.os.trans hs.os, hg.tape.trans hs.tape, hg.output.trans hs.output, Nat.le_trans hs.size hg.size, fun k hk hn => by
    refine (hg.block k (Nat.lt_of_lt_of_le hk hs.size) (fun e => ?_)).trans (hs.block k hk hn)
    have := (hr k e.symm).1
    omega⟩
theorem own_block {β : Type} (B : Nat) (f : β → Nat × Array Value × TypeId) : OwnFrom B (fun s W => W.heap[(f s).1]? = some (.cells (f s).2.1 (f s).2.2)) := fun s X Y row hs hg hr => by
  refine (hg.block _ (Array.getElem?_eq_some_iff.1 hs).1 (fun e => ?_)).trans hs
  obtain ⟨o, ho, hc⟩ := (hr _ e.symm).2
  rw [hs] at ho
  cases ho
  cases hc
theorem keeps_of_upd {B : Nat} {W W' : World} (u : Upd (fun _ => False) W W') : KeepsFrom B W W' := ⟨u.size, fun k _ _ hk _ => (u.block k (Array.getElem?_eq_some_iff.1 hk).1 (fun f => f)).trans hk⟩
theorem keeps_of_box {B b : Nat} {cs : Array Value} {ty : TypeId} {W W' : World} (u : Upd (fun k => k = b) W W') (hb : W.heap[b]? = some (.cells cs ty)) : KeepsFrom B W W' := ⟨u.size, fun k o _ hk ho => by
  refine (u.block k (Array.getElem?_eq_some_iff.1 hk).1 (fun e => ?_)).trans hk
  subst e
  rw [hb] at hk
  cases hk
  cases ho⟩
theorem range_law {g : Operand} {ps : Array Tmp} {assign body : Code} {Q : Exit → Act → World → Prop} {a : Act} {w : World} (B b' : Nat) (es : List En)
    (hg : a.eval g = .func (.func 91) #[] #[.pointer (some ⟨B, 0, none⟩)]) (hB : w.cell? ⟨B, 0, none⟩ = some (.pointer (some ⟨b', 0, none⟩))) (hC : CaL w b' es) (hps : ps.size = 2)
    (I : List Nat → World → Prop) (Ix : Code → List Nat → World → Prop) (hI : OwnFrom w.heap.size I) (hIx : ∀ c, OwnFrom w.heap.size (Ix c)) (h0 : I [] w) (Ax : Nat → Act → World → Prop) (hAx : ∀ x a', OwnFrom w.heap.size (fun (_ : Unit) W => Ax x a' W))
    (hIz : ∀ pre W, I pre W → w.heap.size ≤ W.heap.size)
    (hassign : ∀ (l : Nat) (pre : List Nat) (x : Nat) (W : World) (K : Act → World → Prop), I pre W → (∀ a' W', Upd (fun _ => False) W W' → I pre W' → Ax x a' W' → K a' W') →
      assign.wpIn (Fence.wide.inRound l) 6 Try.prog (Exit.then K (fun _ _ _ => False)) { tmps := (ps.zip (enArgs es x)).foldl (fun t (p, v) => t.setIfInBounds p v) a.tmps, defers := [] } W)
    (hbody : ∀ (l : Nat) (pre : List Nat) (x : Nat) (a' : Act) (W : World), I pre W → Ax x a' W → pre.length < es.length → body.wpIn (Fence.wide.inRound l) 6 Try.prog (ownPostG w.heap.size (KpT b' B) I Ix (pre ++ [x]) W) a' W)
    (hdone : ∀ (D : Nat) (W : World), w.heap.size ≤ D → I (List.range es.length) W → W.heap[D]? = some (.deferred (some [])) → Q .normal { a with defers := { target := .collected D, args := #[] } :: a.defers } W)
    (hstop : ∀ (D : Nat) (c : Code) (k : Nat) (W : World), w.heap.size ≤ D → k ≤ es.length → Ix c (List.range k) W → W.heap[D]? = some (.deferred (some [])) → c.wp Try.prog Q { a with defers := { target := .collected D, args := #[] } :: a.defers } W) :
    (Code.rangeFunc g ps assign body).wp Try.prog Q a w := by
  have hltB : B < w.heap.size := World.block_lt_of_cell? w _ hB
  have hltb : b' < w.heap.size := hC.lt
  refine (wpIn_wide (n := 8)).1 ?_
  refine wpIn_rangeFunc_ownH (F := Fence.wide) (n := 8) rfl (by omega) hg trivial (enters_of Try.func91 (by kernel_rfl) rfl) (kAll_stops 7 w B b' es hB hC) (fun h k => KpT.trans h k) (KpT.put hltb hltB) (Below.refl _ _) (fun x => by rw [hps]; rfl) I Ix hI hIx h0 Ax hAx ?_ ?_ ?_ ?_
  · intro l pre x W K hi hK
    refine hassign l pre x W K hi (fun a' W' hu hi' hax => hK a' W' (keeps_of_upd hu) ?_ hi' hax)
    have := hIz pre W hi
    exact KpT.upd hu (by omega) (by omega) (fun f => f) (fun f => f)
  · intro l pre x a' W _ _ hi hax hn
    exact hbody l pre x a' W hi hax hn
  · intro D xs W hD hS hi hd
    subst hS
    exact hdone D W hD hi hd
  · rintro D c pre W hD ⟨k, hk, rfl⟩ hix hd
    exact wpIn_wide.2 (hstop D c k W hD hk hix hd)
theorem frame_fn (l : List Value) : l.toArray = ((List.range l.length).map (fun i => l.getD i undef)).toArray := by
  congr 1
  apply List.ext_getElem
  · simp
  · intro i h1 h2
    simp [List.getD_eq_getElem?_getD, h1]
end Go.Proofs.Ytadpibcgjgcjhaa
