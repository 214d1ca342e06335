/- Package leaves: how a map lies in memory, and what its inner functions answer and turn. -/
import Derived.Test.YtadpibcgjgcjhabGreatDoorMapM
namespace Go.Proofs.YtadpibcgjgcjhabGreatDoor
open Go.ChangeShapes Go.WideShapes Go.ChangeAt Go.RowKit
set_option maxRecDepth 100000

/-- A map of package leaves in memory: its block bl, its pool's header bp. -/
structure LvAt (w : World) (bl bp : Nat) (m : Mp) : Prop where
  pool : w.cell? ⟨bl, 0, none⟩ = some (.pointer (some ⟨bp, 0, none⟩))
  st : ∀ n, n < 16 → w.cell? ⟨bl, 1 + n * 4, none⟩ = some (.int .i64 (m.st n))
  th : ∀ n, n < 16 → w.cell? ⟨bl, 1 + n * 4 + 1, none⟩ = some (.bool (m.lf n).there)
  wr : ∀ n, n < 16 → w.cell? ⟨bl, 1 + n * 4 + 1 + 1, none⟩ = some (.bool (m.lf n).wr)
  fr : ∀ n, n < 16 → w.cell? ⟨bl, 1 + n * 4 + 1 + 2, none⟩ = some (.int .i64 (m.lf n).fr)
  fz : ∀ o, w.frozen? ⟨bl, o, none⟩ = false
theorem LvAt.lt {w : World} {bl bp : Nat} {m : Mp} (h : LvAt w bl bp m) : bl < w.heap.size := World.block_lt_of_cell? w _ h.pool
theorem LvAt.upd {S : Nat → Prop} {w w' : World} {bl bp : Nat} {m : Mp} (h : LvAt w bl bp m) (u : Upd S w w') (hx : ¬ S bl) : LvAt w' bl bp m where
  pool := u.cell h.pool hx
  st := fun n hn => u.cell (h.st n hn) hx
  th := fun n hn => u.cell (h.th n hn) hx
  wr := fun n hn => u.cell (h.wr n hn) hx
  fr := fun n hn => u.cell (h.fr n hn) hx
  fz := fun o => by rw [World.frozen?_of_block (w := w) (u.block bl h.lt hx)]; exact h.fz o
theorem LvAt.drew {w : World} {bl bp : Nat} {m : Mp} (h : LvAt w bl bp m) : LvAt w.drew bl bp m := ⟨h.pool, h.st, h.th, h.wr, h.fr, h.fz⟩
theorem LvAt.drewN {w : World} {bl bp : Nat} {m : Mp} (h : LvAt w bl bp m) (n : Nat) : LvAt (w.drewN n) bl bp m := ⟨h.pool, h.st, h.th, h.wr, h.fr, h.fz⟩

theorem LvAt.setSt {w : World} {bl bp : Nat} {m : Mp} (h : LvAt w bl bp m) {n : Nat} (hn : n < 16) (v : Int) : LvAt (w.setCell ⟨bl, 1 + n * 4, none⟩ (.int .i64 v)) bl bp { m with st := setAt m.st n v } where
  pool := by rw [World.cell?_setCell_other _ _ _ _ (addr_ne (Or.inr (by omega)))]; exact h.pool
  st := fun k hk => by
    by_cases e : k = n
    · subst e; rw [World.cell?_setCell_same _ _ _ (h.st k hk)]; simp [setAt]
    · rw [World.cell?_setCell_other _ _ _ _ (addr_ne (Or.inr (by omega))), h.st k hk]; simp [setAt, e]
  th := fun k hk => by rw [World.cell?_setCell_other _ _ _ _ (addr_ne (Or.inr (by omega)))]; exact h.th k hk
  wr := fun k hk => by rw [World.cell?_setCell_other _ _ _ _ (addr_ne (Or.inr (by omega)))]; exact h.wr k hk
  fr := fun k hk => by rw [World.cell?_setCell_other _ _ _ _ (addr_ne (Or.inr (by omega)))]; exact h.fr k hk
  fz := fun o => by rw [World.frozen?_setCell]; exact h.fz o
theorem LvAt.setWr {w : World} {bl bp : Nat} {m : Mp} (h : LvAt w bl bp m) {n : Nat} (hn : n < 16) (v : Bool) : LvAt (w.setCell ⟨bl, 1 + n * 4 + 1 + 1, none⟩ (.bool v)) bl bp { m with lf := setAt m.lf n { m.lf n with wr := v } } where
  pool := by rw [World.cell?_setCell_other _ _ _ _ (addr_ne (Or.inr (by omega)))]; exact h.pool
  st := fun k hk => by rw [World.cell?_setCell_other _ _ _ _ (addr_ne (Or.inr (by omega)))]; exact h.st k hk
  th := fun k hk => by
    rw [World.cell?_setCell_other _ _ _ _ (addr_ne (Or.inr (by omega))), h.th k hk]
    by_cases e : k = n
    · subst e; simp [setAt]
    · simp [setAt, e]
  wr := fun k hk => by
    by_cases e : k = n
    · subst e; rw [World.cell?_setCell_same _ _ _ (h.wr k hk)]; simp [setAt]
    · rw [World.cell?_setCell_other _ _ _ _ (addr_ne (Or.inr (by omega))), h.wr k hk]; simp [setAt, e]
  fr := fun k hk => by
    rw [World.cell?_setCell_other _ _ _ _ (addr_ne (Or.inr (by omega))), h.fr k hk]
    by_cases e : k = n
    · subst e; simp [setAt]
    · simp [setAt, e]
  fz := fun o => by rw [World.frozen?_setCell]; exact h.fz o
theorem LvAt.setLf {w : World} {bl bp : Nat} {m : Mp} (h : LvAt w bl bp m) {n : Nat} (hn : n < 16) (l : Lf) :
    LvAt (((w.setCell ⟨bl, 1 + n * 4 + 1, none⟩ (.bool l.there)).setCell ⟨bl, 1 + n * 4 + 1 + 1, none⟩ (.bool l.wr)).setCell ⟨bl, 1 + n * 4 + 1 + 2, none⟩ (.int .i64 l.fr)) bl bp { m with lf := setAt m.lf n l } := by
  have hne : ∀ (o : Nat), o ≠ 1 + n * 4 + 1 → o ≠ 1 + n * 4 + 1 + 1 → o ≠ 1 + n * 4 + 1 + 2 →
      (((w.setCell ⟨bl, 1 + n * 4 + 1, none⟩ (.bool l.there)).setCell ⟨bl, 1 + n * 4 + 1 + 1, none⟩ (.bool l.wr)).setCell ⟨bl, 1 + n * 4 + 1 + 2, none⟩ (.int .i64 l.fr)).cell? ⟨bl, o, none⟩ = w.cell? ⟨bl, o, none⟩ := by
    intro o h1 h2 h3
    rw [World.cell?_setCell_other _ _ _ _ (addr_ne (Or.inr (Ne.symm h3))), World.cell?_setCell_other _ _ _ _ (addr_ne (Or.inr (Ne.symm h2))), World.cell?_setCell_other _ _ _ _ (addr_ne (Or.inr (Ne.symm h1)))]
  have e1 : (w.setCell ⟨bl, 1 + n * 4 + 1, none⟩ (.bool l.there)).cell? ⟨bl, 1 + n * 4 + 1 + 1, none⟩ = some (.bool (m.lf n).wr) := by
    rw [World.cell?_setCell_other _ _ _ _ (addr_ne (Or.inr (by omega)))]; exact h.wr n hn
  have e2 : ((w.setCell ⟨bl, 1 + n * 4 + 1, none⟩ (.bool l.there)).setCell ⟨bl, 1 + n * 4 + 1 + 1, none⟩ (.bool l.wr)).cell? ⟨bl, 1 + n * 4 + 1 + 2, none⟩ = some (.int .i64 (m.lf n).fr) := by
    rw [World.cell?_setCell_other _ _ _ _ (addr_ne (Or.inr (by omega))), World.cell?_setCell_other _ _ _ _ (addr_ne (Or.inr (by omega)))]; exact h.fr n hn
  refine ⟨by rw [hne 0 (by omega) (by omega) (by omega)]; exact h.pool, fun k hk => by rw [hne _ (by omega) (by omega) (by omega)]; exact h.st k hk, ?_, ?_, ?_, fun o => by simp only [World.frozen?_setCell]; exact h.fz o⟩
  · intro k hk
    by_cases e : k = n
    · subst e
      rw [World.cell?_setCell_other _ _ _ _ (addr_ne (Or.inr (by omega))), World.cell?_setCell_other _ _ _ _ (addr_ne (Or.inr (by omega))), World.cell?_setCell_same _ _ _ (h.th k hk)]
      simp [setAt]
    · rw [hne _ (by omega) (by omega) (by omega), h.th k hk]; simp [setAt, e]
  · intro k hk
    by_cases e : k = n
    · subst e
      rw [World.cell?_setCell_other _ _ _ _ (addr_ne (Or.inr (by omega))), World.cell?_setCell_same _ _ _ e1]
      simp [setAt]
    · rw [hne _ (by omega) (by omega) (by omega), h.wr k hk]; simp [setAt, e]
  · intro k hk
    by_cases e : k = n
    · subst e
      rw [World.cell?_setCell_same _ _ _ e2]
      simp [setAt]
    · rw [hne _ (by omega) (by omega) (by omega), h.fr k hk]; simp [setAt, e]

attribute [local go_sem ↓] Go.wp_at_zero Go.wp_at_succ

theorem page_yes (w : World) (bl k : Nat) (hk : k < 16) :
    Calls Tryz.prog 147 #[.pointer (some ⟨bl, 0, none⟩), .int .i64 k] w fun e w' => e = .returned (.tuple #[.pointer (some ⟨bl, 1 + k * 4, none⟩), .nilIface]) ∧ w' = w := by
  have k0 : (0 : Int) ≤ (k : Int) := by omega
  have k1 : (k : Int) < 16 := by omega
  have d0 : decide ((k : Int) < 0) = false := by simp
  have d1 : decide ((16 : Int) ≤ (k : Int)) = false := by simp; omega
  go_enter Tryz.func147, Tryz.ntmps147
  go_wp2
  go_ret2
  exact ⟨rfl, rfl⟩
theorem page_no (w : World) (bl : Nat) (n : Int) (ho : onB n = false) :
    Calls Tryz.prog 147 #[.pointer (some ⟨bl, 0, none⟩), .int .i64 n] w fun e w' => e = .returned (.tuple #[.pointer none, .iface 37 (.int .i64 1)]) ∧ w' = w := by
  rcases (onB_no n).1 ho with h0 | h0
  · have d0 : decide (n < 0) = true := by simp; omega
    clear ho
    go_enter Tryz.func147, Tryz.ntmps147
    go_wp2
    go_ret2
    exact ⟨rfl, rfl⟩
  · have d0 : decide (n < 0) = false := by simp; omega
    have d1 : decide (16 ≤ n) = true := by simp; omega
    clear ho
    go_enter Tryz.func147, Tryz.ntmps147
    go_wp2
    go_ret2
    exact ⟨rfl, rfl⟩

/-- The page is in its frame no more: the pool. -/
def leaveP (s : Pl) (m : Mp) (k : Nat) : Pl := if (m.lf k).there then (s.share (m.lf k).fr (-1)).2 else s
def leaveM (m : Mp) (k : Nat) : Mp := { m with lf := setAt m.lf k lf0 }
theorem leave_any (w : World) (bl bp bf k : Nat) (m : Mp) (s : Pl) (h : LvAt w bl bp m) (hp : PoolAt w bp bf s) (h1 : bl ≠ bp) (h2 : bl ≠ bf) (hk : k < 16) (hlt : bf < w.heap.size) (hm : ∀ k, k < s.n → s.refs k ≤ 1000000) :
    Calls Tryz.prog 149 #[.pointer (some ⟨bl, 0, none⟩), .pointer (some ⟨bl, 1 + k * 4, none⟩)] w fun e w' => e = .returned (.tuple #[]) ∧ PoolAt w' bp bf (leaveP s m k) ∧ LvAt w' bl bp (leaveM m k) ∧ Upd (fun k => k = bf ∨ k = bl) w w' := by
  have c0 := h.pool
  have c1 := h.th k hk
  have c2 := h.fr k hk
  have H1 : Hid _ := h1
  have H2 : Hid _ := h2
  cases ht : (m.lf k).there with
  | false =>
    have c3 := h.wr k hk
    rw [ht] at c1
    simp only [leaveP, ht, Bool.false_eq_true, if_false]
    have d4 := h.fz (1 + k * 4 + 1)
    have d5 := h.fz (1 + k * 4 + 1 + 1)
    have d6 := h.fz (1 + k * 4 + 1 + 2)
    have h3 := h.setLf hk lf0
    have hu3 := Upd.three w bl (1 + k * 4 + 1) (1 + k * 4 + 1 + 1) (1 + k * 4 + 1 + 2) (.bool lf0.there) (.bool lf0.wr) (.int .i64 lf0.fr)
    have hp3 := hp.upd hu3 (Ne.symm h1) (Ne.symm h2) hlt
    have H3 : Hid _ := h3
    have HU3 : Hid _ := hu3
    have HP3 : Hid _ := hp3
    clear ht h3 hu3 hp3 h1 h2
    go_enter Tryz.func149, Tryz.ntmps149
    go_wp2_with fail
    go_end0
    exact ⟨rfl, HP3.out, H3.out, HU3.out.wide (fun _ e => Or.inr e)⟩
  | true =>
    rw [ht] at c1
    simp only [leaveP, ht, if_true]
    clear ht h1 h2
    go_enter Tryz.func149, Tryz.ntmps149
    go_wp2_with fail
    go_region_held3 (fun w' => w'.cell? ⟨bl, 0, none⟩ = some (.pointer (some ⟨bp, 0, none⟩)) ∧ w'.cell? ⟨bl, 1 + k * 4 + 1 + 2, none⟩ = some (.int .i64 (m.lf k).fr)) (first | exact ⟨c0, c2⟩ | exact h1c)
      ((go_at_call 178; refine (drop_any _ _ _ _ s (by first | exact hp | exact hp.drew) hm).mono ?_; rintro e w1 ⟨rfl, hp1, hu1⟩; have h1c : w1.cell? ⟨bl, 0, none⟩ = some (.pointer (some ⟨bp, 0, none⟩)) ∧ w1.cell? ⟨bl, 1 + k * 4 + 1 + 2, none⟩ = some (.int .i64 (m.lf k).fr) := ⟨hu1.cell (by exact c0) H2.out, hu1.cell (by exact c2) H2.out⟩))
    have hu1' : Upd (fun k => k = bf) w w1 := (Upd.refl (fun k => k = bf) w).drew.trans hu1 (fun _ _ e => e)
    have hl1 := h.upd hu1' H2.out
    have d1 := hl1.th k hk
    have d2 := hl1.wr k hk
    have d3 := hl1.fr k hk
    have d4 := hl1.fz (1 + k * 4 + 1)
    have d5 := hl1.fz (1 + k * 4 + 1 + 1)
    have d6 := hl1.fz (1 + k * 4 + 1 + 2)
    have h3 := hl1.setLf hk lf0
    have hu3 := Upd.three w1 bl (1 + k * 4 + 1) (1 + k * 4 + 1 + 1) (1 + k * 4 + 1 + 2) (.bool lf0.there) (.bool lf0.wr) (.int .i64 lf0.fr)
    have hp3 := hp1.upd hu3 (Ne.symm H1.out) (Ne.symm H2.out) (Nat.lt_of_lt_of_le hlt hu1'.size)
    have hu4 := (hu1'.wide (T := fun k => k = bf ∨ k = bl) (fun _ e => Or.inl e)).trans hu3 (fun _ _ e => Or.inr e)
    have H3 : Hid _ := h3
    have HU4 : Hid _ := hu4
    have HP3 : Hid _ := hp3
    clear h3 hu3 hp3 hu4 hl1 hu1 hu1' hp1 h1c c0 c1 c2
    go_wp2_with fail
    go_end0
    exact ⟨rfl, HP3.out, H3.out, HU4.out⟩
theorem alone_any (w : World) (bl bp bf : Nat) (f : Int) (m : Mp) (s : Pl) (h : LvAt w bl bp m) (hp : PoolAt w bp bf s) (f0 : 0 ≤ f) (f1 : f < s.n) :
    Calls Tryz.prog 191 #[.pointer (some ⟨bl, 0, none⟩), .int .i64 f] w fun e w' => e = .returned (.bool (s.refs f.toNat == 1)) ∧ Upd (fun _ => False) w w' := by
  obtain ⟨k, rfl⟩ := Int.eq_ofNat_of_zero_le f0
  rw [Int.toNat_natCast]
  have c0 := h.pool
  have hb : (classOf (s.refs k) == 1) = (s.refs k == 1) := by
    unfold classOf
    split
    · rename_i e; rw [e]
    · split
      · rename_i e; rw [e]
      · rename_i e0 e1
        simp [e1]
  rw [← hb]
  clear hb
  go_enter Tryz.func191, Tryz.ntmps191
  go_wp2_with fail
  refine (of_yes _ _ _ _ s hp (by omega)).mono ?_
  rintro e w1 ⟨rfl, hu1⟩
  go_wp2_with fail
  have d1 : (w1.alloc (.cells #[.int .i64 (classOf (s.refs k)), .int .i64 (s.refs k)] 67)).cell? ⟨w1.heap.size, 0, none⟩ = some (.int .i64 (classOf (s.refs k))) := by rw [World.cell?_alloc_new]; rfl
  have hu2 := hu1.alloc (.cells #[.int .i64 (classOf (s.refs k)), .int .i64 (s.refs k)] 67)
  go_ret
  exact ⟨rfl, hu2⟩
end Go.Proofs.YtadpibcgjgcjhabGreatDoor
