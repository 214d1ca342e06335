/- Package leaves: how a map lies in memory, and what its inner functions answer and turn. -/
import Derived.Test.YtadpibcgjgcjhaaPart03
namespace Go.Proofs.Ytadpibcgjgcjhaa
open Go.ChangeShapes Go.WideShapes Go.ChangeAt Go.RowKit
set_option maxRecDepth 100000

/-- A map of package leaves in memory: its block bl, its pool's header bp. -/
structure LvAt (w : World) (bl bp : Nat) (m : Mp) : Prop where
  pool : w.cell? ⟨bl, 0, none⟩ = some (.pointer (some ⟨bp, 0, none⟩))
  st : ∀ n, n < 16 → w.cell? ⟨bl, 1 + n * 4, none⟩ = some (.int .i64 (m.st n))
  th : ∀ n, n < 16 → w.cell? ⟨bl, 1 + n * 4 + 1, none⟩ = some (.bool (m.lf n).there)
  wr : ∀ n, n < 16 → w.cell? ⟨bl, 1 + n * 4 + 1 + 1, none⟩ = some (.bool (m.lf n).wr)
  fr : ∀ n, n < 16 → w.cell? ⟨bl, 1 + n * 4 + 1 + 2, none⟩ = some (.int .i64 (m.lf n).fr)
  fz : ∀ o, w.frozen? ⟨bl, o, none⟩ = false
theorem LvAt.lt {w : World} {bl bp : Nat} {m : Mp} (h : LvAt w bl bp m) : bl < w.heap.size := World.block_lt_of_cell? w _ h.pool
theorem LvAt.upd {S : Nat → Prop} {w w' : World} {bl bp : Nat} {m : Mp} (h : LvAt w bl bp m) (u : Upd S w w') (hx : ¬ S bl) : LvAt w' bl bp m where
  pool := u.cell h.pool hx
  st := fun n hn => u.cell (h.st n hn) hx
  th := fun n hn => u.cell (h.th n hn) hx
  wr := fun n hn => u.cell (h.wr n hn) hx
  fr := fun n hn => u.cell (h.fr n hn) hx
  fz := fun o => by rw [World.frozen?_of_block (w := w) (u.block bl h.lt hx)]; exact h.fz o
theorem LvAt.drew {w : World} {bl bp : Nat} {m : Mp} (h : LvAt w bl bp m) : LvAt w.drew bl bp m := ⟨h.pool, h.st, h.th, h.wr, h.fr, h.fz⟩
theorem LvAt.drewN {w : World} {bl bp : Nat} {m : Mp} (h : LvAt w bl bp m) (n : Nat) : LvAt (w.drewN n) bl bp m := ⟨h.pool, h.st, h.th, h.wr, h.fr, h.fz⟩

theorem LvAt.setSt {w : World} {bl bp : Nat} {m : Mp} (h : LvAt w bl bp m) {n : Nat} (hn : n < 16) (v : Int) : LvAt (w.setCell ⟨bl, 1 + n * 4, none⟩ (.int .i64 v)) bl bp { m with st := setAt m.st n v } where
  pool := by rw [World.cell?_setCell_other _ _ _ _ (addr_ne (Or.inr (by omega)))]; exact h.pool
  st := fun k hk => by
    by_cases e : k = n
    · subst e; rw [World.cell?_setCell_same _ _ _ (h.st k hk)]; simp [setAt]
    · rw [World.cell?_setCell_other _ _ _ _ (addr_ne (Or.inr (by omega))), h.st k hk]; simp [setAt, e]
  th := fun k hk => by rw [World.cell?_setCell_other _ _ _ _ (addr_ne (Or.inr (by omega)))]; exact h.th k hk
  wr := fun k hk => by rw [World.cell?_setCell_other _ _ _ _ (addr_ne (Or.inr (by omega)))]; exact h.wr k hk
  fr := fun k hk => by rw [World.cell?_setCell_other _ _ _ _ (addr_ne (Or.inr (by omega)))]; exact h.fr k hk
  fz := fun o => by rw [World.frozen?_setCell]; exact h.fz o
theorem LvAt.setWr {w : World} {bl bp : Nat} {m : Mp} (h : LvAt w bl bp m) {n : Nat} (hn : n < 16) (v : Bool) : LvAt (w.setCell ⟨bl, 1 + n * 4 + 1 + 1, none⟩ (.bool v)) bl bp { m with lf := setAt m.lf n { m.lf n with wr := v } } where
  pool := by rw [World.cell?_setCell_other _ _ _ _ (addr_ne (Or.inr (by omega)))]; exact h.pool
  st := fun k hk => by rw [World.cell?_setCell_other _ _ _ _ (addr_ne (Or.inr (by omega)))]; exact h.st k hk
  th := fun k hk => by
    rw [World.cell?_setCell_other _ _ _ _ (addr_ne (Or.inr (by omega))), h.th k hk]
    by_cases e : k = n
    · subst e; simp [setAt]
    · simp [setAt, e]
  wr := fun k hk => by
    by_cases e : k = n
    · subst e; rw [World.cell?_setCell_same _ _ _ (h.wr k hk)]; simp [setAt]
    · rw [World.cell?_setCell_other _ _ _ _ (addr_ne (Or.inr (by omega))), h.wr k hk]; simp [setAt, e]
  fr := fun k hk => by
    rw [World.cell?_setCell_other _ _ _ _ (addr_ne (Or.inr (by omega))), h.fr k hk]
    by_cases e : k = n
    · subst e; simp [setAt]
    · simp [setAt, e]
  fz := fun o => by rw [World.frozen?_setCell]; exact h.fz o
theorem LvAt.setLf {w : World} {bl bp : Nat} {m : Mp} (h : LvAt w bl bp m) {n : Nat} (hn : n < 16) (l : Lf) :
    LvAt (((w.setCell ⟨bl, 1 + n * 4 + 1, none⟩ (.bool l.there)).setCell ⟨bl, 1 + n * 4 + 1 + 1, none⟩ (.bool l.wr)).setCell ⟨bl, 1 + n * 4 + 1 + 2, none⟩ (.int .i64 l.fr)) bl bp { m with lf := setAt m.lf n l } := by
  have hne : ∀ (o : Nat), o ≠ 1 + n * 4 + 1 → o ≠ 1 + n * 4 + 1 + 1 → o ≠ 1 + n * 4 + 1 + 2 →
      (((w.setCell ⟨bl, 1 + n * 4 + 1, none⟩ (.bool l.there)).setCell ⟨bl, 1 + n * 4 + 1 + 1, none⟩ (.bool l.wr)).setCell ⟨bl, 1 + n * 4 + 1 + 2, none⟩ (.int .i64 l.fr)).cell? ⟨bl, o, none⟩ = w.cell? ⟨bl, o, none⟩ := by
    intro o h1 h2 h3
    rw [World.cell?_setCell_other _ _ _ _ (addr_ne (Or.inr (Ne.symm h3))), World.cell?_setCell_other _ _ _ _ (addr_ne (Or.inr (Ne.symm h2))), World.cell?_setCell_other _ _ _ _ (addr_ne (Or.inr (Ne.symm h1)))]
  have e1 : (w.setCell ⟨bl, 1 + n * 4 + 1, none⟩ (.bool l.there)).cell? ⟨bl, 1 + n * 4 + 1 + 1, none⟩ = some (.bool (m.lf n).wr) := by
    rw [World.cell?_setCell_other _ _ _ _ (addr_ne (Or.inr (by omega)))]; exact h.wr n hn
  have e2 : ((w.setCell ⟨bl, 1 + n * 4 + 1, none⟩ (.bool l.there)).setCell ⟨bl, 1 + n * 4 + 1 + 1, none⟩ (.bool l.wr)).cell? ⟨bl, 1 + n * 4 + 1 + 2, none⟩ = some (.int .i64 (m.lf n).fr) := by
    rw [World.cell?_setCell_other _ _ _ _ (addr_ne (Or.inr (by omega))), World.cell?_setCell_other _ _ _ _ (addr_ne (Or.inr (by omega)))]; exact h.fr n hn
  refine ⟨by rw [hne 0 (by omega) (by omega) (by omega)]; exact h.pool, fun k hk => by rw [hne _ (by omega) (by omega) (by omega)]; exact h.st k hk, ?_, ?_, ?_, fun o => by simp only [World.frozen?_setCell]; exact h.fz o⟩
  · intro k hk
    by_cases e : k = n
    · subst e
      rw [World.cell?_setCell_other _ _ _ _ (addr_ne (Or.inr (by omega))), World.cell?_setCell_other _ _ _ _ (addr_ne (Or.inr (by omega))), World.cell?_setCell_same _ _ _ (h.th k hk)]
      simp [setAt]
    · rw [hne _ (by omega) (by omega) (by omega), h.th k hk]; simp [setAt, e]
  · intro k hk
    by_cases e : k = n
    · subst e
      rw [World.cell?_setCell_other _ _ _ _ (addr_ne (Or.inr (by omega))), World.cell?_setCell_same _ _ _ e1]
      simp [setAt]
    · rw [hne _ (by omega) (by omega) (by omega), h.wr k hk]; simp [setAt, e]
  · intro k hk
    by_cases e : k = n
    · subst e
      rw [World.cell?_setCell_same _ _ _ e2]
      simp [setAt]
    · rw [hne _ (by omega) (by omega) (by omega), h.fr k hk]; simp [setAt, e]

attribute [local go_sem ↓] Go.wp_at_zero Go.wp_at_succ

theorem page_yes (w : World) (bl k : Nat) (hk : k < 16) :
    Calls Try.prog 72 #[.pointer (some ⟨bl, 0, none⟩), .int .i64 k] w fun e w' => e = .returned (.tuple #[.pointer (some ⟨bl, 1 + k * 4, none⟩), .nilIface]) ∧ w' = w := by
  have k0 : (0 : Int) ≤ (k : Int) := by omega
  have k1 : (k : Int) < 16 := by omega
  have d0 : decide ((k : Int) < 0) = false := by simp
  have d1 : decide ((16 : Int) ≤ (k : Int)) = false := by simp; omega
  go_enter Try.func72, Try.ntmps72
  go_wp2
  go_ret2
  exact ⟨rfl, rfl⟩
theorem page_no (w : World) (bl : Nat) (n : Int) (ho : onB n = false) :
    Calls Try.prog 72 #[.pointer (some ⟨bl, 0, none⟩), .int .i64 n] w fun e w' => e = .returned (.tuple #[.pointer none, .iface 110 (.int .i64 1)]) ∧ w' = w := by
  rcases (onB_no n).1 ho with h0 | h0
  · have d0 : decide (n < 0) = true := by simp; omega
    clear ho
    go_enter Try.func72, Try.ntmps72
    go_wp2
    go_ret2
    exact ⟨rfl, rfl⟩
  · have d0 : decide (n < 0) = false := by simp; omega
    have d1 : decide (16 ≤ n) = true := by simp; omega
    clear ho
    go_enter Try.func72, Try.ntmps72
    go_wp2
    go_ret2
    exact ⟨rfl, rfl⟩

/-- The page is in its frame no more: the pool. -/
def leaveP (s : Pl) (m : Mp) (k : Nat) : Pl := if (m.lf k).there then (s.share (m.lf k).fr (-1)).2 else s
def leaveM (m : Mp) (k : Nat) : Mp := { m with lf := setAt m.lf k lf0 }
theorem leave_any (w : World) (bl bp bf k : Nat) (m : Mp) (s : Pl) (h : LvAt w bl bp m) (hp : PoolAt w bp bf s) (h1 : bl ≠ bp) (h2 : bl ≠ bf) (hk : k < 16) (hlt : bf < w.heap.size) (hm : ∀ k, k < s.n → s.refs k ≤ 1000000) :
    Calls Try.prog 73 #[.pointer (some ⟨bl, 0, none⟩), .pointer (some ⟨bl, 1 + k * 4, none⟩)] w fun e w' => e = .returned (.tuple #[]) ∧ PoolAt w' bp bf (leaveP s m k) ∧ LvAt w' bl bp (leaveM m k) ∧ Upd (fun k => k = bf ∨ k = bl) w w' := by
  have c0 := h.pool
  have c1 := h.th k hk
  have c2 := h.fr k hk
  have H1 : Hid _ := h1
  have H2 : Hid _ := h2
  cases ht : (m.lf k).there with
  | false =>
    have c3 := h.wr k hk
    rw [ht] at c1
    simp only [leaveP, ht, Bool.false_eq_true, if_false]
    have d4 := h.fz (1 + k * 4 + 1)
    have d5 := h.fz (1 + k * 4 + 1 + 1)
    have d6 := h.fz (1 + k * 4 + 1 + 2)
    have h3 := h.setLf hk lf0
    have hu3 := Upd.three w bl (1 + k * 4 + 1) (1 + k * 4 + 1 + 1) (1 + k * 4 + 1 + 2) (.bool lf0.there) (.bool lf0.wr) (.int .i64 lf0.fr)
    have hp3 := hp.upd hu3 (Ne.symm h1) (Ne.symm h2) hlt
    have H3 : Hid _ := h3
    have HU3 : Hid _ := hu3
    have HP3 : Hid _ := hp3
    clear ht h3 hu3 hp3 h1 h2
    go_enter Try.func73, Try.ntmps73
    go_wp2_with fail
    go_end0
    exact ⟨rfl, HP3.out, H3.out, HU3.out.wide (fun _ e => Or.inr e)⟩
  | true =>
    rw [ht] at c1
    simp only [leaveP, ht, if_true]
    clear ht h1 h2
    go_enter Try.func73, Try.ntmps73
    go_wp2_with fail
    go_region_held3 (fun w' => w'.cell? ⟨bl, 0, none⟩ = some (.pointer (some ⟨bp, 0, none⟩)) ∧ w'.cell? ⟨bl, 1 + k * 4 + 1 + 2, none⟩ = some (.int .i64 (m.lf k).fr)) (first | exact ⟨c0, c2⟩ | exact h1c)
      ((go_at_call 18; refine (drop_any _ _ _ _ s (by first | exact hp | exact hp.drew) hm).mono ?_; rintro e w1 ⟨rfl, hp1, hu1⟩; have h1c : w1.cell? ⟨bl, 0, none⟩ = some (.pointer (some ⟨bp, 0, none⟩)) ∧ w1.cell? ⟨bl, 1 + k * 4 + 1 + 2, none⟩ = some (.int .i64 (m.lf k).fr) := ⟨hu1.cell (by exact c0) H2.out, hu1.cell (by exact c2) H2.out⟩))
    have hu1' : Upd (fun k => k = bf) w w1 := (Upd.refl (fun k => k = bf) w).drew.trans hu1 (fun _ _ e => e)
    have hl1 := h.upd hu1' H2.out
    have d1 := hl1.th k hk
    have d2 := hl1.wr k hk
    have d3 := hl1.fr k hk
    have d4 := hl1.fz (1 + k * 4 + 1)
    have d5 := hl1.fz (1 + k * 4 + 1 + 1)
    have d6 := hl1.fz (1 + k * 4 + 1 + 2)
    have h3 := hl1.setLf hk lf0
    have hu3 := Upd.three w1 bl (1 + k * 4 + 1) (1 + k * 4 + 1 + 1) (1 + k * 4 + 1 + 2) (.bool lf0.there) (.bool lf0.wr) (.int .i64 lf0.fr)
    have hp3 := hp1.upd hu3 (Ne.symm H1.out) (Ne.symm H2.out) (Nat.lt_of_lt_of_le hlt hu1'.size)
    have hu4 := (hu1'.wide (T := fun k => k = bf ∨ k = bl) (fun _ e => Or.inl e)).trans hu3 (fun _ _ e => Or.inr e)
    have H3 : Hid _ := h3
    have HU4 : Hid _ := hu4
    have HP3 : Hid _ := hp3
    clear h3 hu3 hp3 hu4 hl1 hu1 hu1' hp1 h1c c0 c1 c2
    go_wp2_with fail
    go_end0
    exact ⟨rfl, HP3.out, H3.out, HU4.out⟩
theorem alone_any (w : World) (bl bp bf : Nat) (f : Int) (m : Mp) (s : Pl) (h : LvAt w bl bp m) (hp : PoolAt w bp bf s) (f0 : 0 ≤ f) (f1 : f < s.n) :
    Calls Try.prog 74 #[.pointer (some ⟨bl, 0, none⟩), .int .i64 f] w fun e w' => e = .returned (.bool (s.refs f.toNat == 1)) ∧ Upd (fun _ => False) w w' := by
  obtain ⟨k, rfl⟩ := Int.eq_ofNat_of_zero_le f0
  rw [Int.toNat_natCast]
  have c0 := h.pool
  have hb : (classOf (s.refs k) == 1) = (s.refs k == 1) := by
    unfold classOf
    split
    · rename_i e; rw [e]
    · split
      · rename_i e; rw [e]
      · rename_i e0 e1
        simp [e1]
  rw [← hb]
  clear hb
  go_enter Try.func74, Try.ntmps74
  go_wp2_with fail
  refine (of_yes _ _ _ _ s hp (by omega)).mono ?_
  rintro e w1 ⟨rfl, hu1⟩
  go_wp2_with fail
  have d1 : (w1.alloc (.cells #[.int .i64 (classOf (s.refs k)), .int .i64 (s.refs k)] 58)).cell? ⟨w1.heap.size, 0, none⟩ = some (.int .i64 (classOf (s.refs k))) := by rw [World.cell?_alloc_new]; rfl
  have hu2 := hu1.alloc (.cells #[.int .i64 (classOf (s.refs k)), .int .i64 (s.refs k)] 58)
  go_ret
  exact ⟨rfl, hu2⟩
end Go.Proofs.Ytadpibcgjgcjhaa
/- The document's answer for chapter 2: what its functions answer, and what they turn: On, turn, Plug, Unplug, Give, Seal. -/
namespace Go.Proofs.Ytadpibcgjgcjhaa
open Go.ChangeShapes Go.WideShapes Go.ChangeAt Go.RowKit
set_option maxRecDepth 100000
attribute [local go_sem ↓] Go.wp_at_zero Go.wp_at_succ

theorem on_any (w : World) (n : Int) : Calls Try.prog 105 #[.int .i64 n] w fun e w' => e = .returned (.bool (onB n)) ∧ w' = w := by
  by_cases h : onB n = true
  · obtain ⟨h0, h1⟩ := (onB_iff n).1 h
    rw [h]
    clear h
    go_enter Try.func105, Try.ntmps105
    go_wp2
    go_ret
    exact ⟨rfl, rfl⟩
  · have h' : onB n = false := by simpa using h
    rw [h']
    rcases (onB_no n).1 h' with h0 | h0
    · have hd : decide (0 ≤ n) = false := by simp; omega
      clear h h'
      go_enter Try.func105, Try.ntmps105
      go_wp2
      go_ret
      exact ⟨rfl, rfl⟩
    · have hd : decide (n < 16) = false := by simp; omega
      have h1 : 0 ≤ n := by omega
      clear h h'
      go_enter Try.func105, Try.ntmps105
      go_wp2
      go_ret
      exact ⟨rfl, rfl⟩
theorem on_is (w : World) (n : Int) {u : Bool} (h : onB n = u) : Calls Try.prog 105 #[.int .i64 n] w fun e w' => e = .returned (.bool u) ∧ w' = w := by
  subst h; exact on_any w n

/-- No leaf to give up: the state alone turns. -/
theorem turn_plain (w : World) (bx bm n : Nat) (z : Int) (m : Mp) (h : RMap w bx bm m) (hn : n < 16) (ht : ((m.lf n).there && !(z == 1)) = false) :
    Calls Try.prog 106 #[.pointer (some ⟨bx, 0, none⟩), .int .i64 n, .int .i64 z] w fun e w' => e = .returned (.tuple #[]) ∧ w' = w.setCell ⟨bx, 1 + n, none⟩ (.int .i64 z) := by
  have c1 := h.th n hn
  have c2 := h.st n hn
  have c3 := h.fz (1 + n)
  have n1 : (n : Int) < 16 := by omega
  cases hth : (m.lf n).there with
  | false =>
    rw [hth] at c1
    clear hth ht
    go_enter Try.func106, Try.ntmps106
    go_wp2
    go_end0
    exact ⟨rfl, rfl⟩
  | true =>
    rw [hth] at c1 ht
    have hz : z = 1 := by simpa using ht
    subst hz
    clear hth ht
    go_enter Try.func106, Try.ntmps106
    go_wp2
    go_end0
    exact ⟨rfl, rfl⟩
theorem turn_drop (w : World) (bx bm n : Nat) (z : Int) (m : Mp) (s : Pl) (h : RMap w bx bm m) (hr : RefAt w bm s) (hne : bx ≠ bm) (hn : n < 16) (hm : ∀ k, k < s.n → s.refs k ≤ 1000000) (ht : (m.lf n).there = true) (hz : (z != 1) = true) :
    Calls Try.prog 106 #[.pointer (some ⟨bx, 0, none⟩), .int .i64 n, .int .i64 z] w fun e w' => e = .returned (.tuple #[]) ∧ RefAt w' bm (s.share (m.lf n).fr (-1)).2 ∧ RMap w' bx bm { m with st := setAt m.st n z, lf := setAt m.lf n lf0 } ∧ Upd (fun k => k = bm ∨ k = bx) w w' := by
  have c0 := h.pool
  have c1 := h.th n hn
  rw [ht] at c1
  have c2 := h.fr n hn
  have n0 : (0 : Int) ≤ (n : Int) := by omega
  have n1 : (n : Int) < 16 := by omega
  have HNE : Hid _ := hne
  clear ht hne
  go_enter Try.func106, Try.ntmps106
  go_wp2_with fail
  go_region_held3 (fun w' => w'.cell? ⟨bx, 0, none⟩ = some (.pointer (some ⟨bm, 0, none⟩)) ∧ w'.cell? ⟨bx, 17 + n * 3 + 2, none⟩ = some (.int .i64 (m.lf n).fr)) (first | exact ⟨c0, c2⟩ | exact h1c)
    ((go_at_call 17; refine (rShare_any _ _ _ _ s (by first | exact hr | exact hr.drew) hm (by omega) (by omega)).mono ?_; rintro e w1 ⟨rfl, hr1, hu1⟩; have h1c : w1.cell? ⟨bx, 0, none⟩ = some (.pointer (some ⟨bm, 0, none⟩)) ∧ w1.cell? ⟨bx, 17 + n * 3 + 2, none⟩ = some (.int .i64 (m.lf n).fr) := ⟨hu1.cell (by exact c0) HNE.out, hu1.cell (by exact c2) HNE.out⟩))
  have hu1' : Upd (fun k => k = bm) w w1 := (Upd.refl (fun k => k = bm) w).drew.trans hu1 (fun _ _ e => e)
  have h1 := h.upd hu1' HNE.out
  have d1 := h1.th n hn
  have d2 := h1.wr n hn
  have d3 := h1.fr n hn
  have d4 := h1.fz
  have h2 := h1.setLf hn lf0
  have d5 := h2.st n hn
  have d6 := h2.fz (1 + n)
  have h3 := h2.setSt hn z
  have hr2 := (hr1.upd (Upd.three w1 bx (17 + n * 3) (17 + n * 3 + 1) (17 + n * 3 + 2) (.bool lf0.there) (.bool lf0.wr) (.int .i64 lf0.fr)) (Ne.symm HNE.out)).upd (Upd.one _ bx (1 + n) (.int .i64 z)) (Ne.symm HNE.out)
  have H3 : Hid _ := h3
  have HR2 : Hid _ := hr2
  have hu3 := (hu1'.wide (T := fun k => k = bm ∨ k = bx) (fun _ e => Or.inl e)).trans ((Upd.three w1 bx (17 + n * 3) (17 + n * 3 + 1) (17 + n * 3 + 2) (.bool lf0.there) (.bool lf0.wr) (.int .i64 lf0.fr)).trans (Upd.one _ bx (1 + n) (.int .i64 z)) (fun _ _ e => e)) (fun _ _ e => Or.inr e)
  have HU3 : Hid _ := hu3
  have d7 := d4 (17 + n * 3)
  have d8 := d4 (17 + n * 3 + 1)
  have d9 := d4 (17 + n * 3 + 2)
  have H1 : Hid _ := h1
  clear h3 hr2 hu3 d4 h2 h1 hu1 hu1' hr1 h1c c0 c1 c2
  simp only [lf0] at d5 d6
  go_wp2_with fail
  go_end0
  exact ⟨rfl, HR2.out, H3.out, HU3.out⟩

theorem turn_any (w : World) (bx bm n : Nat) (z : Int) (m : Mp) (s : Pl) (h : RMap w bx bm m) (hr : RefAt w bm s) (hne : bx ≠ bm) (hn : n < 16) (hm : ∀ k, k < s.n → s.refs k ≤ 1000000) :
    Calls Try.prog 106 #[.pointer (some ⟨bx, 0, none⟩), .int .i64 n, .int .i64 z] w fun e w' => e = .returned (.tuple #[]) ∧ RefAt w' bm (turnP s m n z) ∧ RMap w' bx bm (turnM m n z) ∧ Upd (fun k => k = bm ∨ k = bx) w w' := by
  cases ht : ((m.lf n).there && !(z == 1)) with
  | false =>
    refine (turn_plain w bx bm n z m h hn ht).mono ?_
    rintro e w' ⟨rfl, rfl⟩
    simp only [turnP, turnM, ht, Bool.false_eq_true, if_false]
    exact ⟨trivial, hr.upd (Upd.one _ _ _ _) (Ne.symm hne), h.setSt hn z, (Upd.one _ _ _ _).wide (fun _ e => Or.inr e)⟩
  | true =>
    have ht' := ht
    simp only [Bool.and_eq_true, Bool.not_eq_true', beq_eq_false_iff_ne, ne_eq] at ht'
    refine (turn_drop w bx bm n z m s h hr hne hn hm ht'.1 (by simp [ht'.2])).mono ?_
    rintro e w' ⟨rfl, h1, h2, h3⟩
    simp only [turnP, turnM, ht, if_true]
    exact ⟨trivial, h1, h2, h3⟩

theorem rPlug_any (w : World) (bx bm : Nat) (n : Int) (m : Mp) (s : Pl) (h : RMap w bx bm m) (hr : RefAt w bm s) (hne : bx ≠ bm) (hm : ∀ k, k < s.n → s.refs k ≤ 1000000) :
    Calls Try.prog 76 #[.pointer (some ⟨bx, 0, none⟩), .int .i64 n] w fun e w' => e = .returned (.int .i64 (plugR s m n).1) ∧ RefAt w' bm (plugR s m n).2.1 ∧ RMap w' bx bm (plugR s m n).2.2 ∧ Upd (fun k => k = bm ∨ k = bx) w w' := by
  cases ho : onB n with
  | false =>
    simp only [plugR, ho, Bool.false_eq_true, if_false]
    go_enter Try.func76, Try.ntmps76
    go_wp2_with (go_at_call 105; refine (on_is _ _ ho).mono ?_; rintro e w' ⟨rfl, rfl⟩)
    go_ret
    exact ⟨rfl, hr, h, Upd.refl _ _⟩
  | true =>
    obtain ⟨h0, h1⟩ := (onB_iff n).1 ho
    obtain ⟨k, rfl⟩ := Int.eq_ofNat_of_zero_le h0
    have hk : k < 16 := by omega
    have c1 := h.st k hk
    by_cases hs : m.st k = 0
    · simp only [plugR, ho, if_true, Int.toNat_natCast, hs]
      have b1 : (m.st k != 0) = false := by simp [hs]
      clear hs
      go_enter Try.func76, Try.ntmps76
      go_wp2_with (go_at_call 105; refine (on_is _ _ ho).mono ?_; rintro e w' ⟨rfl, rfl⟩)
      refine (turn_any _ _ _ k _ _ s h hr hne hk hm).mono ?_
      rintro e w1 ⟨rfl, a1, a2, a3⟩
      go_wp2_with fail
      go_ret
      exact ⟨rfl, a1, a2, a3⟩
    · simp only [plugR, ho, if_true, Int.toNat_natCast, hs, if_false]
      have b1 : (m.st k != 0) = true := by simp [hs]
      clear hs
      go_enter Try.func76, Try.ntmps76
      go_wp2_with (go_at_call 105; refine (on_is _ _ ho).mono ?_; rintro e w' ⟨rfl, rfl⟩)
      go_ret
      exact ⟨rfl, hr, h, Upd.refl _ _⟩
end Go.Proofs.Ytadpibcgjgcjhaa
/- The document's answer for chapter 2: Unplug, Give, Seal, Join. -/
namespace Go.Proofs.Ytadpibcgjgcjhaa
open Go.ChangeShapes Go.WideShapes Go.ChangeAt Go.RowKit
set_option maxRecDepth 100000
attribute [local go_sem ↓] Go.wp_at_zero Go.wp_at_succ

theorem rUnplug_any (w : World) (bx bm : Nat) (n : Int) (m : Mp) (s : Pl) (h : RMap w bx bm m) (hr : RefAt w bm s) (hne : bx ≠ bm) (hm : ∀ k, k < s.n → s.refs k ≤ 1000000) :
    Calls Try.prog 77 #[.pointer (some ⟨bx, 0, none⟩), .int .i64 n] w fun e w' => e = .returned (.int .i64 (unplugR s m n).1) ∧ RefAt w' bm (unplugR s m n).2.1 ∧ RMap w' bx bm (unplugR s m n).2.2 ∧ Upd (fun k => k = bm ∨ k = bx) w w' := by
  cases ho : onB n with
  | false =>
    simp only [unplugR, ho, Bool.false_eq_true, if_false]
    go_enter Try.func77, Try.ntmps77
    go_wp2_with (go_at_call 105; refine (on_is _ _ ho).mono ?_; rintro e w' ⟨rfl, rfl⟩)
    go_ret
    exact ⟨rfl, hr, h, Upd.refl _ _⟩
  | true =>
    obtain ⟨h0, h1⟩ := (onB_iff n).1 ho
    obtain ⟨k, rfl⟩ := Int.eq_ofNat_of_zero_le h0
    have hk : k < 16 := by omega
    have c1 := h.st k hk
    by_cases hs : m.st k = 0
    · simp only [unplugR, ho, if_true, Int.toNat_natCast, hs]
      have b1 : (m.st k == 0) = true := by simp [hs]
      clear hs
      go_enter Try.func77, Try.ntmps77
      go_wp2_with (go_at_call 105; refine (on_is _ _ ho).mono ?_; rintro e w' ⟨rfl, rfl⟩)
      go_ret
      exact ⟨rfl, hr, h, Upd.refl _ _⟩
    · simp only [unplugR, ho, if_true, Int.toNat_natCast, hs, if_false]
      have b1 : (m.st k == 0) = false := by simp [hs]
      clear hs
      go_enter Try.func77, Try.ntmps77
      go_wp2_with (go_at_call 105; refine (on_is _ _ ho).mono ?_; rintro e w' ⟨rfl, rfl⟩)
      refine (turn_any _ _ _ k _ _ s h hr hne hk hm).mono ?_
      rintro e w1 ⟨rfl, a1, a2, a3⟩
      go_wp2_with fail
      go_ret
      exact ⟨rfl, a1, a2, a3⟩
theorem rGive_any (w : World) (bx bm : Nat) (n : Int) (back : Bool) (m : Mp) (s : Pl) (h : RMap w bx bm m) (hr : RefAt w bm s) (hne : bx ≠ bm) (hm : ∀ k, k < s.n → s.refs k ≤ 1000000) :
    Calls Try.prog 79 #[.pointer (some ⟨bx, 0, none⟩), .int .i64 n, .bool back] w fun e w' => e = .returned (.int .i64 (giveR s m n back).1) ∧ RefAt w' bm (giveR s m n back).2.1 ∧ RMap w' bx bm (giveR s m n back).2.2 ∧ Upd (fun k => k = bm ∨ k = bx) w w' := by
  cases ho : onB n with
  | false =>
    simp only [giveR, ho, Bool.false_eq_true, if_false]
    go_enter Try.func79, Try.ntmps79
    go_wp2_with (go_at_call 105; refine (on_is _ _ ho).mono ?_; rintro e w' ⟨rfl, rfl⟩)
    go_ret
    exact ⟨rfl, hr, h, Upd.refl _ _⟩
  | true =>
    obtain ⟨h0, h1⟩ := (onB_iff n).1 ho
    obtain ⟨k, rfl⟩ := Int.eq_ofNat_of_zero_le h0
    have hk : k < 16 := by omega
    have c1 := h.st k hk
    cases back with
    | true =>
      by_cases hs : m.st k = 2
      · simp only [giveR, ho, if_true, Int.toNat_natCast, hs]
        have b1 : (m.st k == 2) = true := by simp [hs]
        clear hs
        go_enter Try.func79, Try.ntmps79
        go_wp2_with (go_at_call 105; refine (on_is _ _ ho).mono ?_; rintro e w' ⟨rfl, rfl⟩)
        refine (turn_any _ _ _ k _ _ s h hr hne hk hm).mono ?_
        rintro e w1 ⟨rfl, a1, a2, a3⟩
        go_wp2_with fail
        go_ret
        exact ⟨rfl, a1, a2, a3⟩
      · simp only [giveR, ho, if_true, Int.toNat_natCast, hs, if_false]
        have b1 : (m.st k == 2) = false := by simp [hs]
        clear hs
        go_enter Try.func79, Try.ntmps79
        go_wp2_with (go_at_call 105; refine (on_is _ _ ho).mono ?_; rintro e w' ⟨rfl, rfl⟩)
        go_ret
        exact ⟨rfl, hr, h, Upd.refl _ _⟩
    | false =>
      by_cases hs : m.st k = 1
      · simp only [giveR, ho, if_true, Int.toNat_natCast, hs, Bool.false_eq_true, if_false]
        have b1 : (m.st k == 1) = true := by simp [hs]
        clear hs
        go_enter Try.func79, Try.ntmps79
        go_wp2_with (go_at_call 105; refine (on_is _ _ ho).mono ?_; rintro e w' ⟨rfl, rfl⟩)
        refine (turn_any _ _ _ k _ _ s h hr hne hk hm).mono ?_
        rintro e w1 ⟨rfl, a1, a2, a3⟩
        go_wp2_with fail
        go_ret
        exact ⟨rfl, a1, a2, a3⟩
      · simp only [giveR, ho, if_true, Int.toNat_natCast, hs, if_false, Bool.false_eq_true]
        have b1 : (m.st k == 1) = false := by simp [hs]
        clear hs
        go_enter Try.func79, Try.ntmps79
        go_wp2_with (go_at_call 105; refine (on_is _ _ ho).mono ?_; rintro e w' ⟨rfl, rfl⟩)
        go_ret
        exact ⟨rfl, hr, h, Upd.refl _ _⟩
theorem rSeal_any (w : World) (bx bm : Nat) (n : Int) (m : Mp) (h : RMap w bx bm m) :
    Calls Try.prog 81 #[.pointer (some ⟨bx, 0, none⟩), .int .i64 n] w fun e w' => e = .returned (.int .i64 (sealR m n).1) ∧ RMap w' bx bm (sealR m n).2 ∧ Upd (fun k => k = bx) w w' := by
  cases ho : onB n with
  | false =>
    simp only [sealR, ho, Bool.false_eq_true, if_false]
    go_enter Try.func81, Try.ntmps81
    go_wp2_with (go_at_call 105; refine (on_is _ _ ho).mono ?_; rintro e w' ⟨rfl, rfl⟩)
    go_ret
    exact ⟨rfl, h, Upd.refl _ _⟩
  | true =>
    obtain ⟨h0, h1⟩ := (onB_iff n).1 ho
    obtain ⟨k, rfl⟩ := Int.eq_ofNat_of_zero_le h0
    have hk : k < 16 := by omega
    have c1 := h.th k hk
    have c2 := h.wr k hk
    have c3 := h.fz (17 + k * 3 + 1)
    cases ht : (m.lf k).there with
    | false =>
      simp only [sealR, ho, if_true, Int.toNat_natCast, ht, Bool.false_eq_true, if_false]
      rw [ht] at c1
      clear ht
      go_enter Try.func81, Try.ntmps81
      go_wp2_with (go_at_call 105; refine (on_is _ _ ho).mono ?_; rintro e w' ⟨rfl, rfl⟩)
      go_ret
      exact ⟨rfl, h, Upd.refl _ _⟩
    | true =>
      simp only [sealR, ho, if_true, Int.toNat_natCast, ht]
      rw [ht] at c1
      have h2 := h.setWr hk false
      simp only [ht] at h2
      have H2 : Hid _ := h2
      clear ht h2
      go_enter Try.func81, Try.ntmps81
      go_wp2_with (go_at_call 105; refine (on_is _ _ ho).mono ?_; rintro e w' ⟨rfl, rfl⟩)
      go_ret
      exact ⟨rfl, H2.out, Upd.one _ _ _ _⟩
end Go.Proofs.Ytadpibcgjgcjhaa
/- The document's answer for chapter 2: Join, Touch. -/
namespace Go.Proofs.Ytadpibcgjgcjhaa
open Go.ChangeShapes Go.WideShapes Go.ChangeAt Go.RowKit
set_option maxRecDepth 100000
attribute [local go_sem ↓] Go.wp_at_zero Go.wp_at_succ

/-- The box of a leaf. -/
structure LfAt (w : World) (q : Nat) (l : Lf) : Prop where
  c0 : w.cell? ⟨q, 0, none⟩ = some (.bool l.there)
  c1 : w.cell? ⟨q, 1, none⟩ = some (.bool l.wr)
  c2 : w.cell? ⟨q, 2, none⟩ = some (.int .i64 l.fr)
theorem LfAt.upd {S : Nat → Prop} {w w' : World} {q : Nat} {l : Lf} (h : LfAt w q l) (u : Upd S w w') (hq : ¬ S q) : LfAt w' q l := ⟨u.cell h.c0 hq, u.cell h.c1 hq, u.cell h.c2 hq⟩
theorem LfAt.new (w : World) (t : TypeId) (l : Lf) : LfAt (w.alloc (.cells #[.bool l.there, .bool l.wr, .int .i64 l.fr] t)) w.heap.size l :=
  ⟨by rw [World.cell?_alloc_new]; rfl, by rw [World.cell?_alloc_new]; rfl, by rw [World.cell?_alloc_new]; rfl⟩

theorem rJoin_no (w : World) (bx bm : Nat) (n f : Int) (m : Mp) (h : RMap w bx bm m) (ho : onB n = true) (ht : ((m.lf n.toNat).there && !((m.lf n.toNat).fr == f)) = false) :
    Calls Try.prog 82 #[.pointer (some ⟨bx, 0, none⟩), .int .i64 n, .int .i64 f] w fun e w' => e = .returned (.int .i64 8) ∧ Upd (fun _ => False) w w' := by
  obtain ⟨h0, h1⟩ := (onB_iff n).1 ho
  obtain ⟨k, rfl⟩ := Int.eq_ofNat_of_zero_le h0
  rw [Int.toNat_natCast] at ht
  have hk : k < 16 := by omega
  have c0 := h.th k hk
  have c1 := h.wr k hk
  have c2 := h.fr k hk
  cases htt : (m.lf k).there with
  | false =>
    rw [htt] at c0
    clear ht htt
    go_enter Try.func82, Try.ntmps82
    go_wp2_with (go_at_call 105; refine (on_is _ _ ho).mono ?_; rintro e w' ⟨rfl, rfl⟩)
    go_ret
    exact ⟨rfl, (Upd.refl _ _).alloc _⟩
  | true =>
    rw [htt] at c0 ht
    have hb : ((m.lf k).fr != f) = false := by
      simp only [Bool.true_and, Bool.not_eq_false', beq_iff_eq] at ht
      simp [ht]
    clear ht htt
    go_enter Try.func82, Try.ntmps82
    go_wp2_with (go_at_call 105; refine (on_is _ _ ho).mono ?_; rintro e w' ⟨rfl, rfl⟩)
    go_ret
    exact ⟨rfl, (Upd.refl _ _).alloc _⟩

theorem rSame_is (w : World) (bm : Nat) (f g : Int) (s : Pl) (h : RefAt w bm s) {u : Bool} (hu : s.same f g = u) :
    Calls Try.prog 26 #[.pointer (some ⟨bm, 0, none⟩), .int .i64 f, .int .i64 g] w fun e w' => e = .returned (.bool u) ∧ ∃ m, w' = w.drewN m := by
  subst hu; exact rSame_any w bm f g s h
theorem rJoin_diff (w : World) (bx bm : Nat) (n f : Int) (m : Mp) (s : Pl) (h : RMap w bx bm m) (hr : RefAt w bm s) (ho : onB n = true) (ht : (m.lf n.toNat).there = true) (hf : ((m.lf n.toNat).fr != f) = true) (hs : s.same (m.lf n.toNat).fr f = false) :
    Calls Try.prog 82 #[.pointer (some ⟨bx, 0, none⟩), .int .i64 n, .int .i64 f] w fun e w' => e = .returned (.int .i64 8) ∧ Upd (fun _ => False) w w' := by
  obtain ⟨h0, h1⟩ := (onB_iff n).1 ho
  obtain ⟨k, rfl⟩ := Int.eq_ofNat_of_zero_le h0
  rw [Int.toNat_natCast] at ht hf hs
  have hk : k < 16 := by omega
  have c0 := h.th k hk
  have c1 := h.wr k hk
  have c2 := h.fr k hk
  rw [ht] at c0
  have HS : Hid _ := hs
  clear ht hs
  go_enter Try.func82, Try.ntmps82
  go_wp2_with (go_at_call 105; refine (on_is _ _ ho).mono ?_; rintro e w' ⟨rfl, rfl⟩)
  have u1 := (Upd.refl (fun _ => False) w').alloc (.cells #[.bool true, .bool (m.lf k).wr, .int .i64 (m.lf k).fr] 69)
  have b1 := LfAt.new w' 69 ⟨true, (m.lf k).wr, (m.lf k).fr⟩
  revert u1 b1
  generalize w'.alloc (.cells #[.bool true, .bool (m.lf k).wr, .int .i64 (m.lf k).fr] 69) = w1
  generalize w'.heap.size = q
  intro u1 b1
  have hr1 := hr.upd u1 (fun f => f)
  have d0 := u1.cell h.pool (fun f => f)
  have d2 := b1.c2
  clear c0 c1 c2
  go_quiet ((go_at_call 26; exact Calls.quiet_of (rSame_is _ _ _ _ s (hr1.drewN _) HS.out)))
  go_wp2_with fail
  go_ret
  exact ⟨rfl, u1.drewN nq⟩
theorem rJoin_yes (w : World) (bx bm : Nat) (n f : Int) (m : Mp) (s : Pl) (h : RMap w bx bm m) (hr : RefAt w bm s) (hne : bx ≠ bm) (hm : ∀ k, k < s.n → s.refs k ≤ 999999) (ho : onB n = true) (ht : (m.lf n.toNat).there = true) (hf : ((m.lf n.toNat).fr != f) = true) (hs : s.same (m.lf n.toNat).fr f = true) :
    Calls Try.prog 82 #[.pointer (some ⟨bx, 0, none⟩), .int .i64 n, .int .i64 f] w fun e w' => e = .returned (.int .i64 0) ∧ RefAt w' bm ((s.share f 1).2.share (m.lf n.toNat).fr (-1)).2 ∧ RMap w' bx bm { m with lf := setAt m.lf n.toNat ⟨true, false, f⟩ } ∧ Upd (fun k => k = bm ∨ k = bx) w w' := by
  obtain ⟨h0, h1⟩ := (onB_iff n).1 ho
  obtain ⟨k, rfl⟩ := Int.eq_ofNat_of_zero_le h0
  rw [Int.toNat_natCast] at *
  have hk : k < 16 := by omega
  have k0 : (0 : Int) ≤ (k : Int) := by omega
  have k1 : (k : Int) < 16 := by omega
  have c0 := h.th k hk
  have c1 := h.wr k hk
  have c2 := h.fr k hk
  rw [ht] at c0
  have HS : Hid _ := hs
  have HNE : Hid _ := hne
  have hbm : bm < w.heap.size := World.block_lt_of_cell? _ _ hr.num
  have hbx := h.lt
  clear ht hs hne
  go_enter Try.func82, Try.ntmps82
  go_wp2_with (go_at_call 105; refine (on_is _ _ ho).mono ?_; rintro e w' ⟨rfl, rfl⟩)
  have u1 := (Upd.refl (fun _ => False) w').alloc (.cells #[.bool true, .bool (m.lf k).wr, .int .i64 (m.lf k).fr] 69)
  have b1 := LfAt.new w' 69 ⟨true, (m.lf k).wr, (m.lf k).fr⟩
  revert u1 b1 hbm hbx
  generalize w'.alloc (.cells #[.bool true, .bool (m.lf k).wr, .int .i64 (m.lf k).fr] 69) = w1
  generalize w'.heap.size = q
  intro hbm hbx u1 b1
  have hr1 := hr.upd u1 (fun f => f)
  have hx1 := h.upd u1 (fun f => f)
  have d0 := hx1.pool
  have d2 := b1.c2
  clear c0 c1 c2
  go_quiet ((go_at_call 26; exact Calls.quiet_of (rSame_is _ _ _ _ s (hr1.drewN _) HS.out)))
  have u2 := u1.drewN nq
  have hr2 := hr1.drewN nq
  have hx2 := hx1.drewN nq
  have b2 := b1.upd ((Upd.refl (fun _ => False) w1).drewN nq) (fun f => f)
  clear u1 hr1 hx1 b1 d0 d2
  revert u2 hr2 hx2 b2
  generalize w1.drewN nq = w2
  intro u2 hr2 hx2 b2
  have d0 := hx2.pool
  go_wp2_with fail
  refine (rShare_any _ _ _ _ s hr2 (fun k hk => by have := hm k hk; omega) (by omega) (by omega)).mono ?_
  rintro e w3 ⟨rfl, hr3, hu3⟩
  have hx3 := hx2.upd hu3 HNE.out
  have b3 := b2.upd hu3 (by omega)
  have e0 := hx3.pool
  have e2 := b3.c2
  have hm3 : ∀ k, k < (s.share f 1).2.n → (s.share f 1).2.refs k ≤ 1000000 := by
    have := share_bd (s := s) (f := f) (d := 1) (n := s.n) (B := 999998) rfl (fun f hf => by have := hm f hf; omega) (by omega)
    intro k hk
    have := this k (by rw [share_n] at hk; exact hk)
    omega
  clear d0 b2 hx2 hr2
  go_wp2_with fail
  go_region_held3 (fun w' => w'.cell? ⟨bx, 0, none⟩ = some (.pointer (some ⟨bm, 0, none⟩)) ∧ w'.cell? ⟨q, 2, none⟩ = some (.int .i64 (m.lf k).fr)) (first | exact ⟨e0, e2⟩ | exact h4c)
    ((go_at_call 17; refine (rShare_any _ _ _ _ (s.share f 1).2 (by first | exact hr3 | exact hr3.drew) hm3 (by omega) (by omega)).mono ?_; rintro e w4 ⟨rfl, hr4, hu4⟩; have h4c : w4.cell? ⟨bx, 0, none⟩ = some (.pointer (some ⟨bm, 0, none⟩)) ∧ w4.cell? ⟨q, 2, none⟩ = some (.int .i64 (m.lf k).fr) := ⟨hu4.cell (by exact e0) HNE.out, hu4.cell (by exact e2) (by show ¬ q = bm; omega)⟩))
  have hx4 := hx3.drew.upd hu4 HNE.out
  have g1 := hx4.th k hk
  have g2 := hx4.wr k hk
  have g3 := hx4.fr k hk
  have g4 := hx4.fz (17 + k * 3)
  have g5 := hx4.fz (17 + k * 3 + 1)
  have g6 := hx4.fz (17 + k * 3 + 2)
  have hx5 := hx4.setLf hk ⟨true, false, f⟩
  have hr5 := hr4.upd (Upd.three w4 bx (17 + k * 3) (17 + k * 3 + 1) (17 + k * 3 + 2) (.bool true) (.bool false) (.int .i64 f)) (Ne.symm HNE.out)
  have hu5 : Upd (fun k => k = bm ∨ k = bx) w' _ := (((u2.wide (T := fun k => k = bm ∨ k = bx) (fun _ f => f.elim)).trans hu3 (fun _ _ e => Or.inl e)).drew.trans hu4 (fun _ _ e => Or.inl e)).trans (Upd.three w4 bx (17 + k * 3) (17 + k * 3 + 1) (17 + k * 3 + 2) (.bool true) (.bool false) (.int .i64 f)) (fun _ _ e => Or.inr e)
  have HX5 : Hid _ := hx5
  have HR5 : Hid _ := hr5
  have HU5 : Hid _ := hu5
  clear hx5 hr5 hu5 hx4 hr4 hu4 h4c e0 e2 hx3 b3 hr3 hu3 u2
  go_wp2_with fail
  go_ret
  exact ⟨rfl, HR5.out, HX5.out, HU5.out⟩
end Go.Proofs.Ytadpibcgjgcjhaa
/- The document's answer for chapter 2: Touch. -/
namespace Go.Proofs.Ytadpibcgjgcjhaa
open Go.ChangeShapes Go.WideShapes Go.ChangeAt Go.RowKit
set_option maxRecDepth 100000
attribute [local go_sem ↓] Go.wp_at_zero Go.wp_at_succ

theorem rJoin_any (w : World) (bx bm : Nat) (n f : Int) (m : Mp) (s : Pl) (h : RMap w bx bm m) (hr : RefAt w bm s) (hne : bx ≠ bm) (hm : ∀ k, k < s.n → s.refs k ≤ 999999) :
    Calls Try.prog 82 #[.pointer (some ⟨bx, 0, none⟩), .int .i64 n, .int .i64 f] w fun e w' => e = .returned (.int .i64 (joinR s m n f).1) ∧ RefAt w' bm (joinR s m n f).2.1 ∧ RMap w' bx bm (joinR s m n f).2.2 ∧ Upd (fun k => k = bm ∨ k = bx) w w' := by
  cases ho : onB n with
  | false =>
    simp only [joinR, ho, Bool.false_eq_true, if_false]
    go_enter Try.func82, Try.ntmps82
    go_wp2_with (go_at_call 105; refine (on_is _ _ ho).mono ?_; rintro e w' ⟨rfl, rfl⟩)
    go_ret
    exact ⟨rfl, hr, h, Upd.refl _ _⟩
  | true =>
    cases ht : ((m.lf n.toNat).there && !((m.lf n.toNat).fr == f)) with
    | false =>
      refine (rJoin_no w bx bm n f m h ho ht).mono ?_
      rintro e w' ⟨rfl, hu⟩
      simp only [joinR, ho, ht, if_true, Bool.false_and, Bool.false_eq_true, if_false]
      exact ⟨trivial, hr.upd hu (fun f => f), h.upd hu (fun f => f), hu.wide (fun _ f => f.elim)⟩
    | true =>
      have ht' := ht
      simp only [Bool.and_eq_true, Bool.not_eq_true', beq_eq_false_iff_ne, ne_eq] at ht'
      cases hs : s.same (m.lf n.toNat).fr f with
      | false =>
        refine (rJoin_diff w bx bm n f m s h hr ho ht'.1 (by simp [ht'.2]) hs).mono ?_
        rintro e w' ⟨rfl, hu⟩
        simp only [joinR, ho, ht, hs, if_true, Bool.and_false, Bool.false_eq_true, if_false]
        exact ⟨trivial, hr.upd hu (fun f => f), h.upd hu (fun f => f), hu.wide (fun _ f => f.elim)⟩
      | true =>
        refine (rJoin_yes w bx bm n f m s h hr hne hm ho ht'.1 (by simp [ht'.2]) hs).mono ?_
        rintro e w' ⟨rfl, a1, a2, a3⟩
        simp only [joinR, ho, ht, hs, if_true, Bool.and_true]
        exact ⟨trivial, a1, a2, a3⟩

theorem touch_out (w : World) (bx : Nat) (n : Int) (wt : Bool) (ho : onB n = false) :
    Calls Try.prog 83 #[.pointer (some ⟨bx, 0, none⟩), .int .i64 n, .bool wt] w fun e w' => e = .returned (.tuple #[.int .i64 0, .bool false, .int .i64 1]) ∧ w' = w := by
  go_enter Try.func83, Try.ntmps83
  go_wp2_with (go_at_call 105; refine (on_is _ _ ho).mono ?_; rintro e w' ⟨rfl, rfl⟩)
  go_ret3
  exact ⟨rfl, rfl⟩
theorem touch_absent (w : World) (bx bm k : Nat) (wt : Bool) (m : Mp) (h : RMap w bx bm m) (hk : k < 16) (hs : m.st k = 0) :
    Calls Try.prog 83 #[.pointer (some ⟨bx, 0, none⟩), .int .i64 k, .bool wt] w fun e w' => e = .returned (.tuple #[.int .i64 0, .bool false, .int .i64 2]) ∧ w' = w := by
  have ho : onB (k : Int) = true := by simp [onB]; omega
  have c1 := h.st k hk
  have k1 : (k : Int) < 16 := by omega
  have b1 : (m.st k == 0) = true := by simp [hs]
  clear hs
  go_enter Try.func83, Try.ntmps83
  go_wp2_with (go_at_call 105; refine (on_is _ _ ho).mono ?_; rintro e w' ⟨rfl, rfl⟩)
  go_ret3
  exact ⟨rfl, rfl⟩
theorem touch_gone (w : World) (bx bm k : Nat) (wt : Bool) (m : Mp) (h : RMap w bx bm m) (hk : k < 16) (hs : m.st k = 2) :
    Calls Try.prog 83 #[.pointer (some ⟨bx, 0, none⟩), .int .i64 k, .bool wt] w fun e w' => e = .returned (.tuple #[.int .i64 0, .bool false, .int .i64 6]) ∧ w' = w := by
  have ho : onB (k : Int) = true := by simp [onB]; omega
  have c1 := h.st k hk
  have k1 : (k : Int) < 16 := by omega
  have b1 : (m.st k == 0) = false := by simp [hs]
  have b2 : (m.st k == 2) = true := by simp [hs]
  clear hs
  go_enter Try.func83, Try.ntmps83
  go_wp2_with (go_at_call 105; refine (on_is _ _ ho).mono ?_; rintro e w' ⟨rfl, rfl⟩)
  go_ret3
  exact ⟨rfl, rfl⟩
theorem touch_keep (w : World) (bx bm k : Nat) (wt : Bool) (m : Mp) (h : RMap w bx bm m) (hk : k < 16) (h0 : m.st k ≠ 0) (h2 : m.st k ≠ 2) (ht : (m.lf k).there = true) (hw : (!wt || (m.lf k).wr) = true) :
    Calls Try.prog 83 #[.pointer (some ⟨bx, 0, none⟩), .int .i64 k, .bool wt] w fun e w' => e = .returned (.tuple #[.int .i64 (m.lf k).fr, .bool false, .int .i64 0]) ∧ Upd (fun _ => False) w w' := by
  have ho : onB (k : Int) = true := by simp [onB]; omega
  have c1 := h.st k hk
  have k1 : (k : Int) < 16 := by omega
  have b1 : (m.st k == 0) = false := by simp [h0]
  have b2 : (m.st k == 2) = false := by simp [h2]
  have c2 := h.th k hk
  have c3 := h.wr k hk
  have c4 := h.fr k hk
  rw [ht] at c2
  clear h0 h2 ht
  cases wt with
  | false =>
    clear hw
    go_enter Try.func83, Try.ntmps83
    go_wp2_with (go_at_call 105; refine (on_is _ _ ho).mono ?_; rintro e w' ⟨rfl, rfl⟩)
    go_ret3
    exact ⟨rfl, (Upd.refl _ _).alloc _⟩
  | true =>
    have hw' : (m.lf k).wr = true := by simpa using hw
    rw [hw'] at c3
    clear hw hw'
    go_enter Try.func83, Try.ntmps83
    go_wp2_with (go_at_call 105; refine (on_is _ _ ho).mono ?_; rintro e w' ⟨rfl, rfl⟩)
    go_ret3
    exact ⟨rfl, (Upd.refl _ _).alloc _⟩
end Go.Proofs.Ytadpibcgjgcjhaa
